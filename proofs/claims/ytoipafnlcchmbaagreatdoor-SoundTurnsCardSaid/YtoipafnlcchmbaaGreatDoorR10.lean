/- The reference's Received (made by wip/tools/gen_r10.py). -/
import Derived.Test.YtoipafnlcchmbaaGreatDoorR5
import Derived.Test.YtoipafnlcchmbaaGreatDoorR4
import Derived.Test.YtoipafnlcchmbaaGreatDoorT2
import Derived.Test.YtoipafnlcchmbaaGreatDoorT3
import Derived.Test.YtoipafnlcchmbaaGreatDoorQH
namespace Go.Proofs.YtoipafnlcchmbaaGreatDoor
open Go.RowKit

theorem Sep.types {w : World} {a b : Value} {base base' sa sb na nb : Nat} {ea eb : TypeId} {xs ys : List Value} (ha : w.ownsRow base ea sa a na xs) (hb : w.ownsRow base' eb sb b nb ys) (h : ea ≠ eb) : Sep a b := by
  unfold Sep
  rcases ha.2 with ⟨rfl, _⟩ | ⟨g, cap, cur, rfl, _, h1, _⟩
  · exact Or.inl rfl
  · refine Or.inr fun e => ?_
    rcases hb.2 with ⟨rfl, _⟩ | ⟨g', cap', cur', rfl, _, h2, _⟩
    · simp [Value.ownBlock] at e
    · simp [Value.ownBlock] at e
      subst e
      have := h1.symm.trans h2
      simp at this
      exact h this.2
theorem pkCells_snoc (ks s : List Int) (ys : List Nat) (y : Nat) : pkCells ks s (ys ++ [y]) = pkCells ks s ys ++ (decodeA ks (at32 s y)).toList := by simp [pkCells]
theorem spanCells_len (l : List (Int × Int)) : (spanCells l).length = l.length * 2 := by
  induction l with
  | nil => rfl
  | cons p l ih => simp only [spanCells, List.flatMap_cons, List.length_append, List.length_cons, List.length_nil] at *; omega
theorem spanCells_at (l : List (Int × Int)) (i : Nat) (hi : i < l.length) : (spanCells l)[i * 2 + 1]? = some (.int .i64 (l.getD i (0, 0)).2) := by
  induction l generalizing i with
  | nil => simp at hi
  | cons p l ih =>
    cases i with
    | zero => rfl
    | succ i =>
      have := ih i (by simpa using hi)
      have e : spanCells (p :: l) = Value.int .i64 p.1 :: Value.int .i64 p.2 :: spanCells l := rfl
      rw [e, show (i + 1) * 2 + 1 = (i * 2 + 1) + 1 + 1 by omega]
      simpa using this
/-- The last span's end, set anew. -/
theorem spanCells_set (l : List (Int × Int)) (a b c : Int) : (spanCells (l ++ [(a, b)])).set (l.length * 2 + 1) (.int .i64 c) = spanCells (l ++ [(a, c)]) := by
  rw [spanCells_snoc, spanCells_snoc, List.set_append_right _ _ (by rw [spanCells_len]; omega), spanCells_len, show l.length * 2 + 1 - l.length * 2 = 1 by omega]
  rfl
/-- How far the reference has come. -/
def Come (ks s : List Int) (n : Nat) (ys : List Nat) (i : Nat) : Prop := ∃ k, Upto ks s ys k ∧ (k = i ∨ (n < k + 32 ∧ k ≤ i))
theorem Come.hit {ks s : List Int} {n i : Nat} {ys : List Nat} (h : Come ks s n ys i) (hn : s.length = n) (h1 : i + 32 ≤ n) (h2 : decodeE ks (at32 s i) = 0) : Come ks s n (ys ++ [i]) (i + 32) := by
  obtain ⟨k, hu, hk⟩ := h
  obtain rfl : k = i := by omega
  exact ⟨k + 32, hu.hit (by omega) h2, Or.inl rfl⟩
theorem Come.err {ks s : List Int} {n i : Nat} {ys : List Nat} (h : Come ks s n ys i) (hn : s.length = n) (h1 : i + 32 ≤ n) (h2 : decodeE ks (at32 s i) ≠ 0) : Come ks s n ys (i + 1) := by
  obtain ⟨k, hu, hk⟩ := h
  obtain rfl : k = i := by omega
  exact ⟨k + 1, hu.err (by omega) h2, Or.inl rfl⟩
theorem Come.short {ks s : List Int} {n i : Nat} {ys : List Nat} (h : Come ks s n ys i) (h1 : ¬ i + 32 ≤ n) : Come ks s n ys (i + 1) := by
  obtain ⟨k, hu, hk⟩ := h
  exact ⟨k, hu, Or.inr ⟨by omega, by omega⟩⟩
theorem Come.end_ {ks s : List Int} {n i : Nat} {ys : List Nat} (h : Come ks s n ys i) : (skSt ys).1 ≤ i ∧ ∀ p ∈ (skSt ys).2, p.2 < ((skSt ys).1 : Int) := by
  obtain ⟨k, hu, hk⟩ := h
  have := hu.end_le
  exact ⟨by omega, this.2⟩
/-- What the loop carries. -/
structure RecR (ks s : List Int) (n M : Nat) (W0 wr : World) (i : Nat) (ys : List Nat) (v6 v7 : Value) : Prop where
  come : Come ks s n ys i
  pk : wr.ownsRow M 97 22 v6 ys.length (pkCells ks s ys)
  sp : wr.ownsRow M 184 2 v7 (skipL ys i).length (spanCells (skipL ys i))
  below : Below M W0 wr
theorem infoSpan2 : (Tryz.prog.info? 184).map (fun i => (i.zero, i.size, i.bytes)) = some (some (.agg #[.int .i64 0, .int .i64 0]), 2, 16) := by kernel_rfl
theorem cells_two_new2 (w : World) (t : TypeId) (a b : Value) : ∀ (j : Nat) (u : Value), [a, b][j]? = some u → (w.alloc (.cells #[a, b] t)).cell? ((⟨w.heap.size, 0, none⟩ : Addr).add j) = some u := fun j u h => by
  have hadd : (⟨w.heap.size, 0, none⟩ : Addr).add j = ⟨w.heap.size, j, none⟩ := by unfold Addr.add; split <;> simp_all
  rw [hadd, (Blk.new w t #[a, b]).cell j]
  simpa using h
theorem run_mid32 (b off n c i : Nat) (h1 : i + 32 ≤ n) (h2 : n ≤ c) (w : World) : (Instr.sliceAt 106 (.slice (some ⟨b, off, none⟩) n c) (some (.int .i64 (i : Int))) (some (.int .i64 ((i : Int) + 32))) none).run Tryz.prog w = .ok (.slice (some ⟨b, off + i, none⟩) 32 (c - i)) w := by
  have b1 : (0 : Int) ≤ (i : Int) := by omega
  have b2 : (i : Int) + 32 ≤ (n : Int) := by omega
  have b3 : (n : Int) ≤ (c : Int) := by omega
  have b4 : (i : Int) ≤ (i : Int) + 32 := by omega
  have b5 : (i : Int) + 32 ≤ (c : Int) := by omega
  have b7 : ¬ (c = i) := by omega
  have b8 : ((i : Int) + 32).toNat - i = 32 := by omega
  have b9 : (0 : Int) ≤ (i : Int) + 32 := by omega
  go_simp
  first | done | omega | (simp [b7, b8]; done) | trace_state
theorem own_le {w : World} {base base' size n : Nat} {e : TypeId} {v : Value} {xs : List Value} (h : w.ownsRow base e size v n xs) (hb : base' ≤ base) : w.ownsRow base' e size v n xs := by
  rcases h with ⟨h1, h2 | ⟨g, cap, cur, hv, hg, r⟩⟩
  · exact ⟨h1, .inl h2⟩
  · exact ⟨h1, .inr ⟨g, cap, cur, hv, Nat.le_trans hb hg, r⟩⟩
theorem own_below {w w' : World} {base size n : Nat} {e : TypeId} {v : Value} {xs : List Value} (h : w.ownsRow base e size v n xs) (hb : Below w.heap.size w w') : w'.ownsRow base e size v n xs := ownsRow_block h (fun g hg => hb.block g (h.lt g hg).2)
theorem at32_all (s : List Int) (hs : AllB s) (i : Nat) (h : i + 32 ≤ s.length) : AllB (at32 s i) := by
  intro j hj
  rw [at32_len] at hj
  have : (at32 s i).getD j 0 = s.getD (i + j) 0 := by simp [at32, List.getD_eq_getElem?_getD, hj]
  rw [this]
  exact hs (i + j) (by omega)

set_option maxHeartbeats 8000000 in
set_option maxRecDepth 100000 in
theorem refReceived_any (ks : List Int) (k0 k1 k2 k3 k4 k5 k6 k7 : Int) (HKS : Hid (ks = [k0, k1, k2, k3, k4, k5, k6, k7])) (s : List Int) (A : Option Addr) (n c : Nat) (w : World) (hkb : AllB ks) (hsb : AllB s) (hn : n ≤ 32768) (hc : n ≤ c) (hz : BytesAt w A n s) :
    Calls Tryz.prog 81 #[.agg #[.int .u8 k0, .int .u8 k1, .int .u8 k2, .int .u8 k3, .int .u8 k4, .int .u8 k5, .int .u8 k6, .int .u8 k7], .slice A n c] w fun e w' => ∃ ys k vl vs, Upto ks s ys k ∧ n < k + 32 ∧ e = .returned (.tuple #[vl, vs]) ∧
      w'.ownsRow w.heap.size 97 22 vl ys.length (pkCells ks s ys) ∧ w'.ownsRow w.heap.size 184 2 vs (skipL ys n).length (spanCells (skipL ys n)) ∧ Below w.heap.size w w' := by
  obtain ⟨i0, hi, hz0, hz1, hz2⟩ := info_parts infoPkR
  obtain ⟨is, his, hs0, hs1, hs2⟩ := info_parts infoSpan2
  have HZ := Lib.hid hz
  have HKB := Lib.hid hkb
  have HSB := Lib.hid hsb
  have HSL : Hid (s.length = n) := hz.1
  clear hz hkb hsb
  go_enter Tryz.func81, Tryz.ntmps81
  go_upto_region 1 with fail
  obtain ⟨W0, hW0⟩ : ∃ X, X = w.alloc (.cells #[.int .u8 k0, .int .u8 k1, .int .u8 k2, .int .u8 k3, .int .u8 k4, .int .u8 k5, .int .u8 k6, .int .u8 k7] 94) := ⟨_, rfl⟩
  rw [← hW0]
  have hf := box_facts (W := w) _ _ W0 hW0
  have HK0 := Lib.hid hf.1
  have HB0 := Lib.hid hf.2
  obtain ⟨M, hM⟩ : ∃ M, M = w.heap.size + 1 := ⟨_, rfl⟩
  have HM0 : Hid (W0.heap.size = M) := by show _ = _; rw [hM, hW0]; simp
  have HME := Lib.hid hM
  clear hf hW0
  obtain ⟨N, hN⟩ : ∃ N, N = w.heap.size := ⟨_, rfl⟩
  rw [← hN] at HK0 HB0 HME hM ⊢
  have HNE := Lib.hid hN
  clear hN
  go_wp2
  go_loopw [6, 7, 8] (fun v6 v7 v8 wr => ∃ (i : Nat) (ys : List Nat), i ≤ n ∧ v8 = .int .i64 (i : Int) ∧ RecR ks s n M W0 wr i ys v6 v7) (fun _ _ v8 _ => n - (intOf v8).toNat)
  case atStart => exact ⟨0, [], Nat.zero_le _, rfl, ⟨⟨0, .nil, Or.inl rfl⟩, World.ownsRow_nil _ _ _ _, World.ownsRow_nil _ _ _ _, Below.refl _ _⟩⟩
  case round =>
    obtain ⟨i, ys, hin, rfl, hrr⟩ := hrel
    have HRR := Lib.hid hrr
    clear hrr
    by_cases hlt : i < n
    · by_cases h32 : i + 32 ≤ n
      · skip
        have hbs := HZ.out.keep (w' := wr) (by rw [← HNE.out]; exact HB0.out.trans (HRR.out.below.mono (by have := HME.out; omega)))
        obtain ⟨b, off, rfl, hcc⟩ := hbs.2.2 (by omega)
        have HCC : Hid (∀ j, j < n → wr.cell? ⟨b, off + j, none⟩ = some (.int .u8 (s.getD j 0))) := hcc
        clear hbs hcc
        have hsz : M ≤ wr.heap.size := by have := HRR.out.below.size; rw [HM0.out] at this; exact this
        have BZ : Hid (Blk (wr.alloc (.cells #[.int .u8 0, .int .u8 0, .int .u8 0, .int .u8 0, .int .u8 0, .int .u8 0, .int .u8 0, .int .u8 0, .int .u8 0, .int .u8 0, .int .u8 0, .int .u8 0, .int .u8 0, .int .u8 0, .int .u8 0, .int .u8 0, .int .u8 0, .int .u8 0, .int .u8 0, .int .u8 0, .int .u8 0, .int .u8 0, .int .u8 0, .int .u8 0, .int .u8 0, .int .u8 0, .int .u8 0, .int .u8 0, .int .u8 0, .int .u8 0, .int .u8 0, .int .u8 0] 98)) wr.heap.size 98 #[.int .u8 0, .int .u8 0, .int .u8 0, .int .u8 0, .int .u8 0, .int .u8 0, .int .u8 0, .int .u8 0, .int .u8 0, .int .u8 0, .int .u8 0, .int .u8 0, .int .u8 0, .int .u8 0, .int .u8 0, .int .u8 0, .int .u8 0, .int .u8 0, .int .u8 0, .int .u8 0, .int .u8 0, .int .u8 0, .int .u8 0, .int .u8 0, .int .u8 0, .int .u8 0, .int .u8 0, .int .u8 0, .int .u8 0, .int .u8 0, .int .u8 0, .int .u8 0]) := Blk.new wr _ _
        go_upto_region 7 with (refine wpList_store_row rfl 98 _ _ rfl wr.heap.size _ rfl rfl 98 _ BZ.out (by kernel_rfl) rfl (by simp [Value.oneCell']) ?_)
        obtain ⟨q, hq⟩ : ∃ q, q = wr.heap.size := ⟨_, rfl⟩
        rw [← hq] at BZ ⊢
        obtain ⟨W2, hW2⟩ : ∃ X, X = (wr.alloc (.cells #[.int .u8 0, .int .u8 0, .int .u8 0, .int .u8 0, .int .u8 0, .int .u8 0, .int .u8 0, .int .u8 0, .int .u8 0, .int .u8 0, .int .u8 0, .int .u8 0, .int .u8 0, .int .u8 0, .int .u8 0, .int .u8 0, .int .u8 0, .int .u8 0, .int .u8 0, .int .u8 0, .int .u8 0, .int .u8 0, .int .u8 0, .int .u8 0, .int .u8 0, .int .u8 0, .int .u8 0, .int .u8 0, .int .u8 0, .int .u8 0, .int .u8 0, .int .u8 0] 98)).setRow q #[.int .u8 0, .int .u8 0, .int .u8 0, .int .u8 0, .int .u8 0, .int .u8 0, .int .u8 0, .int .u8 0, .int .u8 0, .int .u8 0, .int .u8 0, .int .u8 0, .int .u8 0, .int .u8 0, .int .u8 0, .int .u8 0, .int .u8 0, .int .u8 0, .int .u8 0, .int .u8 0, .int .u8 0, .int .u8 0, .int .u8 0, .int .u8 0, .int .u8 0, .int .u8 0, .int .u8 0, .int .u8 0, .int .u8 0, .int .u8 0, .int .u8 0, .int .u8 0] := ⟨_, rfl⟩
        rw [← hW2]
        have hf := box_facts_row (W := wr) #[.int .u8 0, .int .u8 0, .int .u8 0, .int .u8 0, .int .u8 0, .int .u8 0, .int .u8 0, .int .u8 0, .int .u8 0, .int .u8 0, .int .u8 0, .int .u8 0, .int .u8 0, .int .u8 0, .int .u8 0, .int .u8 0, .int .u8 0, .int .u8 0, .int .u8 0, .int .u8 0, .int .u8 0, .int .u8 0, .int .u8 0, .int .u8 0, .int .u8 0, .int .u8 0, .int .u8 0, .int .u8 0, .int .u8 0, .int .u8 0, .int .u8 0, .int .u8 0] #[.int .u8 0, .int .u8 0, .int .u8 0, .int .u8 0, .int .u8 0, .int .u8 0, .int .u8 0, .int .u8 0, .int .u8 0, .int .u8 0, .int .u8 0, .int .u8 0, .int .u8 0, .int .u8 0, .int .u8 0, .int .u8 0, .int .u8 0, .int .u8 0, .int .u8 0, .int .u8 0, .int .u8 0, .int .u8 0, .int .u8 0, .int .u8 0, .int .u8 0, .int .u8 0, .int .u8 0, .int .u8 0, .int .u8 0, .int .u8 0, .int .u8 0, .int .u8 0] 98 hq W2 hW2
        have HQ2 := Lib.hid hf.1
        have HBX2 : Hid (Below q wr W2) := by rw [hq]; exact hf.2
        have HQ := Lib.hid hq
        clear hf hW2 BZ hq
        simp only [Act.put]
        have b1 : (0 : Int) ≤ (i : Int) := by omega
        have b2 : (i : Int) + 32 ≤ (n : Int) := by omega
        have b3 : (n : Int) ≤ (c : Int) := by omega
        have b4 : (i : Int) ≤ (c : Int) := by omega
        have b5 : (i : Int) + 32 ≤ (c : Int) := by omega
        have b6 : IntKind.i64.wrap ((i : Int) + 32) = (i : Int) + 32 := IntWalk.i64_in _ (by omega)
        have b7 : ¬ (c = i) := by omega
        have b8 : ((i : Int) + 32).toNat - i = 32 := by omega
        have hsl := run_mid32 b off n c i h32 hc
        refine wp_region_still_tail 6 (by kernel_rfl) (by kernel_rfl) ?_
        simp only [List.take_succ_cons, List.take_zero, List.drop_succ_cons, List.drop_zero]
        change wpStill _ _ (World.drew _) _ _ _
        repeat still_step
        refine wpStill_nil ?_
        change wpList _ _ _ _ _ (World.drew _)
        clear hsl
        have hcur : W2.drew.heap[q]? = some (Obj.cells ((List.replicate 32 (Value.int .u8 0)).toArray) 98 (0, 0)) := HQ2.out.drew
        refine wpList_copy_splice rfl (.tmp 23) (.tmp 28) 106 106 rfl 5 Tryz.underlying106 (by kernel_rfl) (some ⟨q, 0, none⟩) (some ⟨b, off + i, none⟩) 32 32 32 (c - i) rfl (by rfl) q 0 (List.replicate 32 (Value.int .u8 0)) 98 hcur ((at32 s i).map (Value.int .u8)) (by simp [at32_len])
          (fun _ => ⟨rfl, ⟨b, off + i, none⟩, rfl, fun j v hj => ?_⟩) (by simp [at32_len]) (fun v hv => ?_) q W2 ((Below.refl _ _).drew) (Nat.le_refl _) ?_
        · have hj32 : j < 32 := by have := (List.getElem?_eq_some_iff.1 hj).1; simpa [at32_len] using this
          have h1 := HCC.out (i + j) (by omega)
          have h2 := (HBX2.out.cell (p := ⟨b, off + (i + j), none⟩) (by rw [HQ.out]; exact World.block_lt_of_cell? _ _ h1)).trans h1
          have hadd : (⟨b, off + i, none⟩ : Addr).add j = ⟨b, off + (i + j), none⟩ := by unfold Addr.add; split <;> simp_all; omega
          rw [hadd]
          refine (show W2.drew.cell? _ = W2.cell? _ from rfl).trans (h2.trans ?_)
          rw [← hj]
          simp [at32, hj32]
        · obtain ⟨z, _, rfl⟩ := List.mem_map.1 hv
          rfl
        intro w3 hw3 hb3
        have HQ3 : Hid (Blk w3 q 98 (bytesA (at32 s i))) := by
          show _ = _
          rw [hw3.out]
          unfold splice bytesA
          simp [at32_len]
        have HBq : Hid (Below wr.heap.size wr w3) := by show Below _ _ _; rw [← HQ.out]; exact HBX2.out.trans hb3
        have HO6 := Lib.hid (own_below HRR.out.pk HBq.out)
        have HO7 := Lib.hid (own_below HRR.out.sp HBq.out)
        have HB3 : Hid (Below M W0 w3) := HRR.out.below.trans (HBq.out.mono hsz)
        have HK3 : Hid (Blk w3 N 94 #[.int .u8 k0, .int .u8 k1, .int .u8 k2, .int .u8 k3, .int .u8 k4, .int .u8 k5, .int .u8 k6, .int .u8 k7]) := HK0.out.below (by rw [HM0.out]; exact HB3.out)
        have HA32 : Hid (AllB (at32 s i)) := at32_all s HSB.out i (by rw [HSL.out]; exact h32)
        obtain ⟨sa, hsa⟩ : ∃ sa, sa = bytesA (at32 s i) := ⟨_, rfl⟩
        obtain ⟨da, hda⟩ : ∃ da, da = decodeA ks (at32 s i) := ⟨_, rfl⟩
        obtain ⟨D, hD⟩ : ∃ D, D = decodeE ks (at32 s i) := ⟨_, rfl⟩
        have HDEC : Hid (∀ W : World, Calls Tryz.prog 73 #[.agg #[.int .u8 k0, .int .u8 k1, .int .u8 k2, .int .u8 k3, .int .u8 k4, .int .u8 k5, .int .u8 k6, .int .u8 k7], .agg sa] W fun e w' => e = .returned (.tuple #[.agg da, .int .i64 D]) ∧ Below W.heap.size W w') := fun W => by
          have h := refDecode_any ks (at32 s i) W (by rw [HKS.out]; rfl) HKB.out (at32_len s i) HA32.out
          rw [← hda, ← hD, ← hsa] at h
          have hk : bytesA ks = #[.int .u8 k0, .int .u8 k1, .int .u8 k2, .int .u8 k3, .int .u8 k4, .int .u8 k5, .int .u8 k6, .int .u8 k7] := by rw [HKS.out]; rfl
          rw [hk] at h
          exact h
        rw [← hsa] at HQ3
        have HDA := Lib.hid hda
        have HDD := Lib.hid hD
        have ika : Hid ((Tryz.prog.info? 94).map (·.size) = some (#[.int .u8 k0, .int .u8 k1, .int .u8 k2, .int .u8 k3, .int .u8 k4, .int .u8 k5, .int .u8 k6, .int .u8 k7] : Array Value).size) := by show _ = _; kernel_rfl
        have isa : Hid ((Tryz.prog.info? 98).map (·.size) = some sa.size) := by show _ = _; rw [hsa, bytesA_size, at32_len]; kernel_rfl
        have dsz : Hid (da.size = 22) := by show _ = _; rw [hda]; exact decodeA_size ks _ (at32_len s i)
        have done1 : Hid (da.all (·.oneCell') = true) := by show _ = _; rw [hda]; exact decodeA_one ks _
        have hinfo : Hid ((Tryz.prog.info? 97).map (·.size) = some da.size) := by show _ = _; rw [dsz.out]; kernel_rfl
        clear b1 b2 b3 b4 b5 b6 b7 b8 hcur hw3 hb3 hsa hda hD HBX2 HQ2 HCC HA32 HBq
        go_wp2_with (first
          | (refine wpList_load_row rfl 94 _ rfl N rfl 94 #[.int .u8 k0, .int .u8 k1, .int .u8 k2, .int .u8 k3, .int .u8 k4, .int .u8 k5, .int .u8 k6, .int .u8 k7] (0, 0) _ HK3.out Tryz.underlying94 rfl ika.out ?_)
          | (refine wpList_load_row rfl 98 _ rfl q rfl 98 sa (0, 0) _ HQ3.out Tryz.underlying98 rfl isa.out ?_))
        refine Calls.mono (HDEC.out _) ?_
        rintro e w4 ⟨rfl, hb⟩
        have HP6 := Lib.hid (own_below HO6.out hb)
        have HP7 := Lib.hid (own_below HO7.out hb)
        have hsz3 : M ≤ w3.heap.size := by have := HB3.out.size; rw [HM0.out] at this; exact this
        have HB4 : Hid (Below M W0 w4) := HB3.out.trans (hb.mono hsz3)
        have hsz4 : M ≤ w4.heap.size := Nat.le_trans hsz3 hb.size
        have BZ : Hid (Blk (w4.alloc (.cells #[.int .i64 0, .int .i64 0, .int .i64 0, .int .i64 0, .int .u8 0, .int .u8 0, .int .u8 0, .int .u8 0, .int .u8 0, .int .u8 0, .int .u8 0, .int .u8 0, .int .u8 0, .int .u8 0, .int .u8 0, .int .u8 0, .int .u8 0, .int .u8 0, .int .u8 0, .int .u8 0, .int .u8 0, .int .u8 0] 97)) w4.heap.size 97 #[.int .i64 0, .int .i64 0, .int .i64 0, .int .i64 0, .int .u8 0, .int .u8 0, .int .u8 0, .int .u8 0, .int .u8 0, .int .u8 0, .int .u8 0, .int .u8 0, .int .u8 0, .int .u8 0, .int .u8 0, .int .u8 0, .int .u8 0, .int .u8 0, .int .u8 0, .int .u8 0, .int .u8 0, .int .u8 0]) := Blk.new w4 _ _
        have ho : Hid ((#[.int .i64 0, .int .i64 0, .int .i64 0, .int .i64 0, .int .u8 0, .int .u8 0, .int .u8 0, .int .u8 0, .int .u8 0, .int .u8 0, .int .u8 0, .int .u8 0, .int .u8 0, .int .u8 0, .int .u8 0, .int .u8 0, .int .u8 0, .int .u8 0, .int .u8 0, .int .u8 0, .int .u8 0, .int .u8 0] : Array Value).size = da.size) := by show _ = _; rw [dsz.out]; rfl
        clear hb HO6 HO7 HB3 HK3 HQ3 HDEC ika isa hsz3
        go_upto_region 9 with (refine wpList_store_row rfl 97 _ _ rfl w4.heap.size da rfl rfl 97 _ BZ.out hinfo.out ho.out done1.out ?_)
        obtain ⟨w5, hw5⟩ : ∃ X, X = (w4.alloc (.cells #[.int .i64 0, .int .i64 0, .int .i64 0, .int .i64 0, .int .u8 0, .int .u8 0, .int .u8 0, .int .u8 0, .int .u8 0, .int .u8 0, .int .u8 0, .int .u8 0, .int .u8 0, .int .u8 0, .int .u8 0, .int .u8 0, .int .u8 0, .int .u8 0, .int .u8 0, .int .u8 0, .int .u8 0, .int .u8 0] 97)).setRow w4.heap.size da := ⟨_, rfl⟩
        rw [← hw5]
        have hf := box_facts_row (W := w4) #[.int .i64 0, .int .i64 0, .int .i64 0, .int .i64 0, .int .u8 0, .int .u8 0, .int .u8 0, .int .u8 0, .int .u8 0, .int .u8 0, .int .u8 0, .int .u8 0, .int .u8 0, .int .u8 0, .int .u8 0, .int .u8 0, .int .u8 0, .int .u8 0, .int .u8 0, .int .u8 0, .int .u8 0, .int .u8 0] da 97 rfl w5 hw5
        have HQ5 := Lib.hid hf.1
        have HO6 := Lib.hid (own_below HP6.out hf.2)
        have HO7 := Lib.hid (own_below HP7.out hf.2)
        have HB5 : Hid (Below M W0 w5) := HB4.out.trans (hf.2.mono hsz4)
        have hsz5 : M ≤ w5.heap.size := Nat.le_trans hsz4 hf.2.size
        obtain ⟨g, hg⟩ : ∃ g, g = w4.heap.size := ⟨_, rfl⟩
        rw [← hg] at HQ5 ⊢
        clear hf hw5 BZ ho HP6 HP7 HB4 hsz4 hg
        by_cases hD0 : D = 0
        · have h1 : (D == 0) = true := by simp [hD0]
          have HC1 : Hid (Come ks s n (ys ++ [i]) (i + 32)) := HRR.out.come.hit HSL.out h32 (by rw [← HDD.out]; exact hD0)
          have hfold := fold22 da dsz.out
          have hs22 : da.size = 22 := dsz.out
          rw [hs22] at hfold
          have hyl : ys.length ≤ 2000 := by
            obtain ⟨k, hu, _⟩ := HRR.out.come
            have h2 := hu.le
            have h3 := HSL.out
            omega
          clear hD0
          go_wp2_with (first
            | (refine wpList_load_row rfl 97 _ rfl g rfl 97 da (0, 0) _ HQ5.out Tryz.underlying97 rfl hinfo.out ?_)
            | (at_builtin; refine wpList_append_own _ rfl _ _ 114 rfl M 97 i0 (.agg #[.int .i64 0, .int .i64 0, .int .i64 0, .int .i64 0, .int .u8 0, .int .u8 0, .int .u8 0, .int .u8 0, .int .u8 0, .int .u8 0, .int .u8 0, .int .u8 0, .int .u8 0, .int .u8 0, .int .u8 0, .int .u8 0, .int .u8 0, .int .u8 0, .int .u8 0, .int .u8 0, .int .u8 0, .int .u8 0]) 22 56 Tryz.underlying114 hi hz0 hz1 hz2 rfl (by decide) _ _ _ rfl (World.ownsRow.alloc HO6.out _) ⟨w5.heap.size, 0, none⟩ 1 1 da.toList rfl (by rw [Array.length_toList, dsz.out]) (cells_new _ _ _) (fun u hu => by have := Array.all_eq_true'.1 done1.out u (by simpa using hu); simpa using this) (by unfold maxLen; omega) (by omega) (by simp; omega) ?_; intro v9 w9 hown9 hgrow9 _))
          have R6 : w9.ownsRow M 97 22 v9 (ys ++ [i]).length (pkCells ks s (ys ++ [i])) := by
            rw [pkCells_snoc, List.length_append, ← HDA.out]
            exact hown9
          have R7 := Sep.kept (Sep.types HO6.out HO7.out (by decide)) (World.ownsRow.alloc HO7.out _) hgrow9
          have R9 : Below M W0 w9 := Below.grown (HB5.out.alloc hsz5 _) hgrow9 (by simp; omega) (fun j hj => (HO6.out.lt j hj).1)
          clear hown9 hgrow9 hfold hs22
          go_wp2
          go_roundw
          case rel => exact ⟨i + 32, ys ++ [i], by omega, by go_num, ⟨HC1.out, R6, by rw [skipL_hit]; exact R7, R9⟩⟩
          case measure => simp [intOf]; omega
        · have h1 : (D == 0) = false := by simp [hD0]
          have hD1 : decodeE ks (at32 s i) ≠ 0 := by rw [← HDD.out]; exact hD0
          clear hD0
          have HCM : Hid (Come ks s n ys (i + 1)) := HRR.out.come.err HSL.out h32 hD1
          have hend := HRR.out.come.end_
          by_cases hop : (skSt ys).1 < i
          · have e7 : skipL ys i = (skSt ys).2 ++ [(((skSt ys).1 : Int), (i : Int))] := skipL_open ys i hop
            have e8 : skipL ys (i + 1) = (skSt ys).2 ++ [(((skSt ys).1 : Int), ((i + 1 : Nat) : Int))] := skipL_open ys (i + 1) (by omega)
            have hLb : (skSt ys).2.length ≤ 2000 := by
              obtain ⟨k, hu, _⟩ := HRR.out.come
              have h1 := skSt_len ys
              have h2 := hu.le
              have h3 := HSL.out
              omega
            obtain ⟨L, hL⟩ : ∃ L, L = (skSt ys).2 := ⟨_, rfl⟩
            obtain ⟨E, hE⟩ : ∃ E, E = ((skSt ys).1 : Int) := ⟨_, rfl⟩
            rw [← hL, ← hE] at e7 e8
            rw [← hL] at hLb
            obtain ⟨m, hm⟩ : ∃ m, m = L.length := ⟨_, rfl⟩
            rw [← hm] at hLb
            have o7 := HO7.out
            rw [e7, List.length_append, List.length_cons, List.length_nil, ← hm] at o7
            obtain ⟨g7, cap7, hv7⟩ := ownsRow_succ o7
            subst hv7
            have hval : (spanCells (L ++ [(E, (i : Int))]))[m * 2 + 1]? = some (.int .i64 (i : Int)) := by
              rw [hm, spanCells_at (L ++ [(E, (i : Int))]) L.length (by simp)]
              simp
            have hcell := World.ownsRow.cellAt o7 (m * 2 + 1) (by omega)
            rw [hval] at hcell
            have hfro := World.ownsRow.frozenAt o7 (m * 2 + 1)
            have HST := Lib.hid (World.ownsRow.stored o7 (m * 2 + 1) (.int .i64 ((i : Int) + 1)))
            have HSP := Lib.hid (Sep.types o7 HO6.out (by decide))
            have E8 := Lib.hid e8
            have HMM := Lib.hid hm
            have HM7 : Hid (M ≤ g7) := (o7.lt g7 rfl).1
            have HBX := Lib.hid HB5.out
            clear o7 e7 e8 hval hend hL hE hm HO7
            go_wp2
            go_roundw
            case rel =>
              refine ⟨i + 1, ys, by omega, by go_num, ⟨HCM.out, Sep.kept HSP.out HO6.out HST.out.2, ?_, HBX.out.setCell (p := ⟨g7, m * 2 + 1, none⟩) HM7.out _⟩⟩
              have h9 := HST.out.1
              rw [HMM.out, spanCells_set] at h9
              rw [E8.out, List.length_append, List.length_cons, List.length_nil, HMM.out]
              exact h9
            case measure => simp [intOf]; omega
          · have e6 : (skSt ys).1 = i := by omega
            have e7 : skipL ys i = (skSt ys).2 := skipL_same ys i e6
            have e8 : skipL ys (i + 1) = (skSt ys).2 ++ [((i : Int), ((i + 1 : Nat) : Int))] := by rw [skipL_open ys (i + 1) (by omega), e6]
            obtain ⟨L, hL⟩ : ∃ L, L = (skSt ys).2 := ⟨_, rfl⟩
            have hLb : L.length ≤ 2000 := by
              obtain ⟨k, hu, _⟩ := HRR.out.come
              have h1 := skSt_len ys
              have h2 := hu.le
              have h3 := HSL.out
              rw [hL]; omega
            have hlast := hend.2
            rw [e6, ← hL] at hlast
            rw [← hL] at e7 e8
            have o7 := HO7.out
            rw [e7] at o7
            have hsz : M ≤ w5.heap.size := by have := (HB5.out).size; rw [HM0.out] at this; exact this
            have HBX := Lib.hid (HB5.out)
            have E8 := Lib.hid e8
            clear hend e6 e7 e8 hL HO7
            rcases List.eq_nil_or_concat L with hL0 | ⟨L1, x, hL1⟩
            · subst hL0
              rcases o7.2 with ⟨hv, _⟩ | ⟨g7, cap7, cur7, hv, _⟩
              · subst hv
                have HSP := Lib.hid (Sep.types o7 HO6.out (by decide))
                have O7 := Lib.hid o7
                clear o7
                go_wp2_with (at_builtin; refine wpList_append_own _ rfl _ _ 119 rfl M 184 is (.agg #[.int .i64 0, .int .i64 0]) 2 16 Tryz.underlying119 his hs0 hs1 hs2 rfl (by decide) _ _ _ rfl (World.ownsRow.alloc O7.out _) ⟨w5.heap.size, 0, none⟩ 1 1 [.int .i64 (i : Int), .int .i64 ((i : Int) + 1)] rfl rfl (cells_two_new2 _ _ _ _) (by simp [Value.oneCell']) (by unfold maxLen; omega) (by omega) (by simp; omega) ?_; intro v9 w9 hown9 hgrow9 _)
                have R7 : w9.ownsRow M 184 2 v9 (skipL ys (i + 1)).length (spanCells (skipL ys (i + 1))) := by
                  rw [E8.out, spanCells_snoc, List.length_append]
                  first | exact hown9 | (rw [HLM.out]; exact hown9)
                have R6 := Sep.kept HSP.out (World.ownsRow.alloc HO6.out _) hgrow9
                have R9 : Below M W0 w9 := Below.grown (HBX.out.alloc hsz _) hgrow9 (by simp; omega) (fun j hj => (O7.out.lt j hj).1)
                clear hown9 hgrow9
                go_wp2
                go_roundw
                case rel => exact ⟨i + 1, ys, by omega, by go_num, ⟨HCM.out, R6, R7, R9⟩⟩
                case measure => simp [intOf]; omega
              · subst hv
                have HSP := Lib.hid (Sep.types o7 HO6.out (by decide))
                have O7 := Lib.hid o7
                clear o7
                go_wp2_with (at_builtin; refine wpList_append_own _ rfl _ _ 119 rfl M 184 is (.agg #[.int .i64 0, .int .i64 0]) 2 16 Tryz.underlying119 his hs0 hs1 hs2 rfl (by decide) _ _ _ rfl (World.ownsRow.alloc O7.out _) ⟨w5.heap.size, 0, none⟩ 1 1 [.int .i64 (i : Int), .int .i64 ((i : Int) + 1)] rfl rfl (cells_two_new2 _ _ _ _) (by simp [Value.oneCell']) (by unfold maxLen; omega) (by omega) (by simp; omega) ?_; intro v9 w9 hown9 hgrow9 _)
                have R7 : w9.ownsRow M 184 2 v9 (skipL ys (i + 1)).length (spanCells (skipL ys (i + 1))) := by
                  rw [E8.out, spanCells_snoc, List.length_append]
                  first | exact hown9 | (rw [HLM.out]; exact hown9)
                have R6 := Sep.kept HSP.out (World.ownsRow.alloc HO6.out _) hgrow9
                have R9 : Below M W0 w9 := Below.grown (HBX.out.alloc hsz _) hgrow9 (by simp; omega) (fun j hj => (O7.out.lt j hj).1)
                clear hown9 hgrow9
                go_wp2
                go_roundw
                case rel => exact ⟨i + 1, ys, by omega, by go_num, ⟨HCM.out, R6, R7, R9⟩⟩
                case measure => simp [intOf]; omega
            · rw [List.concat_eq_append] at hL1
              have hx : x.2 < (i : Int) := hlast x (by rw [hL1]; simp)
              obtain ⟨m, hm⟩ : ∃ m, m = L1.length := ⟨_, rfl⟩
              have hlm : L.length = m + 1 := by rw [hL1, hm]; simp
              rw [hlm] at o7 hLb
              obtain ⟨g7, cap7, hv7⟩ := ownsRow_succ o7
              subst hv7
              have hval : (spanCells L)[m * 2 + 1]? = some (.int .i64 x.2) := by
                rw [hm, spanCells_at L L1.length (by rw [hL1]; simp), hL1]
                simp
              have hcell := World.ownsRow.cellAt o7 (m * 2 + 1) (by omega)
              rw [hval] at hcell
              obtain ⟨t, ht⟩ : ∃ t, t = x.2 := ⟨_, rfl⟩
              rw [← ht] at hcell hx
              have hne : (t == (i : Int)) = false := by simp; omega
              have HLM := Lib.hid hlm
              clear hval hL1 hm ht hlast hlm
              have HSP := Lib.hid (Sep.types o7 HO6.out (by decide))
              have O7 := Lib.hid o7
              clear o7
              go_wp2_with (at_builtin; refine wpList_append_own _ rfl _ _ 119 rfl M 184 is (.agg #[.int .i64 0, .int .i64 0]) 2 16 Tryz.underlying119 his hs0 hs1 hs2 rfl (by decide) _ _ _ rfl (World.ownsRow.alloc O7.out _) ⟨w5.heap.size, 0, none⟩ 1 1 [.int .i64 (i : Int), .int .i64 ((i : Int) + 1)] rfl rfl (cells_two_new2 _ _ _ _) (by simp [Value.oneCell']) (by unfold maxLen; omega) (by omega) (by simp; omega) ?_; intro v9 w9 hown9 hgrow9 _)
              have R7 : w9.ownsRow M 184 2 v9 (skipL ys (i + 1)).length (spanCells (skipL ys (i + 1))) := by
                rw [E8.out, spanCells_snoc, List.length_append]
                first | exact hown9 | (rw [HLM.out]; exact hown9)
              have R6 := Sep.kept HSP.out (World.ownsRow.alloc HO6.out _) hgrow9
              have R9 : Below M W0 w9 := Below.grown (HBX.out.alloc hsz _) hgrow9 (by simp; omega) (fun j hj => (O7.out.lt j hj).1)
              clear hown9 hgrow9
              go_wp2
              go_roundw
              case rel => exact ⟨i + 1, ys, by omega, by go_num, ⟨HCM.out, R6, R7, R9⟩⟩
              case measure => simp [intOf]; omega
      · have HO6 := Lib.hid HRR.out.pk
        have HO7 := Lib.hid HRR.out.sp
        have HCM : Hid (Come ks s n ys (i + 1)) := HRR.out.come.short h32
        have hend := HRR.out.come.end_
        by_cases hop : (skSt ys).1 < i
        · have e7 : skipL ys i = (skSt ys).2 ++ [(((skSt ys).1 : Int), (i : Int))] := skipL_open ys i hop
          have e8 : skipL ys (i + 1) = (skSt ys).2 ++ [(((skSt ys).1 : Int), ((i + 1 : Nat) : Int))] := skipL_open ys (i + 1) (by omega)
          have hLb : (skSt ys).2.length ≤ 2000 := by
            obtain ⟨k, hu, _⟩ := HRR.out.come
            have h1 := skSt_len ys
            have h2 := hu.le
            have h3 := HSL.out
            omega
          obtain ⟨L, hL⟩ : ∃ L, L = (skSt ys).2 := ⟨_, rfl⟩
          obtain ⟨E, hE⟩ : ∃ E, E = ((skSt ys).1 : Int) := ⟨_, rfl⟩
          rw [← hL, ← hE] at e7 e8
          rw [← hL] at hLb
          obtain ⟨m, hm⟩ : ∃ m, m = L.length := ⟨_, rfl⟩
          rw [← hm] at hLb
          have o7 := HO7.out
          rw [e7, List.length_append, List.length_cons, List.length_nil, ← hm] at o7
          obtain ⟨g7, cap7, hv7⟩ := ownsRow_succ o7
          subst hv7
          have hval : (spanCells (L ++ [(E, (i : Int))]))[m * 2 + 1]? = some (.int .i64 (i : Int)) := by
            rw [hm, spanCells_at (L ++ [(E, (i : Int))]) L.length (by simp)]
            simp
          have hcell := World.ownsRow.cellAt o7 (m * 2 + 1) (by omega)
          rw [hval] at hcell
          have hfro := World.ownsRow.frozenAt o7 (m * 2 + 1)
          have HST := Lib.hid (World.ownsRow.stored o7 (m * 2 + 1) (.int .i64 ((i : Int) + 1)))
          have HSP := Lib.hid (Sep.types o7 HO6.out (by decide))
          have E8 := Lib.hid e8
          have HMM := Lib.hid hm
          have HM7 : Hid (M ≤ g7) := (o7.lt g7 rfl).1
          have HBX := Lib.hid HRR.out.below
          clear o7 e7 e8 hval hend hL hE hm HO7
          go_wp2
          go_roundw
          case rel =>
            refine ⟨i + 1, ys, by omega, by go_num, ⟨HCM.out, Sep.kept HSP.out HO6.out HST.out.2, ?_, HBX.out.setCell (p := ⟨g7, m * 2 + 1, none⟩) HM7.out _⟩⟩
            have h9 := HST.out.1
            rw [HMM.out, spanCells_set] at h9
            rw [E8.out, List.length_append, List.length_cons, List.length_nil, HMM.out]
            exact h9
          case measure => simp [intOf]; omega
        · have e6 : (skSt ys).1 = i := by omega
          have e7 : skipL ys i = (skSt ys).2 := skipL_same ys i e6
          have e8 : skipL ys (i + 1) = (skSt ys).2 ++ [((i : Int), ((i + 1 : Nat) : Int))] := by rw [skipL_open ys (i + 1) (by omega), e6]
          obtain ⟨L, hL⟩ : ∃ L, L = (skSt ys).2 := ⟨_, rfl⟩
          have hLb : L.length ≤ 2000 := by
            obtain ⟨k, hu, _⟩ := HRR.out.come
            have h1 := skSt_len ys
            have h2 := hu.le
            have h3 := HSL.out
            rw [hL]; omega
          have hlast := hend.2
          rw [e6, ← hL] at hlast
          rw [← hL] at e7 e8
          have o7 := HO7.out
          rw [e7] at o7
          have hsz : M ≤ wr.heap.size := by have := (HRR.out.below).size; rw [HM0.out] at this; exact this
          have HBX := Lib.hid (HRR.out.below)
          have E8 := Lib.hid e8
          clear hend e6 e7 e8 hL HO7
          rcases List.eq_nil_or_concat L with hL0 | ⟨L1, x, hL1⟩
          · subst hL0
            rcases o7.2 with ⟨hv, _⟩ | ⟨g7, cap7, cur7, hv, _⟩
            · subst hv
              have HSP := Lib.hid (Sep.types o7 HO6.out (by decide))
              have O7 := Lib.hid o7
              clear o7
              go_wp2_with (at_builtin; refine wpList_append_own _ rfl _ _ 119 rfl M 184 is (.agg #[.int .i64 0, .int .i64 0]) 2 16 Tryz.underlying119 his hs0 hs1 hs2 rfl (by decide) _ _ _ rfl (World.ownsRow.alloc O7.out _) ⟨wr.heap.size, 0, none⟩ 1 1 [.int .i64 (i : Int), .int .i64 ((i : Int) + 1)] rfl rfl (cells_two_new2 _ _ _ _) (by simp [Value.oneCell']) (by unfold maxLen; omega) (by omega) (by simp; omega) ?_; intro v9 w9 hown9 hgrow9 _)
              have R7 : w9.ownsRow M 184 2 v9 (skipL ys (i + 1)).length (spanCells (skipL ys (i + 1))) := by
                rw [E8.out, spanCells_snoc, List.length_append]
                first | exact hown9 | (rw [HLM.out]; exact hown9)
              have R6 := Sep.kept HSP.out (World.ownsRow.alloc HO6.out _) hgrow9
              have R9 : Below M W0 w9 := Below.grown (HBX.out.alloc hsz _) hgrow9 (by simp; omega) (fun j hj => (O7.out.lt j hj).1)
              clear hown9 hgrow9
              go_wp2
              go_roundw
              case rel => exact ⟨i + 1, ys, by omega, by go_num, ⟨HCM.out, R6, R7, R9⟩⟩
              case measure => simp [intOf]; omega
            · subst hv
              have HSP := Lib.hid (Sep.types o7 HO6.out (by decide))
              have O7 := Lib.hid o7
              clear o7
              go_wp2_with (at_builtin; refine wpList_append_own _ rfl _ _ 119 rfl M 184 is (.agg #[.int .i64 0, .int .i64 0]) 2 16 Tryz.underlying119 his hs0 hs1 hs2 rfl (by decide) _ _ _ rfl (World.ownsRow.alloc O7.out _) ⟨wr.heap.size, 0, none⟩ 1 1 [.int .i64 (i : Int), .int .i64 ((i : Int) + 1)] rfl rfl (cells_two_new2 _ _ _ _) (by simp [Value.oneCell']) (by unfold maxLen; omega) (by omega) (by simp; omega) ?_; intro v9 w9 hown9 hgrow9 _)
              have R7 : w9.ownsRow M 184 2 v9 (skipL ys (i + 1)).length (spanCells (skipL ys (i + 1))) := by
                rw [E8.out, spanCells_snoc, List.length_append]
                first | exact hown9 | (rw [HLM.out]; exact hown9)
              have R6 := Sep.kept HSP.out (World.ownsRow.alloc HO6.out _) hgrow9
              have R9 : Below M W0 w9 := Below.grown (HBX.out.alloc hsz _) hgrow9 (by simp; omega) (fun j hj => (O7.out.lt j hj).1)
              clear hown9 hgrow9
              go_wp2
              go_roundw
              case rel => exact ⟨i + 1, ys, by omega, by go_num, ⟨HCM.out, R6, R7, R9⟩⟩
              case measure => simp [intOf]; omega
          · rw [List.concat_eq_append] at hL1
            have hx : x.2 < (i : Int) := hlast x (by rw [hL1]; simp)
            obtain ⟨m, hm⟩ : ∃ m, m = L1.length := ⟨_, rfl⟩
            have hlm : L.length = m + 1 := by rw [hL1, hm]; simp
            rw [hlm] at o7 hLb
            obtain ⟨g7, cap7, hv7⟩ := ownsRow_succ o7
            subst hv7
            have hval : (spanCells L)[m * 2 + 1]? = some (.int .i64 x.2) := by
              rw [hm, spanCells_at L L1.length (by rw [hL1]; simp), hL1]
              simp
            have hcell := World.ownsRow.cellAt o7 (m * 2 + 1) (by omega)
            rw [hval] at hcell
            obtain ⟨t, ht⟩ : ∃ t, t = x.2 := ⟨_, rfl⟩
            rw [← ht] at hcell hx
            have hne : (t == (i : Int)) = false := by simp; omega
            have HLM := Lib.hid hlm
            clear hval hL1 hm ht hlast hlm
            have HSP := Lib.hid (Sep.types o7 HO6.out (by decide))
            have O7 := Lib.hid o7
            clear o7
            go_wp2_with (at_builtin; refine wpList_append_own _ rfl _ _ 119 rfl M 184 is (.agg #[.int .i64 0, .int .i64 0]) 2 16 Tryz.underlying119 his hs0 hs1 hs2 rfl (by decide) _ _ _ rfl (World.ownsRow.alloc O7.out _) ⟨wr.heap.size, 0, none⟩ 1 1 [.int .i64 (i : Int), .int .i64 ((i : Int) + 1)] rfl rfl (cells_two_new2 _ _ _ _) (by simp [Value.oneCell']) (by unfold maxLen; omega) (by omega) (by simp; omega) ?_; intro v9 w9 hown9 hgrow9 _)
            have R7 : w9.ownsRow M 184 2 v9 (skipL ys (i + 1)).length (spanCells (skipL ys (i + 1))) := by
              rw [E8.out, spanCells_snoc, List.length_append]
              first | exact hown9 | (rw [HLM.out]; exact hown9)
            have R6 := Sep.kept HSP.out (World.ownsRow.alloc HO6.out _) hgrow9
            have R9 : Below M W0 w9 := Below.grown (HBX.out.alloc hsz _) hgrow9 (by simp; omega) (fun j hj => (O7.out.lt j hj).1)
            clear hown9 hgrow9
            go_wp2
            go_roundw
            case rel => exact ⟨i + 1, ys, by omega, by go_num, ⟨HCM.out, R6, R7, R9⟩⟩
            case measure => simp [intOf]; omega
    · obtain rfl : i = n := by omega
      obtain ⟨k, hu, hk⟩ := HRR.out.come
      have HU := Lib.hid hu
      have hk2 : i < k + 32 := by omega
      have HBF : Hid (Below N w wr) := HB0.out.trans (HRR.out.below.mono (by have := HME.out; omega))
      clear hu hk
      go_wp2
      go_ret2
      refine ⟨ys, k, _, _, HU.out, hk2, rfl, own_le HRR.out.pk (by rw [← HNE.out, HME.out]; omega), own_le HRR.out.sp (by rw [← HNE.out, HME.out]; omega), ?_⟩
      rw [← HNE.out]
      exact HBF.out
end Go.Proofs.YtoipafnlcchmbaaGreatDoor
