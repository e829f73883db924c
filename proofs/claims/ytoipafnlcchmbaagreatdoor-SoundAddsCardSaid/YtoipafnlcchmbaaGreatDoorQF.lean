/- The seal. The seal, in the reference. Equality of arrays of integers. -/
import Derived.Test.YtoipafnlcchmbaaGreatDoorQEx
import Derived.ChangeKeysEq
namespace Go.Proofs.YtoipafnlcchmbaaGreatDoor
open Go.RowKit

/-- A slice of bytes reads as a list. -/
def BytesAt (w : World) (A : Option Addr) (n : Nat) (bs : List Int) : Prop :=
  bs.length = n ∧ (∀ i, i < n → 0 ≤ bs.getD i 0 ∧ bs.getD i 0 ≤ 255) ∧ (0 < n → ∃ b off, A = some ⟨b, off, none⟩ ∧ ∀ i, i < n → w.cell? ⟨b, off + i, none⟩ = some (.int .u8 (bs.getD i 0)))
theorem BytesAt.keep {w w' : World} {A : Option Addr} {n : Nat} {bs : List Int} (h : BytesAt w A n bs) (hb : Below w.heap.size w w') : BytesAt w' A n bs := by
  refine ⟨h.1, h.2.1, fun hn => ?_⟩
  obtain ⟨b, off, rfl, hc⟩ := h.2.2 hn
  exact ⟨b, off, rfl, fun i hi => by
    have h1 := hc i hi
    rw [hb.cell (p := ⟨b, off + i, none⟩) (World.block_lt_of_cell? _ _ h1)]
    exact h1⟩

def sealStep (f a x b : Int) : Int := (f * x + b + a) % 256
theorem sealStep_eq (f s y a : Int) : ((f * s + y) % 256 + a) % 256 = sealStep f a s y := by
  unfold sealStep
  generalize f * s = p
  omega
def sealTo (f a x : Int) (bs : List Int) : Int := bs.foldl (sealStep f a) x
def sealAt (j : Nat) (x : Int) (bs : List Int) : Int := sealTo (4 * j + 3) (5 * j + 2) x bs
theorem sealTo_snoc (f a x : Int) (bs : List Int) (k : Nat) (h : k < bs.length) : sealTo f a x (bs.take (k + 1)) = sealStep f a (sealTo f a x (bs.take k)) (bs.getD k 0) := by
  rw [take_snocI bs k h]; simp [sealTo]
theorem sealTo_bd (f a x : Int) (hx : 0 ≤ x ∧ x ≤ 255) (bs : List Int) : 0 ≤ sealTo f a x bs ∧ sealTo f a x bs ≤ 255 := by
  unfold sealTo
  induction bs generalizing x with
  | nil => exact hx
  | cons b l ih => exact ih _ (by unfold sealStep; omega)

def keyV (k0 k1 k2 k3 k4 k5 k6 k7 : Int) : Value := .agg #[.int .u8 k0, .int .u8 k1, .int .u8 k2, .int .u8 k3, .int .u8 k4, .int .u8 k5, .int .u8 k6, .int .u8 k7]
def sealArr (ks bs : List Int) (k : Nat) : Array Value := ((List.range 8).map fun i => Value.int .u8 (if i < k then sealAt i (ks.getD i 0) bs else ks.getD i 0)).toArray
theorem sealArr_at (ks bs : List Int) (k i : Nat) (hi : i < 8) : (sealArr ks bs k)[i]? = some (.int .u8 (if i < k then sealAt i (ks.getD i 0) bs else ks.getD i 0)) := by
  unfold sealArr
  simp [hi]
theorem sealArr_set (ks bs : List Int) (k : Nat) : (sealArr ks bs k).setIfInBounds k (.int .u8 (sealAt k (ks.getD k 0) bs)) = sealArr ks bs (k + 1) := by
  apply Array.ext
  · simp [sealArr]
  · intro i h1 h2
    simp only [sealArr, List.size_toArray, List.length_map, List.length_range] at h2
    rw [Array.getElem_setIfInBounds]
    simp only [sealArr, List.getElem_toArray, List.getElem_map, List.getElem_range]
    by_cases h : k = i
    · subst h; simp
    · rw [if_neg h]
      by_cases h3 : i < k
      · rw [if_pos h3, if_pos (by omega)]
      · rw [if_neg h3, if_neg (by omega)]
    · simp [sealArr]; omega
theorem sealArr_zero (k0 k1 k2 k3 k4 k5 k6 k7 : Int) (bs : List Int) : sealArr [k0, k1, k2, k3, k4, k5, k6, k7] bs 0 = #[.int .u8 k0, .int .u8 k1, .int .u8 k2, .int .u8 k3, .int .u8 k4, .int .u8 k5, .int .u8 k6, .int .u8 k7] := rfl
theorem sealArr_eight (k0 k1 k2 k3 k4 k5 k6 k7 : Int) (bs : List Int) : sealArr [k0, k1, k2, k3, k4, k5, k6, k7] bs 8 = #[.int .u8 (sealAt 0 k0 bs), .int .u8 (sealAt 1 k1 bs), .int .u8 (sealAt 2 k2 bs), .int .u8 (sealAt 3 k3 bs), .int .u8 (sealAt 4 k4 bs), .int .u8 (sealAt 5 k5 bs), .int .u8 (sealAt 6 k6 bs), .int .u8 (sealAt 7 k7 bs)] := rfl
theorem indexKey (k : Nat) (hk : k < 8) (k0 k1 k2 k3 k4 k5 k6 k7 : Int) (W : World) :
    (Instr.index 94 (.agg #[.int .u8 k0, .int .u8 k1, .int .u8 k2, .int .u8 k3, .int .u8 k4, .int .u8 k5, .int .u8 k6, .int .u8 k7]) (.int .i64 (k : Int))).run Tryz.prog W = .ok (.int .u8 ([k0, k1, k2, k3, k4, k5, k6, k7].getD k 0)) W := by
  match k, hk with
  | 0, _ => show _ = _; kernel_rfl
  | 1, _ => show _ = _; kernel_rfl
  | 2, _ => show _ = _; kernel_rfl
  | 3, _ => show _ = _; kernel_rfl
  | 4, _ => show _ = _; kernel_rfl
  | 5, _ => show _ = _; kernel_rfl
  | 6, _ => show _ = _; kernel_rfl
  | 7, _ => show _ = _; kernel_rfl

def Key8 (k0 k1 k2 k3 k4 k5 k6 k7 : Int) : Prop := ∀ i, i < 8 → 0 ≤ [k0, k1, k2, k3, k4, k5, k6, k7].getD i 0 ∧ [k0, k1, k2, k3, k4, k5, k6, k7].getD i 0 ≤ 255

set_option maxHeartbeats 8000000 in
set_option maxRecDepth 100000 in
theorem seal_any (k0 k1 k2 k3 k4 k5 k6 k7 : Int) (A : Option Addr) (n c : Nat) (bs : List Int) (w : World) (hn : n ≤ 140737488351232) (hk8 : Key8 k0 k1 k2 k3 k4 k5 k6 k7) (hz : BytesAt w A n bs) :
    Calls Tryz.prog 138 #[.agg #[.int .u8 k0, .int .u8 k1, .int .u8 k2, .int .u8 k3, .int .u8 k4, .int .u8 k5, .int .u8 k6, .int .u8 k7], .slice A n c] w fun e w' => e = .returned (.agg #[.int .u8 (sealAt 0 k0 bs), .int .u8 (sealAt 1 k1 bs), .int .u8 (sealAt 2 k2 bs), .int .u8 (sealAt 3 k3 bs), .int .u8 (sealAt 4 k4 bs), .int .u8 (sealAt 5 k5 bs), .int .u8 (sealAt 6 k6 bs), .int .u8 (sealAt 7 k7 bs)]) ∧ Below w.heap.size w w' := by
  have HZ := Lib.hid hz
  clear hz
  go_enter Tryz.func138, Tryz.ntmps138
  go_wp2_with fail
  obtain ⟨W0, hW0⟩ : ∃ W0, W0 = ((w.alloc (.cells #[.int .u8 k0, .int .u8 k1, .int .u8 k2, .int .u8 k3, .int .u8 k4, .int .u8 k5, .int .u8 k6, .int .u8 k7] 94)).alloc (.cells #[.int .u8 0, .int .u8 0, .int .u8 0, .int .u8 0, .int .u8 0, .int .u8 0, .int .u8 0, .int .u8 0] 94)) := ⟨_, rfl⟩
  rw [← hW0]
  have B0 : Blk W0 w.heap.size 94 (sealArr [k0, k1, k2, k3, k4, k5, k6, k7] bs 0) := by rw [hW0]; exact (Blk.new w _ _).alloc _
  have B1 : Blk W0 (w.heap.size + 1) 94 #[.int .u8 0, .int .u8 0, .int .u8 0, .int .u8 0, .int .u8 0, .int .u8 0, .int .u8 0, .int .u8 0] := by rw [hW0]; simpa using Blk.new (w.alloc (.cells #[.int .u8 k0, .int .u8 k1, .int .u8 k2, .int .u8 k3, .int .u8 k4, .int .u8 k5, .int .u8 k6, .int .u8 k7] 94)) 94 #[.int .u8 0, .int .u8 0, .int .u8 0, .int .u8 0, .int .u8 0, .int .u8 0, .int .u8 0, .int .u8 0]
  have hB : Below w.heap.size w W0 := by rw [hW0]; exact ((Below.refl _ w).alloc (Nat.le_refl _) _).alloc (by simp) _
  obtain ⟨K, hK⟩ : ∃ K, K = [k0, k1, k2, k3, k4, k5, k6, k7] := ⟨_, rfl⟩
  rw [← hK] at B0
  have hix : Hid (∀ (k : Nat), k < 8 → ∀ W : World, (Instr.index 94 (.agg #[.int .u8 k0, .int .u8 k1, .int .u8 k2, .int .u8 k3, .int .u8 k4, .int .u8 k5, .int .u8 k6, .int .u8 k7]) (.int .i64 (k : Int))).run Tryz.prog W = .ok (.int .u8 (K.getD k 0)) W) := by
    intro k hk W
    rw [hK]
    exact indexKey k hk k0 k1 k2 k3 k4 k5 k6 k7 W
  have hK8 : Hid (∀ i, i < 8 → 0 ≤ K.getD i 0 ∧ K.getD i 0 ≤ 255) := by rw [hK]; exact hk8
  have HK := Lib.hid hK
  have HB0 := Lib.hid B0
  have HB1 := Lib.hid B1
  have HBW := Lib.hid hB
  clear hK hk8 B0 B1 hB hW0
  go_loopw [12] (fun i wr => ∃ k : Nat, k ≤ 8 ∧ i = .int .i64 k ∧ Blk wr w.heap.size 94 (sealArr K bs k) ∧ Blk wr (w.heap.size + 1) 94 #[.int .u8 0, .int .u8 0, .int .u8 0, .int .u8 0, .int .u8 0, .int .u8 0, .int .u8 0, .int .u8 0] ∧ Below w.heap.size w wr) (fun i _ => 8 - (intOf i).toNat)
  case atStart => exact ⟨0, Nat.zero_le _, rfl, HB0.out, HB1.out, HBW.out⟩
  case round =>
    clear HB0 HB1 HBW
    obtain ⟨k, hk, rfl, hb0, hb1, hbw⟩ := hrel
    have HB0 := Lib.hid hb0
    have HB1 := Lib.hid hb1
    have HB := Lib.hid hbw
    by_cases hlt : k < 8
    · have hi := hix.out k hlt
      have hkb := hK8.out k hlt
      have HZ1 := Lib.hid (HZ.out.keep hbw)
      obtain ⟨x, hx⟩ : ∃ x, x = K.getD k 0 := ⟨_, rfl⟩
      rw [← hx] at hi hkb
      have HX := Lib.hid hx
      have HKB := Lib.hid hkb
      clear hx hb0 hb1 hbw hkb
      obtain ⟨W1, hW1⟩ : ∃ W1 : World, W1 = wr := ⟨_, rfl⟩
      rw [← hW1] at HB0 HB1 HB HZ1 ⊢
      clear hW1
      go_wp2
      clear hi
      obtain ⟨f, hf⟩ : ∃ f : Int, f = 4 * (k : Int) + 3 := ⟨_, rfl⟩
      obtain ⟨a, ha⟩ : ∃ a : Int, a = 5 * (k : Int) + 2 := ⟨_, rfl⟩
      rw [← hf, ← ha]
      have HF := Lib.hid hf
      have HA := Lib.hid ha
      have f1 : 0 ≤ f := by omega
      have f2 : f ≤ 31 := by omega
      have a1 : 0 ≤ a := by omega
      have a2 : a ≤ 37 := by omega
      clear hf ha
      go_loop [6, 10, 26] (fun x2 _ i => ∃ m : Nat, m ≤ n ∧ i = .int .i64 m ∧ x2 = .int .u8 (sealTo f a x (bs.take m))) (fun _ _ i => n - (intOf i).toNat)
      case atStart => exact ⟨0, Nat.zero_le _, rfl, rfl⟩
      case round =>
        obtain ⟨m, hm, rfl, rfl⟩ := hrel
        have sb := sealTo_bd f a x HKB.out (bs.take m)
        by_cases hlt2 : m < n
        · obtain ⟨b, off, rfl, hcc⟩ := HZ1.out.2.2 (by omega)
          have hb := HZ1.out.2.1 m hlt2
          have h0 := hcc m hlt2
          have HS := Lib.hid (sealTo_snoc f a x bs m (by rw [HZ1.out.1]; exact hlt2))
          obtain ⟨y, hy⟩ : ∃ y, y = bs.getD m 0 := ⟨_, rfl⟩
          obtain ⟨s, hs⟩ : ∃ s, s = sealTo f a x (bs.take m) := ⟨_, rfl⟩
          rw [← hy] at h0 hb HS
          rw [← hs] at sb HS ⊢
          clear hcc hy hs
          obtain ⟨sb1, sb2⟩ := sb
          obtain ⟨hb1, hb2⟩ := hb
          go_wp2
          go_round
          case rel =>
            refine ⟨m + 1, by omega, by go_num, ?_⟩
            rw [HS.out]
            exact congrArg (Value.int .u8) (sealStep_eq f s y a)
          case measure => simp [intOf]; omega
        · obtain rfl : m = n := by omega
          have ck : W1.cell? ⟨w.heap.size, k, none⟩ = some (.int .u8 x) := by
            rw [HB0.out.cell k, sealArr_at K bs k k hlt, if_neg (by omega), HX.out]
          have fk := HB0.out.frozen k
          have hk8 : (k : Int) < 8 := by omega
          have hfin : Hid (sealTo f a x (bs.take m) = sealAt k x bs) := by
            show _ = _
            rw [← HZ1.out.1, List.take_length, HF.out, HA.out]; rfl
          go_wp2
          go_roundw
          case rel =>
            refine ⟨k + 1, by omega, by go_num, ?_, HB1.out.far (p := ⟨w.heap.size, k, none⟩) (by simp) _, HB.out.setCell (p := ⟨w.heap.size, k, none⟩) (Nat.le_refl _) _⟩
            have := HB0.out.set_ k (.int .u8 (sealAt k (K.getD k 0) bs))
            rw [sealArr_set] at this
            rw [hfin.out, HX.out]
            exact this
          case measure => simp [intOf]; omega
    · obtain rfl : k = 8 := by omega
      have D0 : Blk wr w.heap.size 94 #[.int .u8 (sealAt 0 k0 bs), .int .u8 (sealAt 1 k1 bs), .int .u8 (sealAt 2 k2 bs), .int .u8 (sealAt 3 k3 bs), .int .u8 (sealAt 4 k4 bs), .int .u8 (sealAt 5 k5 bs), .int .u8 (sealAt 6 k6 bs), .int .u8 (sealAt 7 k7 bs)] := by rw [HK.out] at hb0; exact hb0
      clear hb0 hbw
      have xc0 := D0.cell 0; have xf0 := D0.frozen 0; have xc1 := D0.cell 1; have xf1 := D0.frozen 1; have xc2 := D0.cell 2; have xf2 := D0.frozen 2; have xc3 := D0.cell 3; have xf3 := D0.frozen 3; have xc4 := D0.cell 4; have xf4 := D0.frozen 4; have xc5 := D0.cell 5; have xf5 := D0.frozen 5; have xc6 := D0.cell 6; have xf6 := D0.frozen 6; have xc7 := D0.cell 7; have xf7 := D0.frozen 7
      simp only [List.getElem?_toArray, List.getElem?_cons_zero, List.getElem?_cons_succ] at xc0 xc1 xc2 xc3 xc4 xc5 xc6 xc7
      clear D0
      have zc0 := hb1.cell 0; have zf0 := hb1.frozen 0; have zc1 := hb1.cell 1; have zf1 := hb1.frozen 1; have zc2 := hb1.cell 2; have zf2 := hb1.frozen 2; have zc3 := hb1.cell 3; have zf3 := hb1.frozen 3; have zc4 := hb1.cell 4; have zf4 := hb1.frozen 4; have zc5 := hb1.cell 5; have zf5 := hb1.frozen 5; have zc6 := hb1.cell 6; have zf6 := hb1.frozen 6; have zc7 := hb1.cell 7; have zf7 := hb1.frozen 7
      simp only [List.getElem?_toArray, List.getElem?_cons_zero, List.getElem?_cons_succ] at zc0 zc1 zc2 zc3 zc4 zc5 zc6 zc7
      clear hb1
      go_wp2
      generalize hWf : World.setCell _ _ _ = Wf
      have D : Blk Wf (w.heap.size + 1) 94 #[.int .u8 (sealAt 0 k0 bs), .int .u8 (sealAt 1 k1 bs), .int .u8 (sealAt 2 k2 bs), .int .u8 (sealAt 3 k3 bs), .int .u8 (sealAt 4 k4 bs), .int .u8 (sealAt 5 k5 bs), .int .u8 (sealAt 6 k6 bs), .int .u8 (sealAt 7 k7 bs)] := by rw [← hWf]; exact HB1.out.set8 _ _ _ _ _ _ _ _
      have hBf : Below w.heap.size w Wf := by
        rw [← hWf]
        exact below_set8 HB.out (by omega) _ _ _ _ _ _ _ _
      obtain ⟨d0, d1, d2, d3, d4, d5, d6, d7⟩ := results8 D
      exact bodyPost_ret (v := .agg #[.int .u8 (sealAt 0 k0 bs), .int .u8 (sealAt 1 k1 bs), .int .u8 (sealAt 2 k2 bs), .int .u8 (sealAt 3 k3 bs), .int .u8 (sealAt 4 k4 bs), .int .u8 (sealAt 5 k5 bs), .int .u8 (sealAt 6 k6 bs), .int .u8 (sealAt 7 k7 bs)]) (by simp [results, Tryz.results138, go_sem, d0, d1, d2, d3, d4, d5, d6, d7]) rfl ⟨rfl, hBf⟩

def outArr (ks bs : List Int) (k : Nat) : Array Value := ((List.range 8).map fun i => Value.int .u8 (if i < k then sealAt i (ks.getD i 0) bs else 0)).toArray
theorem outArr_at (ks bs : List Int) (k i : Nat) (hi : i < 8) : (outArr ks bs k)[i]? = some (.int .u8 (if i < k then sealAt i (ks.getD i 0) bs else 0)) := by
  unfold outArr
  simp [hi]
theorem outArr_set (ks bs : List Int) (k : Nat) : (outArr ks bs k).setIfInBounds k (.int .u8 (sealAt k (ks.getD k 0) bs)) = outArr ks bs (k + 1) := by
  apply Array.ext
  · simp [outArr]
  · intro i h1 h2
    simp only [outArr, List.size_toArray, List.length_map, List.length_range] at h2
    rw [Array.getElem_setIfInBounds]
    simp only [outArr, List.getElem_toArray, List.getElem_map, List.getElem_range]
    by_cases h : k = i
    · subst h; simp
    · rw [if_neg h]
      by_cases h3 : i < k
      · rw [if_pos h3, if_pos (by omega)]
      · rw [if_neg h3, if_neg (by omega)]
    · simp [outArr]; omega
theorem outArr_zero (ks bs : List Int) : outArr ks bs 0 = #[.int .u8 0, .int .u8 0, .int .u8 0, .int .u8 0, .int .u8 0, .int .u8 0, .int .u8 0, .int .u8 0] := rfl
theorem outArr_eight (k0 k1 k2 k3 k4 k5 k6 k7 : Int) (bs : List Int) : outArr [k0, k1, k2, k3, k4, k5, k6, k7] bs 8 = #[.int .u8 (sealAt 0 k0 bs), .int .u8 (sealAt 1 k1 bs), .int .u8 (sealAt 2 k2 bs), .int .u8 (sealAt 3 k3 bs), .int .u8 (sealAt 4 k4 bs), .int .u8 (sealAt 5 k5 bs), .int .u8 (sealAt 6 k6 bs), .int .u8 (sealAt 7 k7 bs)] := rfl
theorem refStep_eq (k s y : Int) : ((4 * k + 3) * s + y + 5 * k + 2) % 256 = sealStep (4 * k + 3) (5 * k + 2) s y := by
  unfold sealStep
  generalize (4 * k + 3) * s = p
  omega
theorem prod_bd (k : Nat) (s : Int) (hk : k < 8) (h1 : 0 ≤ s) (h2 : s ≤ 255) : 0 ≤ (4 * (k : Int) + 3) * s ∧ (4 * (k : Int) + 3) * s ≤ 8000 := by
  have a1 : (4 * (k : Int) + 3) * s ≤ 31 * s := Int.mul_le_mul_of_nonneg_right (by omega) h1
  exact ⟨Int.mul_nonneg (by omega) h1, by omega⟩
theorem key_at (k0 k1 k2 k3 k4 k5 k6 k7 : Int) (i : Nat) (h : i < 8) : (#[.int .u8 k0, .int .u8 k1, .int .u8 k2, .int .u8 k3, .int .u8 k4, .int .u8 k5, .int .u8 k6, .int .u8 k7] : Array Value)[i]? = some (.int .u8 ([k0, k1, k2, k3, k4, k5, k6, k7].getD i 0)) := by
  match i, h with
  | 0, _ => rfl
  | 1, _ => rfl
  | 2, _ => rfl
  | 3, _ => rfl
  | 4, _ => rfl
  | 5, _ => rfl
  | 6, _ => rfl
  | 7, _ => rfl

theorem size_of_blk {w : World} {g : Nat} {t : TypeId} {cs : Array Value} (h : Blk w g t cs) : g < w.heap.size := lt_of_block h

set_option maxHeartbeats 4000000 in
set_option maxRecDepth 100000 in
theorem Seal_any (k0 k1 k2 k3 k4 k5 k6 k7 : Int) (A : Option Addr) (n c : Nat) (bs : List Int) (w : World) (hn : n ≤ 400000) (hk8 : Key8 k0 k1 k2 k3 k4 k5 k6 k7) (hz : BytesAt w A n bs) :
    Calls Tryz.prog 69 #[.agg #[.int .u8 k0, .int .u8 k1, .int .u8 k2, .int .u8 k3, .int .u8 k4, .int .u8 k5, .int .u8 k6, .int .u8 k7], .slice A n c] w fun e w' => e = .returned (.tuple #[.agg #[.int .u8 (sealAt 0 k0 bs), .int .u8 (sealAt 1 k1 bs), .int .u8 (sealAt 2 k2 bs), .int .u8 (sealAt 3 k3 bs), .int .u8 (sealAt 4 k4 bs), .int .u8 (sealAt 5 k5 bs), .int .u8 (sealAt 6 k6 bs), .int .u8 (sealAt 7 k7 bs)], .int .i64 0]) ∧ Below w.heap.size w w' := by
  have HZ := Lib.hid hz
  have HK := Lib.hid hk8
  clear hz hk8
  go_enter Tryz.func69, Tryz.ntmps69
  go_wp2_with fail
  obtain ⟨W0, hW0⟩ : ∃ W0, W0 = ((w.alloc (.cells #[.int .u8 k0, .int .u8 k1, .int .u8 k2, .int .u8 k3, .int .u8 k4, .int .u8 k5, .int .u8 k6, .int .u8 k7] 94)).alloc (.cells #[.int .u8 0, .int .u8 0, .int .u8 0, .int .u8 0, .int .u8 0, .int .u8 0, .int .u8 0, .int .u8 0] 94)) := ⟨_, rfl⟩
  rw [← hW0]
  have B1 : Blk W0 (w.heap.size + 1) 94 #[.int .u8 0, .int .u8 0, .int .u8 0, .int .u8 0, .int .u8 0, .int .u8 0, .int .u8 0, .int .u8 0] := by rw [hW0]; simpa using Blk.new (w.alloc (.cells #[.int .u8 k0, .int .u8 k1, .int .u8 k2, .int .u8 k3, .int .u8 k4, .int .u8 k5, .int .u8 k6, .int .u8 k7] 94)) 94 #[.int .u8 0, .int .u8 0, .int .u8 0, .int .u8 0, .int .u8 0, .int .u8 0, .int .u8 0, .int .u8 0]
  have hB : Hid (Below w.heap.size w W0) := by rw [hW0]; exact ((Below.refl _ w).alloc (Nat.le_refl _) _).alloc (by simp) _
  have HZ0 := Lib.hid (HZ.out.keep hB.out)
  have HB1 := Lib.hid B1
  clear hW0 B1
  refine (seal_any k0 k1 k2 k3 k4 k5 k6 k7 A n c bs W0 (by omega) HK.out HZ0.out).mono ?_
  rintro e w1 ⟨rfl, hb⟩
  have C1 := HB1.out.below hb
  have HC1 := Lib.hid C1
  have HB2 : Hid (Below w.heap.size w w1) := hB.out.trans (hb.mono hB.out.size)
  clear hb
  have zc0 := C1.cell 0; have zf0 := C1.frozen 0; have zc1 := C1.cell 1; have zf1 := C1.frozen 1; have zc2 := C1.cell 2; have zf2 := C1.frozen 2; have zc3 := C1.cell 3; have zf3 := C1.frozen 3; have zc4 := C1.cell 4; have zf4 := C1.frozen 4; have zc5 := C1.cell 5; have zf5 := C1.frozen 5; have zc6 := C1.cell 6; have zf6 := C1.frozen 6; have zc7 := C1.cell 7; have zf7 := C1.frozen 7
  simp only [List.getElem?_toArray, List.getElem?_cons_zero, List.getElem?_cons_succ] at zc0 zc1 zc2 zc3 zc4 zc5 zc6 zc7
  clear C1
  go_wp2
  generalize hWf : World.setCell _ _ _ = Wf
  have D : Blk Wf (w.heap.size + 1) 94 #[.int .u8 (sealAt 0 k0 bs), .int .u8 (sealAt 1 k1 bs), .int .u8 (sealAt 2 k2 bs), .int .u8 (sealAt 3 k3 bs), .int .u8 (sealAt 4 k4 bs), .int .u8 (sealAt 5 k5 bs), .int .u8 (sealAt 6 k6 bs), .int .u8 (sealAt 7 k7 bs)] := by rw [← hWf]; exact HC1.out.set8 _ _ _ _ _ _ _ _
  have hBf : Below w.heap.size w Wf := by
    rw [← hWf]
    exact below_set8 HB2.out (by omega) _ _ _ _ _ _ _ _
  obtain ⟨d0, d1, d2, d3, d4, d5, d6, d7⟩ := results8 D
  exact bodyPost_ret (v := .tuple #[.agg #[.int .u8 (sealAt 0 k0 bs), .int .u8 (sealAt 1 k1 bs), .int .u8 (sealAt 2 k2 bs), .int .u8 (sealAt 3 k3 bs), .int .u8 (sealAt 4 k4 bs), .int .u8 (sealAt 5 k5 bs), .int .u8 (sealAt 6 k6 bs), .int .u8 (sealAt 7 k7 bs)], .int .i64 0]) (by simp [results, Tryz.results69, go_sem, d0, d1, d2, d3, d4, d5, d6, d7]) rfl ⟨rfl, hBf⟩

end Go.Proofs.YtoipafnlcchmbaaGreatDoor
namespace Go.Proofs.YtoipafnlcchmbaaGreatDoor
open Go.RowKit

set_option maxHeartbeats 8000000 in
set_option maxRecDepth 100000 in
theorem refSeal_any (k0 k1 k2 k3 k4 k5 k6 k7 : Int) (A : Option Addr) (n c : Nat) (bs : List Int) (w : World) (hn : n ≤ 140737488351232) (hk8 : Key8 k0 k1 k2 k3 k4 k5 k6 k7) (hz : BytesAt w A n bs) :
    Calls Tryz.prog 74 #[.agg #[.int .u8 k0, .int .u8 k1, .int .u8 k2, .int .u8 k3, .int .u8 k4, .int .u8 k5, .int .u8 k6, .int .u8 k7], .slice A n c] w fun e w' => e = .returned (.agg #[.int .u8 (sealAt 0 k0 bs), .int .u8 (sealAt 1 k1 bs), .int .u8 (sealAt 2 k2 bs), .int .u8 (sealAt 3 k3 bs), .int .u8 (sealAt 4 k4 bs), .int .u8 (sealAt 5 k5 bs), .int .u8 (sealAt 6 k6 bs), .int .u8 (sealAt 7 k7 bs)]) ∧ Below w.heap.size w w' := by
  have HZ := Lib.hid hz
  clear hz
  go_enter Tryz.func74, Tryz.ntmps74
  go_wp2_with fail
  obtain ⟨W0, hW0⟩ : ∃ W0, W0 = (((w.alloc (.cells #[.int .u8 k0, .int .u8 k1, .int .u8 k2, .int .u8 k3, .int .u8 k4, .int .u8 k5, .int .u8 k6, .int .u8 k7] 94)).alloc (.cells #[.int .u8 0, .int .u8 0, .int .u8 0, .int .u8 0, .int .u8 0, .int .u8 0, .int .u8 0, .int .u8 0] 94)).alloc (.cells #[.int .u8 0, .int .u8 0, .int .u8 0, .int .u8 0, .int .u8 0, .int .u8 0, .int .u8 0, .int .u8 0] 94)) := ⟨_, rfl⟩
  rw [← hW0]
  have B0 : Blk W0 w.heap.size 94 #[.int .u8 k0, .int .u8 k1, .int .u8 k2, .int .u8 k3, .int .u8 k4, .int .u8 k5, .int .u8 k6, .int .u8 k7] := by rw [hW0]; exact ((Blk.new w _ _).alloc _).alloc _
  have B1 : Blk W0 (w.heap.size + 1) 94 #[.int .u8 0, .int .u8 0, .int .u8 0, .int .u8 0, .int .u8 0, .int .u8 0, .int .u8 0, .int .u8 0] := by rw [hW0]; simpa using (Blk.new (w.alloc (.cells #[.int .u8 k0, .int .u8 k1, .int .u8 k2, .int .u8 k3, .int .u8 k4, .int .u8 k5, .int .u8 k6, .int .u8 k7] 94)) 94 #[.int .u8 0, .int .u8 0, .int .u8 0, .int .u8 0, .int .u8 0, .int .u8 0, .int .u8 0, .int .u8 0]).alloc (.cells #[.int .u8 0, .int .u8 0, .int .u8 0, .int .u8 0, .int .u8 0, .int .u8 0, .int .u8 0, .int .u8 0] 94)
  have B2 : Blk W0 (w.heap.size + 1 + 1) 94 #[.int .u8 0, .int .u8 0, .int .u8 0, .int .u8 0, .int .u8 0, .int .u8 0, .int .u8 0, .int .u8 0] := by rw [hW0]; simpa using Blk.new ((w.alloc (.cells #[.int .u8 k0, .int .u8 k1, .int .u8 k2, .int .u8 k3, .int .u8 k4, .int .u8 k5, .int .u8 k6, .int .u8 k7] 94)).alloc (.cells #[.int .u8 0, .int .u8 0, .int .u8 0, .int .u8 0, .int .u8 0, .int .u8 0, .int .u8 0, .int .u8 0] 94)) 94 #[.int .u8 0, .int .u8 0, .int .u8 0, .int .u8 0, .int .u8 0, .int .u8 0, .int .u8 0, .int .u8 0]
  have hB : Below w.heap.size w W0 := by rw [hW0]; exact (((Below.refl _ w).alloc (Nat.le_refl _) _).alloc (by simp) _).alloc (by simp; omega) _
  obtain ⟨K, hK⟩ : ∃ K, K = [k0, k1, k2, k3, k4, k5, k6, k7] := ⟨_, rfl⟩
  have C2 : Blk W0 (w.heap.size + 1 + 1) 94 (outArr K bs 0) := B2
  have hK8 : Hid (∀ i, i < 8 → 0 ≤ K.getD i 0 ∧ K.getD i 0 ≤ 255) := by rw [hK]; exact hk8
  have hat : Hid (∀ i, i < 8 → (#[.int .u8 k0, .int .u8 k1, .int .u8 k2, .int .u8 k3, .int .u8 k4, .int .u8 k5, .int .u8 k6, .int .u8 k7] : Array Value)[i]? = some (.int .u8 (K.getD i 0))) := by rw [hK]; exact fun i h => key_at k0 k1 k2 k3 k4 k5 k6 k7 i h
  have HK := Lib.hid hK
  have HB0 := Lib.hid B0
  have HB1 := Lib.hid B1
  have HC2 := Lib.hid C2
  have HBW := Lib.hid hB
  clear hK hk8 B0 B1 B2 C2 hB hW0
  go_loopw [6] (fun i wr => ∃ k : Nat, k ≤ 8 ∧ i = .int .i64 k ∧ Blk wr w.heap.size 94 #[.int .u8 k0, .int .u8 k1, .int .u8 k2, .int .u8 k3, .int .u8 k4, .int .u8 k5, .int .u8 k6, .int .u8 k7] ∧ Blk wr (w.heap.size + 1) 94 #[.int .u8 0, .int .u8 0, .int .u8 0, .int .u8 0, .int .u8 0, .int .u8 0, .int .u8 0, .int .u8 0] ∧ Blk wr (w.heap.size + 1 + 1) 94 (outArr K bs k) ∧ Below w.heap.size w wr) (fun i _ => 8 - (intOf i).toNat)
  case atStart => exact ⟨0, Nat.zero_le _, rfl, HB0.out, HB1.out, HC2.out, HBW.out⟩
  case round =>
    clear HB0 HB1 HBW HC2
    obtain ⟨k, hk, rfl, hb0, hb1, hc2, hbw⟩ := hrel
    have HB0 := Lib.hid hb0
    have HB1 := Lib.hid hb1
    have HC2 := Lib.hid hc2
    have HB := Lib.hid hbw
    by_cases hlt : k < 8
    · have hkb := hK8.out k hlt
      have HZ1 := Lib.hid (HZ.out.keep hbw)
      have cx : wr.cell? ⟨w.heap.size, k, none⟩ = some (.int .u8 (K.getD k 0)) := (hb0.cell k).trans (hat.out k hlt)
      obtain ⟨x, hx⟩ : ∃ x, x = K.getD k 0 := ⟨_, rfl⟩
      rw [← hx] at cx hkb
      have HX := Lib.hid hx
      have HKB := Lib.hid hkb
      have hk8 : (k : Int) < 8 := by omega
      obtain ⟨x1, x2⟩ := hkb
      clear hx hb0 hb1 hbw hc2
      obtain ⟨W1, hW1⟩ : ∃ W1 : World, W1 = wr := ⟨_, rfl⟩
      rw [← hW1] at HB0 HB1 HC2 HB HZ1 cx ⊢
      clear hW1
      go_wp2
      clear cx
      go_loop [7, 8] (fun x2 i => ∃ m : Nat, m ≤ n ∧ i = .int .i64 m ∧ x2 = .int .i64 (sealTo (4 * (k : Int) + 3) (5 * (k : Int) + 2) x (bs.take m))) (fun _ i => n - (intOf i).toNat)
      case atStart => exact ⟨0, Nat.zero_le _, rfl, rfl⟩
      case round =>
        obtain ⟨m, hm, rfl, rfl⟩ := hrel
        have sb := sealTo_bd (4 * (k : Int) + 3) (5 * (k : Int) + 2) x HKB.out (bs.take m)
        by_cases hlt2 : m < n
        · obtain ⟨b, off, rfl, hcc⟩ := HZ1.out.2.2 (by omega)
          have hb := HZ1.out.2.1 m hlt2
          have h0 := hcc m hlt2
          have HS := Lib.hid (sealTo_snoc (4 * (k : Int) + 3) (5 * (k : Int) + 2) x bs m (by rw [HZ1.out.1]; exact hlt2))
          obtain ⟨y, hy⟩ : ∃ y, y = bs.getD m 0 := ⟨_, rfl⟩
          obtain ⟨s, hs⟩ : ∃ s, s = sealTo (4 * (k : Int) + 3) (5 * (k : Int) + 2) x (bs.take m) := ⟨_, rfl⟩
          rw [← hy] at h0 hb HS
          rw [← hs] at sb HS ⊢
          clear hcc hy hs
          obtain ⟨sb1, sb2⟩ := sb
          obtain ⟨hb1, hb2⟩ := hb
          have pb := prod_bd k s hlt sb1 sb2
          obtain ⟨pb1, pb2⟩ := pb
          go_wp2
          go_round
          case rel =>
            refine ⟨m + 1, by omega, by go_num, ?_⟩
            rw [HS.out]
            exact congrArg (Value.int .i64) (refStep_eq _ _ _)
          case measure => simp [intOf]; omega
        · obtain rfl : m = n := by omega
          have ck : W1.cell? ⟨w.heap.size + 1 + 1, k, none⟩ = some (.int .u8 0) := by
            rw [HC2.out.cell k, outArr_at K bs k k hlt, if_neg (by omega)]
          have fk := HC2.out.frozen k
          have hfin : Hid (sealTo (4 * (k : Int) + 3) (5 * (k : Int) + 2) x (bs.take m) = sealAt k x bs) := by
            show _ = _
            rw [← HZ1.out.1, List.take_length]; rfl
          rw [hfin.out] at sb ⊢
          obtain ⟨sb1, sb2⟩ := sb
          obtain ⟨s, hs⟩ : ∃ s, s = sealAt k x bs := ⟨_, rfl⟩
          rw [← hs] at sb1 sb2 ⊢
          have HS := Lib.hid hs
          clear hs
          go_wp2
          go_roundw
          case rel =>
            refine ⟨k + 1, by omega, by go_num, HB0.out.far (p := ⟨w.heap.size + 1 + 1, k, none⟩) (by simp; omega) _, HB1.out.far (p := ⟨w.heap.size + 1 + 1, k, none⟩) (by simp) _, ?_, HB.out.setCell (p := ⟨w.heap.size + 1 + 1, k, none⟩) (by simp; omega) _⟩
            have := HC2.out.set_ k (.int .u8 (sealAt k (K.getD k 0) bs))
            rw [outArr_set] at this
            rw [HS.out, HX.out]
            exact this
          case measure => simp [intOf]; omega
    · obtain rfl : k = 8 := by omega
      have D0 : Blk wr (w.heap.size + 1 + 1) 94 #[.int .u8 (sealAt 0 k0 bs), .int .u8 (sealAt 1 k1 bs), .int .u8 (sealAt 2 k2 bs), .int .u8 (sealAt 3 k3 bs), .int .u8 (sealAt 4 k4 bs), .int .u8 (sealAt 5 k5 bs), .int .u8 (sealAt 6 k6 bs), .int .u8 (sealAt 7 k7 bs)] := by rw [HK.out] at hc2; exact hc2
      clear hb0 hbw hc2
      have xc0 := D0.cell 0; have xf0 := D0.frozen 0; have xc1 := D0.cell 1; have xf1 := D0.frozen 1; have xc2 := D0.cell 2; have xf2 := D0.frozen 2; have xc3 := D0.cell 3; have xf3 := D0.frozen 3; have xc4 := D0.cell 4; have xf4 := D0.frozen 4; have xc5 := D0.cell 5; have xf5 := D0.frozen 5; have xc6 := D0.cell 6; have xf6 := D0.frozen 6; have xc7 := D0.cell 7; have xf7 := D0.frozen 7
      simp only [List.getElem?_toArray, List.getElem?_cons_zero, List.getElem?_cons_succ] at xc0 xc1 xc2 xc3 xc4 xc5 xc6 xc7
      clear D0
      have zc0 := hb1.cell 0; have zf0 := hb1.frozen 0; have zc1 := hb1.cell 1; have zf1 := hb1.frozen 1; have zc2 := hb1.cell 2; have zf2 := hb1.frozen 2; have zc3 := hb1.cell 3; have zf3 := hb1.frozen 3; have zc4 := hb1.cell 4; have zf4 := hb1.frozen 4; have zc5 := hb1.cell 5; have zf5 := hb1.frozen 5; have zc6 := hb1.cell 6; have zf6 := hb1.frozen 6; have zc7 := hb1.cell 7; have zf7 := hb1.frozen 7
      simp only [List.getElem?_toArray, List.getElem?_cons_zero, List.getElem?_cons_succ] at zc0 zc1 zc2 zc3 zc4 zc5 zc6 zc7
      clear hb1
      go_wp2
      generalize hWf : World.setCell _ _ _ = Wf
      have D : Blk Wf (w.heap.size + 1) 94 #[.int .u8 (sealAt 0 k0 bs), .int .u8 (sealAt 1 k1 bs), .int .u8 (sealAt 2 k2 bs), .int .u8 (sealAt 3 k3 bs), .int .u8 (sealAt 4 k4 bs), .int .u8 (sealAt 5 k5 bs), .int .u8 (sealAt 6 k6 bs), .int .u8 (sealAt 7 k7 bs)] := by rw [← hWf]; exact HB1.out.set8 _ _ _ _ _ _ _ _
      have hBf : Below w.heap.size w Wf := by
        rw [← hWf]
        exact below_set8 HB.out (by omega) _ _ _ _ _ _ _ _
      obtain ⟨d0, d1, d2, d3, d4, d5, d6, d7⟩ := results8 D
      exact bodyPost_ret (v := .agg #[.int .u8 (sealAt 0 k0 bs), .int .u8 (sealAt 1 k1 bs), .int .u8 (sealAt 2 k2 bs), .int .u8 (sealAt 3 k3 bs), .int .u8 (sealAt 4 k4 bs), .int .u8 (sealAt 5 k5 bs), .int .u8 (sealAt 6 k6 bs), .int .u8 (sealAt 7 k7 bs)]) (by simp [results, Tryz.results74, go_sem, d0, d1, d2, d3, d4, d5, d6, d7]) rfl ⟨rfl, hBf⟩

end Go.Proofs.YtoipafnlcchmbaaGreatDoor
namespace Go.Proofs.YtoipafnlcchmbaaGreatDoor
open Go.RowKit

def eqB (is : List Nat) (a b : Nat → Int) : Bool := is.all fun i => a i == b i
theorem run_eqItems_int {P : Program} (w : World) (d : Nat) {e : TypeId} {k : IntKind} (he : P.underlying e = some (.int k)) (xs ys : Array Value) (a b : Nat → Int) :
    ∀ (is : List Nat), (∀ i ∈ is, xs[i]? = some (.int k (a i)) ∧ ys[i]? = some (.int k (b i))) → (Op.eqItems (d + 1) e 1 xs ys is).run P w = .ok (eqB is a b) w
  | [], _ => by simp [Op.eqItems, eqB]
  | i :: is, h => by
    have h1 := h i (by simp)
    have ih := run_eqItems_int w d he xs ys a b is (fun j hj => h j (by simp [hj]))
    have hp : P.plainKey e = true := by simp [Program.plainKey, he]
    have p1 := run_part_plain (P := P) w hp h1.1
    have p2 := run_part_plain (P := P) w hp h1.2
    unfold Op.eqItems
    simp only [Nat.mul_one, Sem.run_bind, p1, p2, Result.andThen_ok, Go.run_equalIn_int w d e k k _ _ he]
    cases hab : (a i == b i)
    · simp [eqB, hab]
    · simp only [Bool.not_true, Bool.false_eq_true, if_false]
      rw [ih]
      simp [eqB, hab]

end Go.Proofs.YtoipafnlcchmbaaGreatDoor
