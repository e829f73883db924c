/- A type in memory; its reach. -/
import Derived.Test.YtnbionhahifacaaDoorI4
import Derived.Test.YtnbionhahifacaaDoorI7
namespace Go.Proofs.YtnbionhahifacaaDoor
open Go.RowKit Go.Sort

/-- The thirteen cells of a type. -/
def tyV (nm : ByteArray) (sa : Option Addr) (sn sc : Nat) (T : Bell.Ty) (qa : Option Addr) (qn qc : Nat) (ga : Option Addr) (gn gc : Nat) : Array Value :=
  #[.string nm, .slice sa sn sc, .int .i64 (T.direct.getD 0 0), .int .i64 (T.direct.getD 1 0), .int .i64 (T.direct.getD 2 0), .int .i64 (T.direct.getD 3 0), .int .i64 (T.direct.getD 4 0), .int .i64 (T.direct.getD 5 0), .int .i64 (T.direct.getD 6 0), .int .i64 (T.direct.getD 7 0),
    .int .i64 T.side, .slice qa qn qc, .slice ga gn gc]

/-- Settings in memory. -/
def SetsAt (w : World) (b off n : Nat) (s : Bell.Sets) : Prop := s.length = n ∧ ∀ k, k < n → ∃ ea en ec, w.cell? ⟨b, off + k * 2, none⟩ = some (.int .i64 (Bell.ePow s k)) ∧ w.cell? ⟨b, off + k * 2 + 1, none⟩ = some (.slice ea en ec) ∧ IntsAt w ea en ((s.getD k (0, [])).2)

structure TyAt (w : World) (cs : Array Value) (nm : ByteArray) (sh : List Int) (T : Bell.Ty) (sa : Option Addr) (sn sc qb qo qn qc gb go gn gc : Nat) : Prop where
  cells : cs = tyV nm sa sn sc T (some ⟨qb, qo, none⟩) qn qc (some ⟨gb, go, none⟩) gn gc
  shares : IntsAt w sa sn sh
  squares : IntsAt w (some ⟨qb, qo, none⟩) qn T.squares
  sets : SetsAt w gb go gn T.sets

theorem SetsAt.keep {w w' : World} {b off n : Nat} {s : Bell.Sets} (h : SetsAt w b off n s) (hb : Below w.heap.size w w') : SetsAt w' b off n s := by
  refine ⟨h.1, fun k hk => ?_⟩
  obtain ⟨ea, en, ec, h1, h2, h3⟩ := h.2 k hk
  have kp : ∀ {j : Nat} {v : Value}, w.cell? ⟨b, j, none⟩ = some v → w'.cell? ⟨b, j, none⟩ = some v := fun {j v} hc => by
    rw [hb.cell (p := ⟨b, j, none⟩) (World.block_lt_of_cell? _ _ hc)]; exact hc
  exact ⟨ea, en, ec, kp h1, kp h2, h3.keep hb⟩
theorem TyAt.keep {w w' : World} {cs : Array Value} {nm : ByteArray} {sh : List Int} {T : Bell.Ty} {sa : Option Addr} {sn sc qb qo qn qc gb go gn gc : Nat} (h : TyAt w cs nm sh T sa sn sc qb qo qn qc gb go gn gc) (hb : Below w.heap.size w w') : TyAt w' cs nm sh T sa sn sc qb qo qn qc gb go gn gc :=
  ⟨h.cells, h.shares.keep hb, h.squares.keep hb, h.sets.keep hb⟩

/-- What is known of a type without a fault. -/
structure GoodT (sh : List Int) (T : Bell.Ty) : Prop where
  dl : T.direct.length = 8
  ok : Bell.tyE 0 sh T = 0
theorem GoodT.ty {sh : List Int} {T : Bell.Ty} (h : GoodT sh T) : Bell.GoodTy T := Bell.good_of h.dl h.ok
theorem GoodT.sq {sh : List Int} {T : Bell.Ty} (h : GoodT sh T) : Bell.GoodSq T.squares := by
  have h1 := h.ok
  unfold Bell.tyE at h1
  rw [Bell.thenE_zero, Bell.firstE_zero] at h1
  exact Bell.squares_of (h1.1 (Bell.sqE T.squares) (by simp))
theorem GoodT.len {sh : List Int} {T : Bell.Ty} (h : GoodT sh T) {k : Nat} (hk : k < T.sets.length) : ((T.sets.getD k (0, [])).2).length = T.squares.length := by
  have h1 := h.ok
  unfold Bell.tyE at h1
  rw [Bell.thenE_zero] at h1
  exact (Bell.setsE_zero h1.2).2.1 k hk
theorem GoodT.pow {sh : List Int} {T : Bell.Ty} (h : GoodT sh T) {k : Nat} (hk : k < T.sets.length) : 1 ≤ Bell.ePow T.sets k ∧ Bell.ePow T.sets k ≤ 100 := by
  have h1 := h.ok
  unfold Bell.tyE at h1
  rw [Bell.thenE_zero] at h1
  exact ((Bell.setsE_zero h1.2).1 k hk).2
theorem GoodT.cnt {sh : List Int} {T : Bell.Ty} (h : GoodT sh T) : (0 < T.sets.length ∧ T.sets.length ≤ 6) ∧ (0 < T.squares.length ∧ T.squares.length ≤ 8) := by
  have h1 := h.ok
  unfold Bell.tyE at h1
  rw [Bell.thenE_zero, Bell.firstE_zero] at h1
  have a4 := Bell.cntE_zero.1 (h1.1 (Bell.cntE T.sets.length 6) (by simp))
  have a3 := h1.1 (Bell.sqE T.squares) (by simp)
  unfold Bell.sqE at a3
  rw [Bell.thenE_zero, Bell.firstE_zero] at a3
  exact ⟨a4, Bell.cntE_zero.1 (a3.1 (Bell.cntE T.squares.length 8) (by simp))⟩

/-! The binary search for a closure that captures two variables. -/
set_option maxHeartbeats 1000000 in
set_option maxRecDepth 100000 in
theorem search2_any (F : FuncId) (c1 c2 : Value) (p : Nat → Bool) (n : Nat) (w : World) (hn : n ≤ 1000000)
    (hE : ∀ (args : Array Value) (W : World), (callFunc F args).run Tryd.prog W = .ok (.enter F args) W)
    (hF : ∀ (k q : Nat), k < n → Calls Tryd.prog F #[.int .i64 k, c1, c2] (w.drewN q) fun e w' => e = .returned (.bool (p k)) ∧ ∃ q', w' = w.drewN q') :
    Calls Tryd.prog 32 #[.int .i64 n, .func (.func F) #[] #[c1, c2]] w fun e w' => ∃ r : Nat, e = .returned (.int .i64 r) ∧ r ≤ n ∧ (0 < r → p (r - 1) = false) ∧ (r < n → p r = true) ∧ ∃ q, w' = w.drewN q := by
  have HF := Lib.hid hF
  clear hF
  go_enter Tryd.func32, Tryd.ntmps32
  go_wp2
  go_loopw [5, 6, 7] (fun i j _ wr => ∃ a b : Nat, i = .int .i64 a ∧ j = .int .i64 b ∧ a ≤ b ∧ b ≤ n ∧ Hid (0 < a → p (a - 1) = false) ∧ Hid (b < n → p b = true) ∧ ∃ q, wr = w.drewN q) (fun i j _ _ => (intOf j - intOf i).toNat)
  case atStart => exact ⟨0, n, rfl, rfl, Nat.zero_le _, Nat.le_refl _, (fun h => by omega), (fun h => by omega), 0, rfl⟩
  case round =>
    obtain ⟨a, b, rfl, rfl, hab, hbn, h1, h2, q, rfl⟩ := hrel
    by_cases hlt : a < b
    · go_wp2_with fail
      obtain ⟨m, hm⟩ : ∃ m : Nat, ((a : Int) + (b : Int)) / 2 = (m : Int) := ⟨(a + b) / 2, by omega⟩
      have m1 : a ≤ m := by omega
      have m2 : m < b := by omega
      rw [hm]
      clear hm
      refine (HF.out m q (by omega)).mono ?_
      rintro e w' ⟨rfl, q', rfl⟩
      obtain ⟨v, hv⟩ : ∃ v, v = p m := ⟨_, rfl⟩
      rw [← hv]
      have HV := Lib.hid hv
      clear hv
      cases v
      · go_wp2
        go_roundw
        case rel => exact ⟨m + 1, b, by go_num, rfl, by omega, hbn, (fun _ => by rw [Nat.add_sub_cancel]; exact HV.out.symm), h2, q', rfl⟩
        case measure => simp [intOf]; omega
      · go_wp2
        go_roundw
        case rel => exact ⟨a, m, rfl, rfl, by omega, by omega, h1, (fun _ => HV.out.symm), q', rfl⟩
        case measure => simp [intOf]; omega
    · go_wp2
      go_ret
      obtain rfl : a = b := by omega
      exact ⟨a, rfl, hbn, h1.out, h2.out, q, rfl⟩

theorem enters_searchInts1 (args : Array Value) (W : World) : (callFunc 96 args).run Tryd.prog W = .ok (.enter 96 args) W := by kernel_rfl

theorem searchInts1_any (k : Nat) (z x : Int) (b off n c g1 g2 : Nat) (w : World) (hk : k < n) (h1 : w.cell? ⟨g1, 0, none⟩ = some (.slice (some ⟨b, off, none⟩) n c)) (h2 : w.cell? ⟨g2, 0, none⟩ = some (.int .i64 x)) (h3 : w.cell? ⟨b, off + k, none⟩ = some (.int .i64 z)) :
    Calls Tryd.prog 96 #[.int .i64 k, .pointer (some ⟨g1, 0, none⟩), .pointer (some ⟨g2, 0, none⟩)] w fun e w' => e = .returned (.bool (decide (x ≤ z))) ∧ ∃ q, w' = w.drewN q := by
  obtain ⟨v, hv⟩ : ∃ v, v = decide (x ≤ z) := ⟨_, rfl⟩
  have HV := Lib.hid hv
  clear hv
  go_enter Tryd.func96, Tryd.ntmps96
  go_wp2
  go_quiet (fail)
  go_wp2
  go_ret
  exact ⟨rfl, _, rfl⟩

theorem reach_of {l : List Int} (g : Bell.GoodSq l) {q : Int} {r : Nat} (hr : r ≤ l.length) (h1 : 0 < r → decide (q + 1 ≤ l.getD (r - 1) 0) = false) (h2 : r < l.length → decide (q + 1 ≤ l.getD r 0) = true) (hq : 0 ≤ q) :
    1 ≤ r ∧ r - 1 = Bell.reachOf l q := by
  have e : l.findIdx (fun x => decide (q < x)) = r := by
    rcases Nat.lt_or_ge r l.length with hlt | hge
    · refine (List.findIdx_eq hlt).2 ⟨?_, fun j hj => ?_⟩
      · have := of_decide_eq_true (h2 hlt)
        rw [List.getD_eq_getElem?_getD, List.getElem?_eq_getElem hlt, Option.getD_some] at this
        exact decide_eq_true (by omega)
      · have h3 := of_decide_eq_false (h1 (by omega))
        have h4 : l.getD j 0 ≤ l.getD (r - 1) 0 := by
          rcases Nat.lt_or_ge j (r - 1) with h | h
          · exact Int.le_of_lt (g.up j (r - 1) h (by omega))
          · rw [show j = r - 1 by omega]; exact Int.le_refl _
        have e1 : l.getD j 0 = l[j] := by rw [List.getD_eq_getElem?_getD, List.getElem?_eq_getElem (by omega), Option.getD_some]
        rw [e1] at h4
        exact decide_eq_false (by omega)
    · obtain rfl : r = l.length := by omega
      refine List.findIdx_eq_length.2 fun x hx => ?_
      obtain ⟨j, hj, rfl⟩ := List.getElem_of_mem hx
      have h3 := of_decide_eq_false (h1 (by omega))
      have h4 : l.getD j 0 ≤ l.getD (l.length - 1) 0 := by
        rcases Nat.lt_or_ge j (l.length - 1) with h | h
        · exact Int.le_of_lt (g.up j (l.length - 1) h (by omega))
        · rw [show j = l.length - 1 by omega]; exact Int.le_refl _
      have e1 : l.getD j 0 = l[j] := by rw [List.getD_eq_getElem?_getD, List.getElem?_eq_getElem (by omega), Option.getD_some]
      rw [e1] at h4
      exact decide_eq_false (by omega)
  have h0 : 1 ≤ r := by
    rcases Nat.eq_zero_or_pos r with h | h
    · subst h
      have := of_decide_eq_true (h2 g.some)
      rw [g.zero] at this
      omega
    · exact h
  exact ⟨h0, by unfold Bell.reachOf; rw [e]⟩

set_option maxHeartbeats 1000000 in
set_option maxRecDepth 100000 in
theorem searchInts_any (b off n c : Nat) (l : List Int) (q : Int) (w : World) (hl : IntsAt w (some ⟨b, off, none⟩) n l) (hn : n ≤ 8) (g : Bell.GoodSq l) (hq : 0 ≤ q) (hq2 : q ≤ 1000000000000) :
    Calls Tryd.prog 95 #[.slice (some ⟨b, off, none⟩) n c, .int .i64 (q + 1)] w fun e w' => e = .returned (.int .i64 ((Bell.reachOf l q : Nat) + 1 : Int)) ∧ Below w.heap.size w w' := by
  have hL := Lib.hid hl.1
  have hz : ∀ i, i < n → w.cell? ⟨b, off + i, none⟩ = some (.int .i64 (l.getD i 0)) := fun i hi => by
    obtain ⟨b', off', he, hc⟩ := hl.2 (by omega)
    have he := Option.some.inj he
    injection he with e1 e2
    subst e1; subst e2
    exact hc i hi
  have HZ := Lib.hid hz
  have HG := Lib.hid g
  clear hl hz g
  go_enter Tryd.func95, Tryd.ntmps95
  go_wp2_with fail
  obtain ⟨w1, hw1⟩ : ∃ X, X = (w.alloc (.cells #[.slice (some ⟨b, off, none⟩) n c] 22)).alloc (.cells #[.int .i64 (q + 1)] 3) := ⟨_, rfl⟩
  rw [← hw1]
  have B1 : Blk w1 w.heap.size 22 #[.slice (some ⟨b, off, none⟩) n c] := by rw [hw1]; exact (Blk.new _ _ _).alloc _
  have B2 : Blk w1 (w.heap.size + 1) 3 #[.int .i64 (q + 1)] := by rw [hw1]; exact Blk.at_size _ _ (by simp)
  have hb : Below w.heap.size w w1 := by rw [hw1]; exact ((Below.refl _ _).alloc (Nat.le_refl _) _).alloc (by simp) _
  have HB := Lib.hid hb
  have hz1 : ∀ i, i < n → w1.cell? ⟨b, off + i, none⟩ = some (.int .i64 (l.getD i 0)) := fun i hi => by
    rw [hb.cell (p := ⟨b, off + i, none⟩) (World.block_lt_of_cell? _ _ (HZ.out i hi))]; exact HZ.out i hi
  refine (search2_any 96 (.pointer (some ⟨w.heap.size, 0, none⟩)) (.pointer (some ⟨w.heap.size + 1, 0, none⟩)) (fun k => decide (q + 1 ≤ l.getD k 0)) n w1 (by omega) enters_searchInts1
    (fun k d hk => (searchInts1_any k (l.getD k 0) (q + 1) b off n c w.heap.size (w.heap.size + 1) (w1.drewN d) hk (B1.drewN d |>.cell 0) (B2.drewN d |>.cell 0) (hz1 k hk)).mono (fun e w' ⟨h1, q', h2⟩ => ⟨h1, d + q', by rw [h2, World.drewN_drewN]⟩))).mono ?_
  rintro e w2 ⟨r, rfl, hr, h1, h2, dq, rfl⟩
  obtain ⟨k1, k2⟩ := reach_of HG.out (q := q) (r := r) (by rw [hL.out]; exact hr) h1 (by rw [hL.out]; exact h2) hq
  have HB3 : Hid (Below w.heap.size w (w1.drewN dq)) := ⟨HB.out.os, HB.out.tape, HB.out.output, HB.out.size, HB.out.block⟩
  have hv : Hid ((r : Int) = (Bell.reachOf l q : Nat) + 1) := by show _ = _; rw [← k2]; omega
  clear h1 h2 hz1 hb B1 B2 hw1 k1 k2
  go_wp2
  go_ret
  exact ⟨ret_int hv.out, HB3.out⟩

end Go.Proofs.YtnbionhahifacaaDoor
