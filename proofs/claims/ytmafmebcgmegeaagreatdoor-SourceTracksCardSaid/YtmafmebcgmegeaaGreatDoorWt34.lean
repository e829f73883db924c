/- Texts Qm Qo Qq Qr Qw Qx of the proof. -/
import Derived.Test.YtmafmebcgmegeaaGreatDoorWt16
import Derived.Test.YtmafmebcgmegeaaGreatDoorWt17
import Derived.Test.YtmafmebcgmegeaaGreatDoorWt32
import Derived.Test.YtmafmebcgmegeaaGreatDoorWt29
import Derived.Test.YtmafmebcgmegeaaGreatDoorWt21
import Derived.Test.YtmafmebcgmegeaaGreatDoorWt30
import Derived.Test.YtmafmebcgmegeaaGreatDoorWt22
namespace Go.Proofs.YtmafmebcgmegeaaGreatDoor
open Go.RowKit Go.Sort
set_option maxHeartbeats 2000000 in
set_option maxRecDepth 100000 in
theorem fixes_any (A : Option Addr) (n c : Nat) (l : List Bell.Fx) (w : World) (hz : TrAt w A n l) (hn : n ≤ 100000) :
    Calls Tryz.prog 36 #[.slice A n c] w fun e w' => ∃ A' c', e = .returned (.slice A' n c') ∧ TrAt w' A' n l ∧ (n ≤ c' ∧ c' ≤ 9223372036854775807) ∧ Below w.heap.size w w' := by
  obtain ⟨i0, hi, hz0, hz1, hz2⟩ := info_parts infoFix
  have HZ := Lib.hid hz
  clear hz
  go_enter Tryz.func36, Tryz.ntmps36
  go_wp2
  go_loopw [3, 5, 8] (fun v _ i wr => ∃ k : Nat, k ≤ n ∧ i = .int .i64 k ∧ OwnT wr w.heap.size v (l.take k) ∧ Below w.heap.size w wr) (fun _ _ i _ => n - (intOf i).toNat)
  case atStart => exact ⟨0, Nat.zero_le _, rfl, World.ownsRow_nil _ _ _ _, Below.refl _ _⟩
  case round =>
    obtain ⟨k, hk, rfl, hown, hb⟩ := hrel
    by_cases hlt : k < n
    · obtain ⟨b, off, rfl, hcc⟩ := (HZ.out.keep hb).2 (by omega)
      obtain ⟨P, hP⟩ : ∃ P, P = Bell.fxAt l k := ⟨_, rfl⟩
      obtain ⟨c0, c1, c2, c3, c4⟩ := hcc.2 k hlt
      rw [← hP] at c0 c1 c2 c3 c4
      have HT : Hid (l.take (k + 1) = l.take k ++ [P]) := by
        show _ = _
        have hkl : k < l.length := by rw [HZ.out.1]; exact hlt
        rw [hP, Bell.fxAt_get hkl]
        exact (List.take_append_getElem hkl).symm
      have hown0 : wr.ownsRow w.heap.size 152 5 u3 k (fxCells (l.take k)) := by
        have := hown
        unfold OwnT at this
        rwa [List.length_take, HZ.out.1, Nat.min_eq_left hk] at this
      have hsz := hb.size
      have HB := Lib.hid hb
      clear hcc hP hb hown
      go_wp2_with (at_builtin; refine wpList_append_own _ rfl _ _ 67 rfl w.heap.size 152 i0 (.agg #[.int .i64 0, .int .i64 0, .int .i64 0, .int .i64 0, .int .i64 0]) 5 40 Tryz.underlying67 hi hz0 hz1 hz2 rfl (by decide) _ _ _ rfl (World.ownsRow.alloc (World.ownsRow.alloc hown0 _) _) ⟨wr.heap.size + 1, 0, none⟩ 1 1 [.int .i64 P.t, .int .i64 P.x, .int .i64 P.y, .int .i64 P.z, .int .i64 P.p] rfl rfl (by have := cells_five_at (wr.alloc (.cells #[.int .i64 P.t, .int .i64 P.x, .int .i64 P.y, .int .i64 P.z, .int .i64 P.p] 140)) 152 (.int .i64 P.t) (.int .i64 P.x) (.int .i64 P.y) (.int .i64 P.z) (.int .i64 P.p); rw [World.size_alloc] at this; exact this) (by simp [Value.oneCell']) (by unfold maxLen; omega) (by omega) (by simp; omega) ?_; intro v' w1 hown' hgrow _)
      have R : OwnT w1 w.heap.size v' (l.take (k + 1)) := by
        unfold OwnT
        rw [HT.out, fxCells_snoc, List.length_append, List.length_take, HZ.out.1, Nat.min_eq_left hk]
        exact hown'
      have B1 : Below w.heap.size w w1 := Below.grown ((HB.out.alloc HB.out.size _).alloc (by simp; omega) _) hgrow (by simp; omega) (fun j hj => (hown0.lt j hj).1)
      clear hown' hgrow hown0
      go_wp2
      go_roundw
      case rel => exact ⟨k + 1, by omega, by go_num, R, B1⟩
      case measure => simp [intOf]; omega
    · obtain rfl : k = n := by omega
      have HB := Lib.hid hb
      have ho := OwnT.at_ hown
      rw [List.take_of_length_le (by rw [HZ.out.1]; omega), HZ.out.1] at ho
      obtain ⟨A', c', hv, hh, hcap⟩ := ho
      have HH := Lib.hid hh
      have HCA := Lib.hid hcap
      subst hv
      clear hb hown hh hcap
      go_wp2
      go_ret
      exact ⟨_, _, rfl, HH.out, HCA.out, HB.out⟩
/-- A track of the call's own. -/
def OwnTR (w : World) (base : Nat) (v : Value) (l : List Bell.Fx) : Prop := w.ownsRow base 140 5 v l.length (fxCells l)
theorem OwnTR.at_ {w : World} {base : Nat} {v : Value} {l : List Bell.Fx} (h : OwnTR w base v l) : ∃ A c, v = .slice A l.length c ∧ TrAt w A l.length l ∧ l.length ≤ c ∧ c ≤ 9223372036854775807 := by
  have h0 := h
  rcases h.2 with ⟨hv, hn⟩ | ⟨g, cap, cur, hv, hb, hg, hnc, hm, hs', ht⟩
  · exact ⟨none, 0, by rw [hv, hn], ⟨rfl, fun h => by omega⟩, by omega, by omega⟩
  · subst hv
    refine ⟨_, _, rfl, ⟨rfl, fun _ => ⟨g, 0, rfl, rfl, fun i hi => ?_⟩⟩, hnc, by unfold maxLen at hm; omega⟩
    obtain ⟨p0, p1, p2, p3, p4⟩ := fxCells_at l i hi
    unfold FixAt
    simp only [Nat.zero_add]
    refine ⟨?_, ?_, ?_, ?_, ?_⟩
    · rw [World.ownsRow.cellAt h0 (i * 5) (by omega)]; exact p0
    · rw [World.ownsRow.cellAt h0 (i * 5 + 1) (by omega)]; exact p1
    · rw [World.ownsRow.cellAt h0 (i * 5 + 2) (by omega)]; exact p2
    · rw [World.ownsRow.cellAt h0 (i * 5 + 3) (by omega)]; exact p3
    · rw [World.ownsRow.cellAt h0 (i * 5 + 4) (by omega)]; exact p4
theorem infoFixR : (Tryz.prog.info? 140).map (fun i => (i.zero, i.size, i.bytes)) = some (some (.agg #[.int .i64 0, .int .i64 0, .int .i64 0, .int .i64 0, .int .i64 0]), 5, 40) := by kernel_rfl
set_option maxHeartbeats 2000000 in
set_option maxRecDepth 100000 in
theorem back_any (A : Option Addr) (n c : Nat) (l : List Bell.Fx) (w : World) (hz : TrAt w A n l) (hn : n ≤ 100000) :
    Calls Tryz.prog 47 #[.slice A n c] w fun e w' => ∃ A' c', e = .returned (.slice A' n c') ∧ TrAt w' A' n l ∧ (n ≤ c' ∧ c' ≤ 9223372036854775807) ∧ Below w.heap.size w w' := by
  obtain ⟨i0, hi, hz0, hz1, hz2⟩ := info_parts infoFixR
  have HZ := Lib.hid hz
  clear hz
  go_enter Tryz.func47, Tryz.ntmps47
  go_wp2
  go_loopw [3, 5, 8] (fun v _ i wr => ∃ k : Nat, k ≤ n ∧ i = .int .i64 k ∧ OwnTR wr w.heap.size v (l.take k) ∧ Below w.heap.size w wr) (fun _ _ i _ => n - (intOf i).toNat)
  case atStart => exact ⟨0, Nat.zero_le _, rfl, World.ownsRow_nil _ _ _ _, Below.refl _ _⟩
  case round =>
    obtain ⟨k, hk, rfl, hown, hb⟩ := hrel
    by_cases hlt : k < n
    · obtain ⟨b, off, rfl, hcc⟩ := (HZ.out.keep hb).2 (by omega)
      obtain ⟨P, hP⟩ : ∃ P, P = Bell.fxAt l k := ⟨_, rfl⟩
      obtain ⟨c0, c1, c2, c3, c4⟩ := hcc.2 k hlt
      rw [← hP] at c0 c1 c2 c3 c4
      have HT : Hid (l.take (k + 1) = l.take k ++ [P]) := by
        show _ = _
        have hkl : k < l.length := by rw [HZ.out.1]; exact hlt
        rw [hP, Bell.fxAt_get hkl]
        exact (List.take_append_getElem hkl).symm
      have hown0 : wr.ownsRow w.heap.size 140 5 u3 k (fxCells (l.take k)) := by
        have := hown
        unfold OwnTR at this
        rwa [List.length_take, HZ.out.1, Nat.min_eq_left hk] at this
      have hsz := hb.size
      have HB := Lib.hid hb
      clear hcc hP hb hown
      go_wp2_with (at_builtin; refine wpList_append_own _ rfl _ _ 62 rfl w.heap.size 140 i0 (.agg #[.int .i64 0, .int .i64 0, .int .i64 0, .int .i64 0, .int .i64 0]) 5 40 Tryz.underlying62 hi hz0 hz1 hz2 rfl (by decide) _ _ _ rfl (World.ownsRow.alloc (World.ownsRow.alloc hown0 _) _) ⟨wr.heap.size + 1, 0, none⟩ 1 1 [.int .i64 P.t, .int .i64 P.x, .int .i64 P.y, .int .i64 P.z, .int .i64 P.p] rfl rfl (by have := cells_five_at (wr.alloc (.cells #[.int .i64 P.t, .int .i64 P.x, .int .i64 P.y, .int .i64 P.z, .int .i64 P.p] 152)) 140 (.int .i64 P.t) (.int .i64 P.x) (.int .i64 P.y) (.int .i64 P.z) (.int .i64 P.p); rw [World.size_alloc] at this; exact this) (by simp [Value.oneCell']) (by unfold maxLen; omega) (by omega) (by simp; omega) ?_; intro v' w1 hown' hgrow _)
      have R : OwnTR w1 w.heap.size v' (l.take (k + 1)) := by
        unfold OwnTR
        rw [HT.out, fxCells_snoc, List.length_append, List.length_take, HZ.out.1, Nat.min_eq_left hk]
        exact hown'
      have B1 : Below w.heap.size w w1 := Below.grown ((HB.out.alloc HB.out.size _).alloc (by simp; omega) _) hgrow (by simp; omega) (fun j hj => (hown0.lt j hj).1)
      clear hown' hgrow hown0
      go_wp2
      go_roundw
      case rel => exact ⟨k + 1, by omega, by go_num, R, B1⟩
      case measure => simp [intOf]; omega
    · obtain rfl : k = n := by omega
      have HB := Lib.hid hb
      have ho := OwnTR.at_ hown
      rw [List.take_of_length_le (by rw [HZ.out.1]; omega), HZ.out.1] at ho
      obtain ⟨A', c', hv, hh, hcap⟩ := ho
      have HH := Lib.hid hh
      have HCA := Lib.hid hcap
      subst hv
      clear hb hown hh hcap
      go_wp2
      go_ret
      exact ⟨_, _, rfl, HH.out, HCA.out, HB.out⟩
def spCells (l : List Bell.Sp) : List Value := l.flatMap fun p => [.int .i64 p.d, .int .i64 p.h, .int .i64 p.p]
theorem spCells_len (l : List Bell.Sp) : (spCells l).length = l.length * 3 := by
  induction l with
  | nil => rfl
  | cons p l ih => simp only [spCells, List.flatMap_cons, List.length_append, List.length_cons, List.length_nil] at *; omega
theorem spCells_at (l : List Bell.Sp) (i : Nat) (hi : i < l.length) : (spCells l)[i * 3]? = some (.int .i64 (Bell.spAt l i).d) ∧ (spCells l)[i * 3 + 1]? = some (.int .i64 (Bell.spAt l i).h) ∧ (spCells l)[i * 3 + 2]? = some (.int .i64 (Bell.spAt l i).p) := by
  induction l generalizing i with
  | nil => simp at hi
  | cons p l ih =>
    cases i with
    | zero => exact ⟨rfl, rfl, rfl⟩
    | succ i =>
      have := ih i (by simpa using hi)
      have e : spCells (p :: l) = Value.int .i64 p.d :: Value.int .i64 p.h :: Value.int .i64 p.p :: spCells l := rfl
      have ef : Bell.spAt (p :: l) (i + 1) = Bell.spAt l i := rfl
      rw [e, ef, show (i + 1) * 3 = i * 3 + 1 + 1 + 1 by omega]
      simpa using this
def OwnSp (w : World) (base : Nat) (v : Value) (l : List Bell.Sp) : Prop := w.ownsRow base 166 3 v l.length (spCells l)
theorem OwnSp.at_ {w : World} {base : Nat} {v : Value} {l : List Bell.Sp} (h : OwnSp w base v l) : ∃ A c, v = .slice A l.length c ∧ SpsAt w A l.length l := by
  have h0 := h
  rcases h.2 with ⟨hv, hn⟩ | ⟨g, cap, cur, hv, hb, hg, hnc, hm, hs', ht⟩
  · exact ⟨none, 0, by rw [hv, hn], ⟨rfl, fun h => by omega⟩⟩
  · subst hv
    refine ⟨_, _, rfl, ⟨rfl, fun _ => ⟨g, 0, rfl, fun i hi => ?_⟩⟩⟩
    obtain ⟨p0, p1, p2⟩ := spCells_at l i hi
    simp only [Nat.zero_add]
    refine ⟨?_, ?_, ?_⟩
    · rw [World.ownsRow.cellAt h0 (i * 3) (by omega)]; exact p0
    · rw [World.ownsRow.cellAt h0 (i * 3 + 1) (by omega)]; exact p1
    · rw [World.ownsRow.cellAt h0 (i * 3 + 2) (by omega)]; exact p2
end Go.Proofs.YtmafmebcgmegeaaGreatDoor

namespace Go.Proofs.YtmafmebcgmegeaaGreatDoor
open Go.RowKit Go.Sort
def fxV5 (P : Bell.Fx) : Array Value := #[.int .i64 P.t, .int .i64 P.x, .int .i64 P.y, .int .i64 P.z, .int .i64 P.p]
set_option maxRecDepth 100000 in
theorem eq_fxR (a b c d e a' b' c' d' e' : Int) (W : World) : (Op.equalIn 10000 140 (.agg #[.int .i64 a, .int .i64 b, .int .i64 c, .int .i64 d, .int .i64 e]) (.agg #[.int .i64 a', .int .i64 b', .int .i64 c', .int .i64 d', .int .i64 e'])).run Tryz.prog W = .ok (decide (a = a' ∧ b = b' ∧ c = c' ∧ d = d' ∧ e = e')) W := by
  by_cases h1 : a = a'
  · by_cases h2 : b = b'
    · by_cases h3 : c = c'
      · by_cases h4 : d = d'
        · by_cases h5 : e = e'
          · subst h1 h2 h3 h4 h5; go_simp
          · subst h1 h2 h3 h4; go_simp
        · subst h1 h2 h3; go_simp
      · subst h1 h2; go_simp
    · subst h1; go_simp
  · go_simp
/-- What SameTrack finds. -/
def SameP (l k : List Bell.Fx) (e : Ending) : Prop := ∃ b : Bool, e = .returned (.bool b) ∧ (b = true ↔ l = k)
theorem fx_ext {P Q : Bell.Fx} (h : P.t = Q.t ∧ P.x = Q.x ∧ P.y = Q.y ∧ P.z = Q.z ∧ P.p = Q.p) : P = Q := by
  cases P; cases Q; simp_all
theorem fxs_ext {l k : List Bell.Fx} (hl : l.length = k.length) (h : ∀ i, i < l.length → Bell.fxAt l i = Bell.fxAt k i) : l = k := by
  apply List.ext_getElem hl
  intro i h1 h2
  have := h i h1
  rwa [Bell.fxAt_get h1, Bell.fxAt_get h2] at this
set_option maxHeartbeats 2000000 in
set_option maxRecDepth 100000 in
theorem refSameTrack_any (A B : Option Addr) (n m c d : Nat) (l k : List Bell.Fx) (w : World) (hl : TrAt w A n l) (hk : TrAt w B m k) (hn : n ≤ 100000) :
    Calls Tryz.prog 46 #[.slice A n c, .slice B m d] w fun e w' => SameP l k e ∧ Below w.heap.size w w' := by
  have HL := Lib.hid hl
  have HK := Lib.hid hk
  clear hl hk
  go_enter Tryz.func46, Tryz.ntmps46
  by_cases hnm : n = m
  case neg =>
    have h1 : ¬ (n : Int) = (m : Int) := by omega
    have h2 : ((n : Int) != (m : Int)) = true := by simpa using h1
    go_wp2
    go_ret
    exact ⟨⟨false, rfl, ⟨fun h => (by cases h), fun h => absurd (by rw [← HL.out.1, ← HK.out.1, h]) hnm⟩⟩, Below.refl _ _⟩
  subst hnm
  go_wp2
  go_loopw [4, 5] (fun _ i wr => ∃ j : Nat, j ≤ n ∧ i = .int .i64 j ∧ Hid (∀ i, i < j → Bell.fxAt l i = Bell.fxAt k i) ∧ Hid (Below w.heap.size w wr)) (fun _ i _ => n - (intOf i).toNat)
  case atStart => exact ⟨0, Nat.zero_le _, rfl, (fun i hi => by omega), Below.refl _ _⟩
  case round =>
    obtain ⟨j, hj, rfl, hz, hb⟩ := hrel
    by_cases hlt : j < n
    · obtain ⟨b1, o1, rfl, hc1⟩ := (HL.out.keep hb.out).2 (by omega)
      obtain ⟨b2, o2, rfl, hc2⟩ := (HK.out.keep hb.out).2 (by omega)
      have C1 := Lib.hid (hc1.2 j hlt)
      have C2 := Lib.hid (hc2.2 j hlt)
      obtain ⟨X, hX⟩ : ∃ X, X = Bell.fxAt l j := ⟨_, rfl⟩
      obtain ⟨Y, hY⟩ : ∃ Y, Y = Bell.fxAt k j := ⟨_, rfl⟩
      rw [← hX] at C1
      rw [← hY] at C2
      have HX := Lib.hid hX
      have HY := Lib.hid hY
      have pl : (j : Int) < (n : Int) := by omega
      obtain ⟨BB, hBB⟩ : ∃ BB, BB = decide (X.t = Y.t ∧ X.x = Y.x ∧ X.y = Y.y ∧ X.z = Y.z ∧ X.p = Y.p) := ⟨_, rfl⟩
      have EQ : Hid (∀ W, (Op.equalIn 10000 140 (.agg (fxV5 X)) (.agg (fxV5 Y))).run Tryz.prog W = .ok BB W) := fun W => by rw [hBB]; exact eq_fxR _ _ _ _ _ _ _ _ _ _ W
      have HBB := Lib.hid hBB
      clear hX hY hBB hc1 hc2
      go_upto_region 6 with fail
      refine wp_region_allN 9 rfl (by kernel_rfl) (by kernel_rfl) [GR.eq (.slice (some ⟨b1, o1, none⟩) n c), GR.eq (.int .i64 j), GR.eq (.pointer (some ⟨b1, o1 + j * 5, none⟩)), GR.eq (.agg #[.int .i64 X.t, .int .i64 X.x, .int .i64 X.y, .int .i64 X.z, .int .i64 X.p]), GR.eq (.slice (some ⟨b2, o2, none⟩) n d), GR.eq (.int .i64 j), GR.eq (.pointer (some ⟨b2, o2 + j * 5, none⟩)), GR.eq (.agg #[.int .i64 Y.t, .int .i64 Y.x, .int .i64 Y.y, .int .i64 Y.z, .int .i64 Y.p]), GR.eq (.bool (!BB))] 26 rfl (by kernel_rfl) ?_ ?_
      · refine ⟨?_, ?_, ?_, ?_, ?_, ?_, ?_, ?_, ?_, trivial⟩
        · intro a W hE hd ho
          have e0 : a.tmps[0]?.getD undef = .slice (some ⟨b1, o1, none⟩) n c := ho 0 (by kernel_rfl)
          exact gs_same (v := .slice (some ⟨b1, o1, none⟩) n c) (by go_simp) rfl
        · intro a W hE hd ho
          have e5 : a.tmps[5]?.getD undef = .int .i64 j := ho 5 (by kernel_rfl)
          exact gs_same (v := .int .i64 j) (by go_simp) rfl
        · intro a W hE hd ho
          have e17 : a.tmps[17]?.getD undef = .slice (some ⟨b1, o1, none⟩) n c := hd 0 17 (by kernel_rfl) (by kernel_rfl)
          have e18 : a.tmps[18]?.getD undef = .int .i64 j := hd 1 18 (by kernel_rfl) (by kernel_rfl)
          exact gs_same (v := .pointer (some ⟨b1, o1 + j * 5, none⟩)) (by go_simp) rfl
        · intro a W hE hd ho
          have e19 : a.tmps[19]?.getD undef = .pointer (some ⟨b1, o1 + j * 5, none⟩) := hd 2 19 (by kernel_rfl) (by kernel_rfl)
          obtain ⟨q0, q1, q2, q3, q4⟩ := C1.out
          have z0 := cell_kept hE q0
          have z1 := cell_kept hE q1
          have z2 := cell_kept hE q2
          have z3 := cell_kept hE q3
          have z4 := cell_kept hE q4
          exact gs_same (v := .agg #[.int .i64 X.t, .int .i64 X.x, .int .i64 X.y, .int .i64 X.z, .int .i64 X.p]) (by go_simp) rfl
        · intro a W hE hd ho
          have e1 : a.tmps[1]?.getD undef = .slice (some ⟨b2, o2, none⟩) n d := ho 1 (by kernel_rfl)
          exact gs_same (v := .slice (some ⟨b2, o2, none⟩) n d) (by go_simp) rfl
        · intro a W hE hd ho
          have e5 : a.tmps[5]?.getD undef = .int .i64 j := ho 5 (by kernel_rfl)
          exact gs_same (v := .int .i64 j) (by go_simp) rfl
        · intro a W hE hd ho
          have e21 : a.tmps[21]?.getD undef = .slice (some ⟨b2, o2, none⟩) n d := hd 4 21 (by kernel_rfl) (by kernel_rfl)
          have e22 : a.tmps[22]?.getD undef = .int .i64 j := hd 5 22 (by kernel_rfl) (by kernel_rfl)
          exact gs_same (v := .pointer (some ⟨b2, o2 + j * 5, none⟩)) (by go_simp) rfl
        · intro a W hE hd ho
          have e23 : a.tmps[23]?.getD undef = .pointer (some ⟨b2, o2 + j * 5, none⟩) := hd 6 23 (by kernel_rfl) (by kernel_rfl)
          obtain ⟨q0, q1, q2, q3, q4⟩ := C2.out
          have z0 := cell_kept hE q0
          have z1 := cell_kept hE q1
          have z2 := cell_kept hE q2
          have z3 := cell_kept hE q3
          have z4 := cell_kept hE q4
          exact gs_same (v := .agg #[.int .i64 Y.t, .int .i64 Y.x, .int .i64 Y.y, .int .i64 Y.z, .int .i64 Y.p]) (by go_simp) rfl
        · intro a W hE hd ho
          have e20 : a.tmps[20]?.getD undef = .agg #[.int .i64 X.t, .int .i64 X.x, .int .i64 X.y, .int .i64 X.z, .int .i64 X.p] := hd 3 20 (by kernel_rfl) (by kernel_rfl)
          have e24 : a.tmps[24]?.getD undef = .agg #[.int .i64 Y.t, .int .i64 Y.x, .int .i64 Y.y, .int .i64 Y.z, .int .i64 Y.p] := hd 7 24 (by kernel_rfl) (by kernel_rfl)
          have eq := EQ.out
          unfold fxV5 at eq
          exact gs_same (v := .bool (!BB)) (by go_simp) rfl
      intro vs w2 hE hR
      have y0 : vs 0 = .slice (some ⟨b1, o1, none⟩) n c := hR 0 (by omega)
      have y1 : vs 1 = .int .i64 j := hR 1 (by omega)
      have y2 : vs 2 = .pointer (some ⟨b1, o1 + j * 5, none⟩) := hR 2 (by omega)
      have y3 : vs 3 = .agg #[.int .i64 X.t, .int .i64 X.x, .int .i64 X.y, .int .i64 X.z, .int .i64 X.p] := hR 3 (by omega)
      have y4 : vs 4 = .slice (some ⟨b2, o2, none⟩) n d := hR 4 (by omega)
      have y5 : vs 5 = .int .i64 j := hR 5 (by omega)
      have y6 : vs 6 = .pointer (some ⟨b2, o2 + j * 5, none⟩) := hR 6 (by omega)
      have y7 : vs 7 = .agg #[.int .i64 Y.t, .int .i64 Y.x, .int .i64 Y.y, .int .i64 Y.z, .int .i64 Y.p] := hR 7 (by omega)
      have y8 : vs 8 = .bool (!BB) := hR 8 (by omega)
      simp only [List.range, List.range.loop, List.foldl_cons, List.foldl_nil, y0, y1, y2, y3, y4, y5, y6, y7, y8, List.drop_succ_cons, List.drop_zero]
      simp only [dstAt, List.getElem?_toArray, List.getElem?_cons_zero, List.getElem?_cons_succ, Option.bind_some, Act.put, List.setIfInBounds_toArray, List.set_cons_zero, List.set_cons_succ]
      clear y0 y1 y2 y3 y4 y5 y6 y7 y8 hR
      have HB2 := Lib.hid (hb.out.trans (hE.mono hb.out.size))
      clear hE C1 C2 EQ
      cases BB
      case false =>
        go_wp2
        go_ret
        refine ⟨⟨false, rfl, ⟨fun h => (by cases h), fun h => ?_⟩⟩, HB2.out⟩
        have h1 := of_decide_eq_false HBB.out.symm
        exact absurd (by rw [HX.out, HY.out, h]; exact ⟨rfl, rfl, rfl, rfl, rfl⟩) h1
      case true =>
        go_wp2
        go_roundw
        case rel =>
          refine ⟨j + 1, by omega, by go_num, fun i hi => ?_, HB2⟩
          by_cases hij : i < j
          · exact hz.out i hij
          · obtain rfl : i = j := by omega
            rw [← HX.out, ← HY.out]
            exact fx_ext (of_decide_eq_true HBB.out.symm)
        case measure => simp [intOf]; omega
    · obtain rfl : j = n := by omega
      go_wp2
      go_ret
      exact ⟨⟨true, rfl, ⟨fun _ => fxs_ext (by rw [HL.out.1, HK.out.1]) (fun i hi => hz.out i (by rw [← HL.out.1]; exact hi)), fun _ => rfl⟩⟩, hb.out⟩
end Go.Proofs.YtmafmebcgmegeaaGreatDoor

namespace Go.Proofs.YtmafmebcgmegeaaGreatDoor
open Go.RowKit Go.Sort
def ptCells (l : List Bell.Pt) : List Value := l.flatMap fun p => [.int .i64 p.x, .int .i64 p.y]
theorem ptCells_len (l : List Bell.Pt) : (ptCells l).length = l.length * 2 := by
  induction l with
  | nil => rfl
  | cons p l ih => simp only [ptCells, List.flatMap_cons, List.length_append, List.length_cons, List.length_nil] at *; omega
theorem ptCells_at (l : List Bell.Pt) (i : Nat) (hi : i < l.length) : (ptCells l)[i * 2]? = some (.int .i64 (Bell.ptAt l i).x) ∧ (ptCells l)[i * 2 + 1]? = some (.int .i64 (Bell.ptAt l i).y) := by
  induction l generalizing i with
  | nil => simp at hi
  | cons p l ih =>
    cases i with
    | zero => exact ⟨rfl, rfl⟩
    | succ i =>
      have := ih i (by simpa using hi)
      have e : ptCells (p :: l) = Value.int .i64 p.x :: Value.int .i64 p.y :: ptCells l := rfl
      have ef : Bell.ptAt (p :: l) (i + 1) = Bell.ptAt l i := rfl
      rw [e, ef, show (i + 1) * 2 = i * 2 + 1 + 1 by omega]
      simpa using this
theorem PtsAt.cellsAt {w : World} {g o n : Nat} {l : List Bell.Pt} (h : PtsAt w (some ⟨g, o, none⟩) n l) : ∀ j u, (ptCells l)[j]? = some u → w.cell? ((⟨g, o, none⟩ : Addr).add j) = some u := fun j u hu => by
  have hj : j < n * 2 := by
    have := (List.getElem?_eq_some_iff.1 hu).1
    rw [ptCells_len, h.1] at this
    exact this
  obtain ⟨b, off, he, hh⟩ := h.2 (by omega)
  cases he
  obtain ⟨c0, c1⟩ := hh (j / 2) (by omega)
  obtain ⟨d0, d1⟩ := ptCells_at l (j / 2) (by rw [h.1]; omega)
  rw [addAddr]
  rcases Nat.mod_two_eq_zero_or_one j with hm | hm
  · have e : j = j / 2 * 2 := by omega
    rw [e] at hu ⊢
    rw [d0] at hu
    rw [c0, ← hu]
  · have e : j = j / 2 * 2 + 1 := by omega
    rw [e] at hu ⊢
    rw [d1] at hu
    rw [← Nat.add_assoc, c1, ← hu]
/-- A copy of points. -/
def GR.pts (n : Nat) (l : List Bell.Pt) : GR := ⟨fun v W => ∃ g c, v = .slice (some ⟨g, 0, none⟩) n c ∧ PtsAt W (some ⟨g, 0, none⟩) n l ∧ n ≤ c ∧ c ≤ 9223372036854775807, fun ⟨g, c, e, h1, h2⟩ hE => ⟨g, c, e, h1.keep hE, h2⟩⟩
def GR.fl (E : Int) (k : List Bell.Fx) : GR := ⟨fun v W => ∃ A m c, v = .tuple #[.slice A m c, .int .i64 E] ∧ TrAt W A m k, fun ⟨A, m, c, e, h1⟩ hE => ⟨A, m, c, e, h1.keep hE⟩⟩
def GR.fls (k : List Bell.Fx) : GR := ⟨fun v W => ∃ A m c, v = .slice A m c ∧ TrAt W A m k, fun ⟨A, m, c, e, h1⟩ hE => ⟨A, m, c, e, h1.keep hE⟩⟩
theorem refSpeed_st (x : Int) (w : World) : Calls Tryz.prog 40 #[.int .i64 x] w fun e w' => e = .returned (.int .i64 (withinE x 1 1000)) ∧ w' = w := by
  go_enter Tryz.func40, Tryz.ntmps40
  go_wp2_with fail
  refine (refCheckRange_st _ _ _ _).mono ?_
  rintro e w' ⟨rfl, rfl⟩
  go_wp2
  go_ret
  exact ⟨rfl, rfl⟩
def GR.row (n : Nat) (T : TypeId) (cs : Array Value) : GR := ⟨fun v W => ∃ g, v = .slice (some ⟨g, 0, none⟩) n n ∧ Blk W g T cs, fun ⟨g, e, h⟩ hE => ⟨g, e, h.below hE⟩⟩
end Go.Proofs.YtmafmebcgmegeaaGreatDoor

namespace Go.Proofs.YtmafmebcgmegeaaGreatDoor
open Go.RowKit Go.Sort
theorem SpsAt.cellsAt {w : World} {g o n : Nat} {l : List Bell.Sp} (h : SpsAt w (some ⟨g, o, none⟩) n l) : ∀ j u, (spCells l)[j]? = some u → w.cell? ((⟨g, o, none⟩ : Addr).add j) = some u := fun j u hu => by
  have hj : j < n * 3 := by
    have := (List.getElem?_eq_some_iff.1 hu).1
    rw [spCells_len, h.1] at this
    exact this
  obtain ⟨b, off, he, hh⟩ := h.2 (by omega)
  cases he
  obtain ⟨c0, c1, c2⟩ := hh (j / 3) (by omega)
  obtain ⟨d0, d1, d2⟩ := spCells_at l (j / 3) (by rw [h.1]; omega)
  rw [addAddr]
  rcases (show j % 3 = 0 ∨ j % 3 = 1 ∨ j % 3 = 2 by omega) with hm | hm | hm
  · have e : j = j / 3 * 3 := by omega
    rw [e] at hu ⊢
    rw [d0] at hu
    rw [c0, ← hu]
  · have e : j = j / 3 * 3 + 1 := by omega
    rw [e] at hu ⊢
    rw [d1] at hu
    rw [← Nat.add_assoc, c1, ← hu]
  · have e : j = j / 3 * 3 + 2 := by omega
    rw [e] at hu ⊢
    rw [d2] at hu
    rw [← Nat.add_assoc, c2, ← hu]
/-- A procedure of the reference in a block of the call's own. -/
def OwnPr (w : World) (base g n c : Nat) (l : List Bell.Sp) : Prop := w.ownsRow base 161 3 (.slice (some ⟨g, 0, none⟩) n c) n (spCells l) ∧ l.length = n
theorem OwnPr.at_ {w : World} {base g n c : Nat} {l : List Bell.Sp} (h : OwnPr w base g n c l) : SpsAt w (some ⟨g, 0, none⟩) n l := by
  refine ⟨h.2, fun _ => ⟨g, 0, rfl, fun i hi => ?_⟩⟩
  obtain ⟨d0, d1, d2⟩ := spCells_at l i (by rw [h.2]; exact hi)
  refine ⟨?_, ?_, ?_⟩
  · rw [Nat.zero_add, World.ownsRow.cellAt h.1 (i * 3) (by omega)]; exact d0
  · rw [Nat.zero_add, World.ownsRow.cellAt h.1 (i * 3 + 1) (by omega)]; exact d1
  · rw [Nat.zero_add, World.ownsRow.cellAt h.1 (i * 3 + 2) (by omega)]; exact d2
theorem TrAt.cellsAt {w : World} {g o n : Nat} {l : List Bell.Fx} (h : TrAt w (some ⟨g, o, none⟩) n l) : ∀ j u, (fxCells l)[j]? = some u → w.cell? ((⟨g, o, none⟩ : Addr).add j) = some u := fun j u hu => by
  have hj : j < n * 5 := by
    have := (List.getElem?_eq_some_iff.1 hu).1
    rw [fxCells_len, h.1] at this
    exact this
  obtain ⟨b, off, he, _, hh⟩ := h.2 (by omega)
  cases he
  obtain ⟨c0, c1, c2, c3, c4⟩ := hh (j / 5) (by omega)
  obtain ⟨d0, d1, d2, d3, d4⟩ := fxCells_at l (j / 5) (by rw [h.1]; omega)
  rw [addAddr]
  rcases (show j % 5 = 0 ∨ j % 5 = 1 ∨ j % 5 = 2 ∨ j % 5 = 3 ∨ j % 5 = 4 by omega) with hm | hm | hm | hm | hm
  · have e : j = j / 5 * 5 := by omega
    rw [e] at hu ⊢
    rw [d0] at hu
    rw [c0, ← hu]
  · have e : j = j / 5 * 5 + 1 := by omega
    rw [e] at hu ⊢
    rw [d1] at hu
    rw [← Nat.add_assoc, c1, ← hu]
  · have e : j = j / 5 * 5 + 2 := by omega
    rw [e] at hu ⊢
    rw [d2] at hu
    rw [← Nat.add_assoc, c2, ← hu]
  · have e : j = j / 5 * 5 + 3 := by omega
    rw [e] at hu ⊢
    rw [d3] at hu
    rw [← Nat.add_assoc, c3, ← hu]
  · have e : j = j / 5 * 5 + 4 := by omega
    rw [e] at hu ⊢
    rw [d4] at hu
    rw [← Nat.add_assoc, c4, ← hu]
end Go.Proofs.YtmafmebcgmegeaaGreatDoor
