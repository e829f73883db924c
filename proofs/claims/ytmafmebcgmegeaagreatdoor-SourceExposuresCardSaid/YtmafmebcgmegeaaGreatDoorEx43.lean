/- Texts Wf Qm Qo Qq of the proof. -/
import Derived.Test.YtmafmebcgmegeaaGreatDoorEx40
import Derived.Test.YtmafmebcgmegeaaGreatDoorEx24
import Derived.Test.YtmafmebcgmegeaaGreatDoorEx16
import Derived.Test.YtmafmebcgmegeaaGreatDoorEx17
import Derived.Test.YtmafmebcgmegeaaGreatDoorEx38
import Derived.Test.YtmafmebcgmegeaaGreatDoorEx29
import Derived.Test.YtmafmebcgmegeaaGreatDoorEx37
import Derived.Test.YtmafmebcgmegeaaGreatDoorEx21
namespace Go.Proofs.YtmafmebcgmegeaaGreatDoor
open Go.RowKit Go.Sort
set_option maxHeartbeats 2000000 in
set_option maxRecDepth 100000 in
theorem fixes_any (A : Option Addr) (n c : Nat) (l : List Bell.Fx) (w : World) (hz : TrAt w A n l) (hn : n ≤ 100000) :
    Calls Tryz.prog 36 #[.slice A n c] w fun e w' => ∃ A' c', e = .returned (.slice A' n c') ∧ TrAt w' A' n l ∧ (n ≤ c' ∧ c' ≤ 9223372036854775807) ∧ Below w.heap.size w w' := by
  obtain ⟨i0, hi, hz0, hz1, hz2⟩ := info_parts infoFix
  have HZ := Lib.hid hz
  clear hz
  go_enter Tryz.func36, Tryz.ntmps36
  go_wp2
  go_loopw [3, 5, 8] (fun v _ i wr => ∃ k : Nat, k ≤ n ∧ i = .int .i64 k ∧ OwnT wr w.heap.size v (l.take k) ∧ Below w.heap.size w wr) (fun _ _ i _ => n - (intOf i).toNat)
  case atStart => exact ⟨0, Nat.zero_le _, rfl, World.ownsRow_nil _ _ _ _, Below.refl _ _⟩
  case round =>
    obtain ⟨k, hk, rfl, hown, hb⟩ := hrel
    by_cases hlt : k < n
    · obtain ⟨b, off, rfl, hcc⟩ := (HZ.out.keep hb).2 (by omega)
      obtain ⟨P, hP⟩ : ∃ P, P = Bell.fxAt l k := ⟨_, rfl⟩
      obtain ⟨c0, c1, c2, c3, c4⟩ := hcc.2 k hlt
      rw [← hP] at c0 c1 c2 c3 c4
      have HT : Hid (l.take (k + 1) = l.take k ++ [P]) := by
        show _ = _
        have hkl : k < l.length := by rw [HZ.out.1]; exact hlt
        rw [hP, Bell.fxAt_get hkl]
        exact (List.take_append_getElem hkl).symm
      have hown0 : wr.ownsRow w.heap.size 152 5 u3 k (fxCells (l.take k)) := by
        have := hown
        unfold OwnT at this
        rwa [List.length_take, HZ.out.1, Nat.min_eq_left hk] at this
      have hsz := hb.size
      have HB := Lib.hid hb
      clear hcc hP hb hown
      go_wp2_with (at_builtin; refine wpList_append_own _ rfl _ _ 67 rfl w.heap.size 152 i0 (.agg #[.int .i64 0, .int .i64 0, .int .i64 0, .int .i64 0, .int .i64 0]) 5 40 Tryz.underlying67 hi hz0 hz1 hz2 rfl (by decide) _ _ _ rfl (World.ownsRow.alloc (World.ownsRow.alloc hown0 _) _) ⟨wr.heap.size + 1, 0, none⟩ 1 1 [.int .i64 P.t, .int .i64 P.x, .int .i64 P.y, .int .i64 P.z, .int .i64 P.p] rfl rfl (by have := cells_five_at (wr.alloc (.cells #[.int .i64 P.t, .int .i64 P.x, .int .i64 P.y, .int .i64 P.z, .int .i64 P.p] 140)) 152 (.int .i64 P.t) (.int .i64 P.x) (.int .i64 P.y) (.int .i64 P.z) (.int .i64 P.p); rw [World.size_alloc] at this; exact this) (by simp [Value.oneCell']) (by unfold maxLen; omega) (by omega) (by simp; omega) ?_; intro v' w1 hown' hgrow _)
      have R : OwnT w1 w.heap.size v' (l.take (k + 1)) := by
        unfold OwnT
        rw [HT.out, fxCells_snoc, List.length_append, List.length_take, HZ.out.1, Nat.min_eq_left hk]
        exact hown'
      have B1 : Below w.heap.size w w1 := Below.grown ((HB.out.alloc HB.out.size _).alloc (by simp; omega) _) hgrow (by simp; omega) (fun j hj => (hown0.lt j hj).1)
      clear hown' hgrow hown0
      go_wp2
      go_roundw
      case rel => exact ⟨k + 1, by omega, by go_num, R, B1⟩
      case measure => simp [intOf]; omega
    · obtain rfl : k = n := by omega
      have HB := Lib.hid hb
      have ho := OwnT.at_ hown
      rw [List.take_of_length_le (by rw [HZ.out.1]; omega), HZ.out.1] at ho
      obtain ⟨A', c', hv, hh, hcap⟩ := ho
      have HH := Lib.hid hh
      have HCA := Lib.hid hcap
      subst hv
      clear hb hown hh hcap
      go_wp2
      go_ret
      exact ⟨_, _, rfl, HH.out, HCA.out, HB.out⟩
/-- A track of the call's own. -/
def OwnTR (w : World) (base : Nat) (v : Value) (l : List Bell.Fx) : Prop := w.ownsRow base 140 5 v l.length (fxCells l)
theorem OwnTR.at_ {w : World} {base : Nat} {v : Value} {l : List Bell.Fx} (h : OwnTR w base v l) : ∃ A c, v = .slice A l.length c ∧ TrAt w A l.length l ∧ l.length ≤ c ∧ c ≤ 9223372036854775807 := by
  have h0 := h
  rcases h.2 with ⟨hv, hn⟩ | ⟨g, cap, cur, hv, hb, hg, hnc, hm, hs', ht⟩
  · exact ⟨none, 0, by rw [hv, hn], ⟨rfl, fun h => by omega⟩, by omega, by omega⟩
  · subst hv
    refine ⟨_, _, rfl, ⟨rfl, fun _ => ⟨g, 0, rfl, rfl, fun i hi => ?_⟩⟩, hnc, by unfold maxLen at hm; omega⟩
    obtain ⟨p0, p1, p2, p3, p4⟩ := fxCells_at l i hi
    unfold FixAt
    simp only [Nat.zero_add]
    refine ⟨?_, ?_, ?_, ?_, ?_⟩
    · rw [World.ownsRow.cellAt h0 (i * 5) (by omega)]; exact p0
    · rw [World.ownsRow.cellAt h0 (i * 5 + 1) (by omega)]; exact p1
    · rw [World.ownsRow.cellAt h0 (i * 5 + 2) (by omega)]; exact p2
    · rw [World.ownsRow.cellAt h0 (i * 5 + 3) (by omega)]; exact p3
    · rw [World.ownsRow.cellAt h0 (i * 5 + 4) (by omega)]; exact p4
def spCells (l : List Bell.Sp) : List Value := l.flatMap fun p => [.int .i64 p.d, .int .i64 p.h, .int .i64 p.p]
theorem spCells_at (l : List Bell.Sp) (i : Nat) (hi : i < l.length) : (spCells l)[i * 3]? = some (.int .i64 (Bell.spAt l i).d) ∧ (spCells l)[i * 3 + 1]? = some (.int .i64 (Bell.spAt l i).h) ∧ (spCells l)[i * 3 + 2]? = some (.int .i64 (Bell.spAt l i).p) := by
  induction l generalizing i with
  | nil => simp at hi
  | cons p l ih =>
    cases i with
    | zero => exact ⟨rfl, rfl, rfl⟩
    | succ i =>
      have := ih i (by simpa using hi)
      have e : spCells (p :: l) = Value.int .i64 p.d :: Value.int .i64 p.h :: Value.int .i64 p.p :: spCells l := rfl
      have ef : Bell.spAt (p :: l) (i + 1) = Bell.spAt l i := rfl
      rw [e, ef, show (i + 1) * 3 = i * 3 + 1 + 1 + 1 by omega]
      simpa using this
def OwnSp (w : World) (base : Nat) (v : Value) (l : List Bell.Sp) : Prop := w.ownsRow base 166 3 v l.length (spCells l)
theorem OwnSp.at_ {w : World} {base : Nat} {v : Value} {l : List Bell.Sp} (h : OwnSp w base v l) : ∃ A c, v = .slice A l.length c ∧ SpsAt w A l.length l := by
  have h0 := h
  rcases h.2 with ⟨hv, hn⟩ | ⟨g, cap, cur, hv, hb, hg, hnc, hm, hs', ht⟩
  · exact ⟨none, 0, by rw [hv, hn], ⟨rfl, fun h => by omega⟩⟩
  · subst hv
    refine ⟨_, _, rfl, ⟨rfl, fun _ => ⟨g, 0, rfl, fun i hi => ?_⟩⟩⟩
    obtain ⟨p0, p1, p2⟩ := spCells_at l i hi
    simp only [Nat.zero_add]
    refine ⟨?_, ?_, ?_⟩
    · rw [World.ownsRow.cellAt h0 (i * 3) (by omega)]; exact p0
    · rw [World.ownsRow.cellAt h0 (i * 3 + 1) (by omega)]; exact p1
    · rw [World.ownsRow.cellAt h0 (i * 3 + 2) (by omega)]; exact p2
end Go.Proofs.YtmafmebcgmegeaaGreatDoor
