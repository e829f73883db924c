/- The law's copy of a track. -/
import Derived.Test.YtnbionhahifacaaDoorIr
import Derived.RangeFuncBox
import Derived.WalkMore
namespace Go.Proofs.YtnbionhahifacaaDoor
open Go.RowKit

def fxCells (l : List Bell.Fx) : List Value := l.flatMap fun p => [.int .i64 p.t, .int .i64 p.x, .int .i64 p.y, .int .i64 p.z, .int .i64 p.p]
theorem fxCells_len (l : List Bell.Fx) : (fxCells l).length = l.length * 5 := by
  induction l with
  | nil => rfl
  | cons p l ih => simp only [fxCells, List.flatMap_cons, List.length_append, List.length_cons, List.length_nil] at *; omega
theorem fxCells_snoc (l : List Bell.Fx) (p : Bell.Fx) : fxCells (l ++ [p]) = fxCells l ++ [.int .i64 p.t, .int .i64 p.x, .int .i64 p.y, .int .i64 p.z, .int .i64 p.p] := by simp [fxCells]
theorem fxCells_at (l : List Bell.Fx) (i : Nat) (hi : i < l.length) : (fxCells l)[i * 5]? = some (.int .i64 (Bell.fxAt l i).t) ∧ (fxCells l)[i * 5 + 1]? = some (.int .i64 (Bell.fxAt l i).x) ∧ (fxCells l)[i * 5 + 2]? = some (.int .i64 (Bell.fxAt l i).y) ∧ (fxCells l)[i * 5 + 3]? = some (.int .i64 (Bell.fxAt l i).z) ∧ (fxCells l)[i * 5 + 4]? = some (.int .i64 (Bell.fxAt l i).p) := by
  induction l generalizing i with
  | nil => simp at hi
  | cons p l ih =>
    cases i with
    | zero => exact ⟨rfl, rfl, rfl, rfl, rfl⟩
    | succ i =>
      have := ih i (by simpa using hi)
      have e : fxCells (p :: l) = Value.int .i64 p.t :: Value.int .i64 p.x :: Value.int .i64 p.y :: Value.int .i64 p.z :: Value.int .i64 p.p :: fxCells l := rfl
      have ef : Bell.fxAt (p :: l) (i + 1) = Bell.fxAt l i := rfl
      rw [e, ef, show (i + 1) * 5 = i * 5 + 1 + 1 + 1 + 1 + 1 by omega]
      simpa using this
/-- A track of the call's own. -/
def OwnT (w : World) (base : Nat) (v : Value) (l : List Bell.Fx) : Prop := w.ownsRow base 68 5 v l.length (fxCells l)
theorem OwnT.at_ {w : World} {base : Nat} {v : Value} {l : List Bell.Fx} (h : OwnT w base v l) : ∃ A c, v = .slice A l.length c ∧ TrAt w A l.length l ∧ l.length ≤ c ∧ c ≤ 9223372036854775807 := by
  have h0 := h
  rcases h.2 with ⟨hv, hn⟩ | ⟨g, cap, cur, hv, hb, hg, hnc, hm, hs', ht⟩
  · exact ⟨none, 0, by rw [hv, hn], ⟨rfl, fun h => by omega⟩, by omega, by omega⟩
  · subst hv
    refine ⟨_, _, rfl, ⟨rfl, fun _ => ⟨g, 0, rfl, rfl, fun i hi => ?_⟩⟩, hnc, by unfold maxLen at hm; omega⟩
    obtain ⟨p0, p1, p2, p3, p4⟩ := fxCells_at l i hi
    unfold FixAt
    simp only [Nat.zero_add]
    refine ⟨?_, ?_, ?_, ?_, ?_⟩
    · rw [World.ownsRow.cellAt h0 (i * 5) (by omega)]; exact p0
    · rw [World.ownsRow.cellAt h0 (i * 5 + 1) (by omega)]; exact p1
    · rw [World.ownsRow.cellAt h0 (i * 5 + 2) (by omega)]; exact p2
    · rw [World.ownsRow.cellAt h0 (i * 5 + 3) (by omega)]; exact p3
    · rw [World.ownsRow.cellAt h0 (i * 5 + 4) (by omega)]; exact p4
theorem infoFix : (Tryd.prog.info? 68).map (fun i => (i.zero, i.size, i.bytes)) = some (some (.agg #[.int .i64 0, .int .i64 0, .int .i64 0, .int .i64 0, .int .i64 0]), 5, 40) := by kernel_rfl
theorem addAddr (b off j : Nat) : (⟨b, off, none⟩ : Addr).add j = ⟨b, off + j, none⟩ := by unfold Addr.add; split <;> simp_all
theorem cells_five_at (w : World) (t : TypeId) (a b c d e : Value) : ∀ (j : Nat) (u : Value), [a, b, c, d, e][j]? = some u → (w.alloc (.cells #[a, b, c, d, e] t)).cell? ((⟨w.heap.size, 0, none⟩ : Addr).add j) = some u := fun j u h => by
  rw [addAddr, Nat.zero_add, (Blk.new w t #[a, b, c, d, e]).cell j]
  simpa using h

set_option maxHeartbeats 2000000 in
set_option maxRecDepth 100000 in
theorem bellTrack_any (A : Option Addr) (n c : Nat) (l : List Bell.Fx) (w : World) (hz : TrAt w A n l) (hn : n ≤ 100000) :
    Calls Tryd.prog 9 #[.slice A n c] w fun e w' => ∃ A' c', e = .returned (.slice A' n c') ∧ TrAt w' A' n l ∧ (n ≤ c' ∧ c' ≤ 9223372036854775807) ∧ Below w.heap.size w w' := by
  obtain ⟨i0, hi, hz0, hz1, hz2⟩ := info_parts infoFix
  have HZ := Lib.hid hz
  clear hz
  go_enter Tryd.func9, Tryd.ntmps9
  go_wp2
  go_loopw [3, 5, 8] (fun v _ i wr => ∃ k : Nat, k ≤ n ∧ i = .int .i64 k ∧ OwnT wr w.heap.size v (l.take k) ∧ Below w.heap.size w wr) (fun _ _ i _ => n - (intOf i).toNat)
  case atStart => exact ⟨0, Nat.zero_le _, rfl, World.ownsRow_nil _ _ _ _, Below.refl _ _⟩
  case round =>
    obtain ⟨k, hk, rfl, hown, hb⟩ := hrel
    by_cases hlt : k < n
    · obtain ⟨b, off, rfl, hcc⟩ := (HZ.out.keep hb).2 (by omega)
      obtain ⟨P, hP⟩ : ∃ P, P = Bell.fxAt l k := ⟨_, rfl⟩
      obtain ⟨c0, c1, c2, c3, c4⟩ := hcc.2 k hlt
      rw [← hP] at c0 c1 c2 c3 c4
      have HT : Hid (l.take (k + 1) = l.take k ++ [P]) := by
        show _ = _
        have hkl : k < l.length := by rw [HZ.out.1]; exact hlt
        rw [hP, Bell.fxAt_get hkl]
        exact (List.take_append_getElem hkl).symm
      have hown0 : wr.ownsRow w.heap.size 68 5 u3 k (fxCells (l.take k)) := by
        have := hown
        unfold OwnT at this
        rwa [List.length_take, HZ.out.1, Nat.min_eq_left hk] at this
      have hsz := hb.size
      have HB := Lib.hid hb
      clear hcc hP hb hown
      go_wp2_with (at_builtin; refine wpList_append_own _ rfl _ _ 49 rfl w.heap.size 68 i0 (.agg #[.int .i64 0, .int .i64 0, .int .i64 0, .int .i64 0, .int .i64 0]) 5 40 Tryd.underlying49 hi hz0 hz1 hz2 rfl (by decide) _ _ _ rfl (World.ownsRow.alloc (World.ownsRow.alloc hown0 _) _) ⟨wr.heap.size + 1, 0, none⟩ 1 1 [.int .i64 P.t, .int .i64 P.x, .int .i64 P.y, .int .i64 P.z, .int .i64 P.p] rfl rfl (by have := cells_five_at (wr.alloc (.cells #[.int .i64 P.t, .int .i64 P.x, .int .i64 P.y, .int .i64 P.z, .int .i64 P.p] 39)) 68 (.int .i64 P.t) (.int .i64 P.x) (.int .i64 P.y) (.int .i64 P.z) (.int .i64 P.p); rw [World.size_alloc] at this; exact this) (by simp [Value.oneCell']) (by unfold maxLen; omega) (by omega) (by simp; omega) ?_; intro v' w1 hown' hgrow _)
      have R : OwnT w1 w.heap.size v' (l.take (k + 1)) := by
        unfold OwnT
        rw [HT.out, fxCells_snoc, List.length_append, List.length_take, HZ.out.1, Nat.min_eq_left hk]
        exact hown'
      have B1 : Below w.heap.size w w1 := Below.grown ((HB.out.alloc HB.out.size _).alloc (by simp; omega) _) hgrow (by simp; omega) (fun j hj => (hown0.lt j hj).1)
      clear hown' hgrow hown0
      go_wp2
      go_roundw
      case rel => exact ⟨k + 1, by omega, by go_num, R, B1⟩
      case measure => simp [intOf]; omega
    · obtain rfl : k = n := by omega
      have HB := Lib.hid hb
      have ho := OwnT.at_ hown
      rw [List.take_of_length_le (by rw [HZ.out.1]; omega), HZ.out.1] at ho
      obtain ⟨A', c', hv, hh, hcap⟩ := ho
      have HH := Lib.hid hh
      have HCA := Lib.hid hcap
      subst hv
      clear hb hown hh hcap
      go_wp2
      go_ret
      exact ⟨_, _, rfl, HH.out, HCA.out, HB.out⟩
end Go.Proofs.YtnbionhahifacaaDoor
