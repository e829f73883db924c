/- The copy of what is heard. -/
import Derived.Test.YtoipafnlcchmbaaGreatDoorQD
import Derived.Test.YtoipafnlcchmbaaGreatDoorS0
import Derived.RangeFuncBox
import Derived.WalkMore
namespace Go.Proofs.YtoipafnlcchmbaaGreatDoor
open Go.RowKit

def pairCells (l : List (Int × Int)) : List Value := l.flatMap fun p => [.int .i64 p.1, .int .i64 p.2]
theorem pairCells_len (l : List (Int × Int)) : (pairCells l).length = l.length * 2 := by
  induction l with
  | nil => rfl
  | cons p l ih => simp only [pairCells, List.flatMap_cons, List.length_append, List.length_cons, List.length_nil] at *; omega
theorem pairCells_snoc (l : List (Int × Int)) (p : Int × Int) : pairCells (l ++ [p]) = pairCells l ++ [.int .i64 p.1, .int .i64 p.2] := by simp [pairCells]
theorem pairCells_at (l : List (Int × Int)) (i : Nat) (hi : i < l.length) : (pairCells l)[i * 2]? = some (.int .i64 (l.getD i (0, 0)).1) ∧ (pairCells l)[i * 2 + 1]? = some (.int .i64 (l.getD i (0, 0)).2) := by
  induction l generalizing i with
  | nil => simp at hi
  | cons p l ih =>
    cases i with
    | zero => exact ⟨rfl, rfl⟩
    | succ i =>
      have := ih i (by simpa using hi)
      have e : pairCells (p :: l) = Value.int .i64 p.1 :: Value.int .i64 p.2 :: pairCells l := rfl
      rw [e, show (i + 1) * 2 = i * 2 + 1 + 1 by omega]
      simpa using this
/-- A slice of what is heard, of the call's own. -/
def OwnH (w : World) (base : Nat) (v : Value) (hs : List (Int × Int)) : Prop := w.ownsRow base 158 2 v hs.length (pairCells hs)
theorem OwnH.at_ {w : World} {base : Nat} {v : Value} {hs : List (Int × Int)} (h : OwnH w base v hs) : ∃ A c, v = .slice A hs.length c ∧ HeardAt w A hs.length hs := by
  have h0 := h
  rcases h.2 with ⟨hv, hn⟩ | ⟨g, cap, cur, hv, hb, hg, hnc, hm, hs', ht⟩
  · exact ⟨none, 0, by rw [hv, hn], ⟨rfl, fun h => by omega⟩⟩
  · subst hv
    refine ⟨_, _, rfl, ⟨rfl, fun _ => ⟨g, 0, rfl, fun i hi => ?_⟩⟩⟩
    have hp := pairCells_at hs i hi
    rw [Nat.zero_add]
    refine ⟨?_, ?_⟩
    · rw [World.ownsRow.cellAt h0 (i * 2) (by omega)]; exact hp.1
    · rw [World.ownsRow.cellAt h0 (i * 2 + 1) (by omega)]; exact hp.2
theorem infoHeard : (Tryz.prog.info? 158).map (fun i => (i.zero, i.size, i.bytes)) = some (some (.agg #[.int .i64 0, .int .i64 0]), 2, 16) := by kernel_rfl
theorem cells_two_at (w : World) (t : TypeId) (a b : Value) : ∀ (j : Nat) (u : Value), [a, b][j]? = some u → (w.alloc (.cells #[a, b] t)).cell? ((⟨w.heap.size, 0, none⟩ : Addr).add j) = some u := fun j u h => by
  rw [addr_add, Nat.zero_add, (Blk.new w t #[a, b]).cell j]
  simpa using h

set_option maxHeartbeats 2000000 in
set_option maxRecDepth 100000 in
theorem heard_any (A : Option Addr) (n c : Nat) (hs : List (Int × Int)) (w : World) (hz : HeardAt w A n hs) (hn : n ≤ 100000) :
    Calls Tryz.prog 53 #[.slice A n c] w fun e w' => ∃ A' c', e = .returned (.slice A' n c') ∧ HeardAt w' A' n hs ∧ Below w.heap.size w w' := by
  obtain ⟨i0, hi, hz0, hz1, hz2⟩ := info_parts infoHeard
  have HZ := Lib.hid hz
  clear hz
  go_enter Tryz.func53, Tryz.ntmps53
  go_wp2
  go_loopw [3, 5, 8] (fun v _ i wr => ∃ k : Nat, k ≤ n ∧ i = .int .i64 k ∧ OwnH wr w.heap.size v (hs.take k) ∧ Below w.heap.size w wr) (fun _ _ i _ => n - (intOf i).toNat)
  case atStart => exact ⟨0, Nat.zero_le _, rfl, World.ownsRow_nil _ _ _ _, Below.refl _ _⟩
  case round =>
    obtain ⟨k, hk, rfl, hown, hb⟩ := hrel
    by_cases hlt : k < n
    · obtain ⟨b, off, rfl, hcc⟩ := (HZ.out.keep hb).2 (by omega)
      obtain ⟨t, ht⟩ : ∃ t, t = (hs.getD k (0, 0)).1 := ⟨_, rfl⟩
      obtain ⟨e, he⟩ : ∃ e, e = (hs.getD k (0, 0)).2 := ⟨_, rfl⟩
      have c1 := (hcc k hlt).1
      have c2 := (hcc k hlt).2
      rw [← ht] at c1
      rw [← he] at c2
      have HT : Hid (hs.take (k + 1) = hs.take k ++ [(t, e)]) := by
        show _ = _
        have hkl : k < hs.length := by rw [HZ.out.1]; exact hlt
        have hg : hs.getD k (0, 0) = hs[k] := by simp [List.getD_eq_getElem?_getD, List.getElem?_eq_getElem hkl]
        rw [ht, he, hg]
        exact (List.take_append_getElem hkl).symm
      have hown0 : wr.ownsRow w.heap.size 158 2 u3 k (pairCells (hs.take k)) := by
        have := hown
        unfold OwnH at this
        rwa [List.length_take, HZ.out.1, Nat.min_eq_left hk] at this
      have hsz := hb.size
      have HB := Lib.hid hb
      clear hcc ht he hb hown
      go_wp2_with (at_builtin; refine wpList_append_own _ rfl _ _ 69 rfl w.heap.size 158 i0 (.agg #[.int .i64 0, .int .i64 0]) 2 16 Tryz.underlying69 hi hz0 hz1 hz2 rfl (by decide) _ _ _ rfl (World.ownsRow.alloc (World.ownsRow.alloc hown0 _) _) ⟨wr.heap.size + 1, 0, none⟩ 1 1 [.int .i64 t, .int .i64 e] rfl rfl (by have := cells_two_at (wr.alloc (.cells #[.int .i64 t, .int .i64 e] 215)) 158 (.int .i64 t) (.int .i64 e); rw [World.size_alloc] at this; exact this) (by simp [Value.oneCell']) (by unfold maxLen; omega) (by omega) (by simp; omega) ?_; intro v' w1 hown' hgrow _)
      have R : OwnH w1 w.heap.size v' (hs.take (k + 1)) := by
        unfold OwnH
        rw [HT.out, pairCells_snoc, List.length_append, List.length_take, HZ.out.1, Nat.min_eq_left hk]
        exact hown'
      have B1 : Below w.heap.size w w1 := Below.grown ((HB.out.alloc HB.out.size _).alloc (by simp; omega) _) hgrow (by simp; omega) (fun j hj => (hown0.lt j hj).1)
      clear hown' hgrow hown0
      go_wp2
      go_roundw
      case rel => exact ⟨k + 1, by omega, by go_num, R, B1⟩
      case measure => simp [intOf]; omega
    · obtain rfl : k = n := by omega
      have HB := Lib.hid hb
      have ho := OwnH.at_ hown
      rw [List.take_of_length_le (by rw [HZ.out.1]; omega), HZ.out.1] at ho
      obtain ⟨A', c', hv, hh⟩ := ho
      have HH := Lib.hid hh
      subst hv
      clear hb hown hh
      go_wp2
      go_ret
      exact ⟨_, _, rfl, HH.out, HB.out⟩
end Go.Proofs.YtoipafnlcchmbaaGreatDoor
