/- What is heard, opened among the arguments. -/
import Derived.Test.YtoipafnlcchmbaaGreatDoorVf
import Derived.Test.YtoipafnlcchmbaaGreatDoorQD
import Derived.Deep.SlicePairs
import Derived.ChangeArms
namespace Go.Proofs.YtoipafnlcchmbaaGreatDoor
open Go.ChangeShapes Go.WideShapes Go.ChangeAt Go.RowKit
section
variable {H : Type} {enc : TypeId × Value → H}
/-- What is heard, among the arguments. -/
theorem bytesHeard : Tryz.prog.bytesOf 215 = 16 := by kernel_rfl
theorem cellsHeard : Tryz.prog.cellsOf 215 = 2 := by kernel_rfl
theorem open_heardAt {W : World} {v : Value} {d : DataW H} {ps : List MemPlace} (h : DataW.Trod enc Tryz.prog W 0 (fun _ => true) true 66 v d ps) (hv : ∃ a l c, v = .slice a l c) (hsz : ∀ el sp, d = .slice el sp → (el.length + sp.length) * Tryz.prog.bytesOf 215 ≤ reachBytes) :
    ∃ A n c hs, v = .slice A n c ∧ HeardAt W A n hs ∧ n ≤ 140737488351232 := by
  obtain ⟨fuel, hn⟩ := h
  rcases Go.Deep.open_slice_pairs Tryz.underlying66 Tryz.underlying215 cellsHeard rfl rfl cellsInt cellsInt hn with ⟨hcs, _⟩ | ⟨a, len, cap, m, k, V0, V1, D0, D1, P0, P1, hcs, _, hl, hm, hmm, hx, hcell⟩
  · obtain rfl := cells_slice hv hcs
    exact ⟨none, 0, 0, [], rfl, ⟨rfl, fun h => by omega⟩, by omega⟩
  · obtain rfl := cells_slice hv hcs
    simp only [if_true] at hmm
    have hd := congrArg Prod.fst hx
    have hb := hsz _ _ hd
    rw [bytesHeard] at hb
    simp only [List.length_map, List.length_range] at hb
    have hr : reachBytes = 140737488351232 := rfl
    have each : ∀ i, i < len → ∃ q : Int × Int, V0 i = .int .i64 q.1 ∧ V1 i = .int .i64 q.2 := fun i hi => by
      obtain ⟨_, _, t0, t1⟩ := hcell i (by omega)
      obtain ⟨x, hx0, _⟩ := DataW.trod_int Tryz.underlying3 t0
      obtain ⟨y, hy0, _⟩ := DataW.trod_int Tryz.underlying3 t1
      exact ⟨(x, y), by simpa using hx0, by simpa using hy0⟩
    obtain ⟨q, hq⟩ := Go.Deep.choose_lt each
    refine ⟨some a, len, cap, (List.range len).map q, rfl, ⟨by simp, fun h0 => ?_⟩, by omega⟩
    obtain ⟨b, off, spot⟩ := a
    have hspot : spot = none := by simpa [Addr.add] using World.cell?_spot (hcell 0 (by omega)).1
    subst hspot
    refine ⟨b, off, rfl, fun i hi => ?_⟩
    obtain ⟨e0, e1, _⟩ := hcell i (by omega)
    rw [add_plain] at e0 e1
    rw [Nat.add_assoc, e0, e1, (hq i hi).1, (hq i hi).2]
    simp [List.getD_eq_getElem?_getD, hi]
end
end Go.Proofs.YtoipafnlcchmbaaGreatDoor
