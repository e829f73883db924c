/- A slice of uint32 and an array of five uint16 among the arguments. -/
import Derived.Test.YtoipafnlcchmbaaGreatDoorVi
import Derived.Test.YtoipafnlcchmbaaGreatDoorS8
namespace Go.Proofs.YtoipafnlcchmbaaGreatDoor
open Go.ChangeShapes Go.WideShapes Go.ChangeAt Go.RowKit

section
variable {H : Type} {enc : TypeId × Value → H}
theorem cellsU32 : Tryz.prog.cellsOf 156 = 1 := by kernel_rfl
theorem bytesU32 : Tryz.prog.bytesOf 156 = 4 := by kernel_rfl
theorem wf_u32 {z : Int} (h : (Lit.int .u32 z).wf = true) : 0 ≤ z ∧ z ≤ 4294967295 := by
  simp only [Lit.wf, Bool.and_eq_true, decide_eq_true_eq] at h
  exact ⟨h.1, h.2⟩
theorem open_u32At {W : World} {v : Value} {d : DataW H} {ps : List MemPlace} (h : DataW.Trod enc Tryz.prog W 0 (fun _ => true) true 153 v d ps) (hv : ∃ a l c, v = .slice a l c) (_hsz : ∀ el sp, d = .slice el sp → (el.length + sp.length) * Tryz.prog.bytesOf 156 ≤ reachBytes) :
    ∃ A n c zs, v = .slice A n c ∧ U32At W A n zs ∧ ∀ i, i < n → 0 ≤ zs.getD i 0 ∧ zs.getD i 0 ≤ 4294967295 := by
  obtain ⟨fuel, hn⟩ := h
  rcases open_ints Tryz.underlying153 Tryz.underlying156 cellsU32 hn with ⟨hcs, _⟩ | ⟨a, len, cap, zs, hcs, _, hl, hm, hz, hx, hcell, hw⟩
  · obtain rfl := cells_slice hv hcs
    exact ⟨none, 0, 0, [], rfl, ⟨rfl, fun h => by omega⟩, fun i hi => by omega⟩
  · obtain rfl := cells_slice hv hcs
    simp only [if_true] at hz
    have hd : d = .slice (lits .u32 (zs.take len)) (lits .u32 (zs.drop len)) := congrArg Prod.fst hx
    refine ⟨some a, len, cap, zs.take len, rfl, ⟨by rw [List.length_take]; omega, fun h0 => ?_⟩, fun i hi => ?_⟩
    · obtain ⟨b, off, spot⟩ := a
      have hspot : spot = none := by simpa [Addr.add] using World.cell?_spot (hcell 0 (by omega))
      subst hspot
      refine ⟨b, off, rfl, fun i hi => ?_⟩
      have := hcell i (by omega)
      rw [add_plain] at this
      rw [this]
      simp [List.getD_eq_getElem?_getD, hi]
    · have hlt : i < (zs.take len).length := by rw [List.length_take]; omega
      have hmem : (zs.take len).getD i 0 ∈ zs.take len := by
        rw [List.getD_eq_getElem?_getD, List.getElem?_eq_getElem hlt]
        exact List.getElem_mem hlt
      exact wf_u32 (hw _ (List.mem_of_mem_take hmem))
end
theorem open_u16_of {P : Program} {tu : TypeId} (hu16 : P.underlying tu = some (.int .u16)) {W : World} {r : Reach} {base : Nat} {t : TypeId} {v : Value} {d : TypeDesc} (hu : P.underlying t = some d) (hd : rowD d = true) (hC : P.cellsOf t = 5)
    (hts : P.cellTypes P.depth t = some (List.replicate 5 tu)) (hv : Value.okWide P W r base t v) :
    ∃ n0 n1 n2 n3 n4 : Int, v = .agg #[.int .u16 n0, .int .u16 n1, .int .u16 n2, .int .u16 n3, .int .u16 n4] ∧ (0 ≤ n0 ∧ n0 ≤ 65535) ∧ (0 ≤ n1 ∧ n1 ≤ 65535) ∧ (0 ≤ n2 ∧ n2 ≤ 65535) ∧ (0 ≤ n3 ∧ n3 ≤ 65535) ∧ (0 ≤ n4 ∧ n4 ≤ 65535) := by
  obtain ⟨cs, rfl, hsz, h⟩ := open_row_of 5 hu hd hC (List.replicate 5 tu) rfl hts hv
  obtain ⟨n0, h0, b0⟩ := h 0 tu .u16 rfl hu16
  obtain ⟨n1, h1, b1⟩ := h 1 tu .u16 rfl hu16
  obtain ⟨n2, h2, b2⟩ := h 2 tu .u16 rfl hu16
  obtain ⟨n3, h3, b3⟩ := h 3 tu .u16 rfl hu16
  obtain ⟨n4, h4, b4⟩ := h 4 tu .u16 rfl hu16
  refine ⟨n0, n1, n2, n3, n4, ?_, ⟨b0.1, b0.2⟩, ⟨b1.1, b1.2⟩, ⟨b2.1, b2.2⟩, ⟨b3.1, b3.2⟩, ⟨b4.1, b4.2⟩⟩
  congr 1
  apply Array.ext_getElem?
  intro i
  match i with
  | 0 => rw [h0]; rfl
  | 1 => rw [h1]; rfl
  | 2 => rw [h2]; rfl
  | 3 => rw [h3]; rfl
  | 4 => rw [h4]; rfl
  | i + 5 => rw [Array.getElem?_eq_none (by omega)]; rfl
end Go.Proofs.YtoipafnlcchmbaaGreatDoor
