/- Eight int16 and four uint16 among the arguments. -/
import Derived.Test.YtoipafnlcchmbaaGreatDoorVi
import Derived.Test.YtoipafnlcchmbaaGreatDoorS16
namespace Go.Proofs.YtoipafnlcchmbaaGreatDoor
open Go.ChangeShapes Go.WideShapes Go.ChangeAt Go.RowKit

theorem tmod_2001 (a : Int) : (a.tmod 2001).natAbs ≤ 2000 := by
  rw [Int.natAbs_tmod]
  have := Nat.mod_lt a.natAbs (show 0 < (2001 : Int).natAbs by decide)
  have e : (2001 : Int).natAbs = 2001 := rfl
  omega
theorem open_i16_of {P : Program} {tu : TypeId} (hi16 : P.underlying tu = some (.int .i16)) {W : World} {r : Reach} {base : Nat} {t : TypeId} {v : Value} {d : TypeDesc} (hu : P.underlying t = some d) (hd : rowD d = true) (hC : P.cellsOf t = 8)
    (hts : P.cellTypes P.depth t = some (List.replicate 8 tu)) (hv : Value.okWide P W r base t v) :
    ∃ l : Nat → Int, v = .agg #[.int .i16 (l 0), .int .i16 (l 1), .int .i16 (l 2), .int .i16 (l 3), .int .i16 (l 4), .int .i16 (l 5), .int .i16 (l 6), .int .i16 (l 7)] ∧ ∀ k, k < 8 → -32768 ≤ l k ∧ l k ≤ 32767 := by
  obtain ⟨cs, rfl, hsz, h⟩ := open_row_of 8 hu hd hC (List.replicate 8 tu) rfl hts hv
  obtain ⟨n0, h0, b0⟩ := h 0 tu .i16 rfl hi16
  obtain ⟨n1, h1, b1⟩ := h 1 tu .i16 rfl hi16
  obtain ⟨n2, h2, b2⟩ := h 2 tu .i16 rfl hi16
  obtain ⟨n3, h3, b3⟩ := h 3 tu .i16 rfl hi16
  obtain ⟨n4, h4, b4⟩ := h 4 tu .i16 rfl hi16
  obtain ⟨n5, h5, b5⟩ := h 5 tu .i16 rfl hi16
  obtain ⟨n6, h6, b6⟩ := h 6 tu .i16 rfl hi16
  obtain ⟨n7, h7, b7⟩ := h 7 tu .i16 rfl hi16
  refine ⟨fun k => [n0, n1, n2, n3, n4, n5, n6, n7].getD k 0, ?_, ?_⟩
  · congr 1
    apply Array.ext_getElem?
    intro i
    match i with
    | 0 => rw [h0]; rfl
    | 1 => rw [h1]; rfl
    | 2 => rw [h2]; rfl
    | 3 => rw [h3]; rfl
    | 4 => rw [h4]; rfl
    | 5 => rw [h5]; rfl
    | 6 => rw [h6]; rfl
    | 7 => rw [h7]; rfl
    | i + 8 => rw [Array.getElem?_eq_none (by omega)]; rfl
  · intro k hk
    match k, hk with
    | 0, _ => exact ⟨b0.1, b0.2⟩
    | 1, _ => exact ⟨b1.1, b1.2⟩
    | 2, _ => exact ⟨b2.1, b2.2⟩
    | 3, _ => exact ⟨b3.1, b3.2⟩
    | 4, _ => exact ⟨b4.1, b4.2⟩
    | 5, _ => exact ⟨b5.1, b5.2⟩
    | 6, _ => exact ⟨b6.1, b6.2⟩
    | 7, _ => exact ⟨b7.1, b7.2⟩
theorem open_u16s_of {P : Program} {tu : TypeId} (hu16 : P.underlying tu = some (.int .u16)) {W : World} {r : Reach} {base : Nat} {t : TypeId} {v : Value} {d : TypeDesc} (hu : P.underlying t = some d) (hd : rowD d = true) (hC : P.cellsOf t = 4)
    (hts : P.cellTypes P.depth t = some (List.replicate 4 tu)) (hv : Value.okWide P W r base t v) :
    ∃ n0 n1 n2 n3 : Int, v = .agg #[.int .u16 n0, .int .u16 n1, .int .u16 n2, .int .u16 n3] ∧ (0 ≤ n0 ∧ n0 ≤ 65535) ∧ (0 ≤ n1 ∧ n1 ≤ 65535) ∧ (0 ≤ n2 ∧ n2 ≤ 65535) ∧ (0 ≤ n3 ∧ n3 ≤ 65535) := by
  obtain ⟨cs, rfl, hsz, h⟩ := open_row_of 4 hu hd hC (List.replicate 4 tu) rfl hts hv
  obtain ⟨n0, h0, b0⟩ := h 0 tu .u16 rfl hu16
  obtain ⟨n1, h1, b1⟩ := h 1 tu .u16 rfl hu16
  obtain ⟨n2, h2, b2⟩ := h 2 tu .u16 rfl hu16
  obtain ⟨n3, h3, b3⟩ := h 3 tu .u16 rfl hu16
  refine ⟨n0, n1, n2, n3, ?_, ⟨b0.1, b0.2⟩, ⟨b1.1, b1.2⟩, ⟨b2.1, b2.2⟩, ⟨b3.1, b3.2⟩⟩
  congr 1
  apply Array.ext_getElem?
  intro i
  match i with
  | 0 => rw [h0]; rfl
  | 1 => rw [h1]; rfl
  | 2 => rw [h2]; rfl
  | 3 => rw [h3]; rfl
  | i + 4 => rw [Array.getElem?_eq_none (by omega)]; rfl
end Go.Proofs.YtoipafnlcchmbaaGreatDoor
