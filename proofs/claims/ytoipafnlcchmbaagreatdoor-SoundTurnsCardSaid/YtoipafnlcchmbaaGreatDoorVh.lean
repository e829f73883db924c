/- Arrays and structs of integers, opened among the arguments. -/
import Derived.Test.YtoipafnlcchmbaaGreatDoorVf
import Derived.Deep.Slices
import Derived.ChangeMaps5
namespace Go.Proofs.YtoipafnlcchmbaaGreatDoor
open Go.ChangeShapes Go.WideShapes Go.ChangeAt Go.RowKit

def rowD : TypeDesc → Bool
  | .struct _ => true
  | .array _ _ => true
  | _ => false
theorem open_flat_of {P : Program} {ti : TypeId} (hint : P.underlying ti = some (.int .i64)) {W : World} {r : Reach} {base : Nat} {t : TypeId} {v : Value} (n : Nat) {d : TypeDesc} (hu : P.underlying t = some d) (hd : rowD d = true) (hC : P.cellsOf t = n)
    (hts : P.cellTypes P.depth t = some (List.replicate n ti)) (hv : Value.okWide P W r base t v) : ∃ zs : List Int, zs.length = n ∧ v = .agg (zs.map (Value.int .i64)).toArray := by
  have hcs : ∃ cs, v = .agg cs ∧ cs.size = P.cellsOf t ∧ Row.okWide P W r base t cs := by
    unfold Value.okWide at hv
    rw [hu] at hv
    cases d <;> first | exact hv | (simp [rowD] at hd)
  obtain ⟨cs, rfl, hsz, ts, h1, _, h2⟩ := hcs
  rw [hts] at h1
  cases h1
  rw [hC] at hsz
  have each : ∀ i, i < n → ∃ z : Int, cs[i]? = some (.int .i64 z) := fun i hi => by
    have hi' : i < cs.size := by omega
    obtain ⟨u, hu, hc⟩ := h2 i _ (Array.getElem?_eq_getElem hi')
    rw [List.length_replicate, List.getElem?_replicate] at hu
    have hu' : u = ti := by
      split at hu
      · exact (Option.some.inj hu).symm
      · cases hu
    rw [hu'] at hc
    have hw : Value.okWide P W r base ti cs[i] := by
      unfold Value.okWide
      rw [hint]
      exact hc
    obtain ⟨z, hz⟩ := okWide_int hint hw
    exact ⟨z, by rw [Array.getElem?_eq_getElem hi', hz]⟩
  obtain ⟨q, hq⟩ := Go.Deep.choose_lt each
  refine ⟨(List.range n).map q, by simp, ?_⟩
  congr 1
  apply Array.ext_getElem?
  intro i
  by_cases hi : i < n
  · rw [hq i hi]; simp [hi]
  · rw [Array.getElem?_eq_none (by omega)]; simp [hi]
theorem list2 (l : List Int) (h : l.length = 2) : ∃ a b, l = [a, b] := by
  match l, h with
  | [a, b], _ => exact ⟨a, b, rfl⟩
theorem list4 (l : List Int) (h : l.length = 4) : ∃ a b c d, l = [a, b, c, d] := by
  match l, h with
  | [a, b, c, d], _ => exact ⟨a, b, c, d, rfl⟩
theorem list8 (l : List Int) (h : l.length = 8) : ∃ a b c d e f g i, l = [a, b, c, d, e, f, g, i] := by
  match l, h with
  | [a, b, c, d, e, f, g, i], _ => exact ⟨a, b, c, d, e, f, g, i, rfl⟩
end Go.Proofs.YtoipafnlcchmbaaGreatDoor
