/- Slices of floats that fit their words, among the arguments. -/
import Derived.Test.YtoipafnlcchmbaaGreatDoorVl
namespace Go.Proofs.YtoipafnlcchmbaaGreatDoor
open Go.ChangeShapes Go.WideShapes Go.ChangeAt Go.RowKit

section
variable {H : Type} {enc : TypeId × Value → H}
theorem trod_floatW {P : Program} {W : World} {base : Nat} {sp : Nat → Bool} {held : Bool} {fuel : Nat} {t : TypeId} {k : FloatKind} {cs : List Value} {x : DataW H × List MemPlace} (ht : P.underlying t = some (.float k)) (h : DataW.trod enc P W base sp held fuel t cs = some x) : ∃ b, cs = [.float k b] ∧ (Lit.float k b).wf = true := by
  cases fuel with
  | zero => simp [DataW.trod] at h
  | succ n =>
    unfold DataW.trod at h
    rw [ht] at h
    split at h <;> simp_all
theorem trod_f32W {W : World} {sp : Nat → Bool} {fuel : Nat} {v : Value} {x : DataW H × List MemPlace} (h : DataW.trod enc Tryz.prog W 0 sp true fuel 37 [v] = some x) : ∃ b, v = .float .f32 b ∧ b < 4294967296 := by
  obtain ⟨b, hb, hw⟩ := trod_floatW Tryz.underlying37 h
  exact ⟨b, List.cons.inj hb |>.1, by simpa [Lit.wf] using hw⟩
theorem open_flAtW {W : World} {v : Value} {d : DataW H} {ps : List MemPlace} (h : DataW.Trod enc Tryz.prog W 0 (fun _ => true) true 38 v d ps) (hv : ∃ a l c, v = .slice a l c) (hsz : ∀ el sp, d = .slice el sp → (el.length + sp.length) * Tryz.prog.bytesOf 37 ≤ reachBytes) :
    ∃ A n c fs, v = .slice A n c ∧ FlAt W A n fs ∧ (∀ i, i < n → fs.getD i 0 < 4294967296) ∧ (A = none → c = 0) ∧ n ≤ c ∧ n ≤ 140737488351232 := by
  obtain ⟨fuel, hn⟩ := h
  rcases Go.Deep.open_slice1 Tryz.underlying38 cellsF32 hn with ⟨hcs, _⟩ | ⟨a, len, cap, m, k, V, D, Pl, hcs, _, hl, hm, hmm, hx, hcell⟩
  · obtain rfl := cells_slice hv hcs
    exact ⟨none, 0, 0, [], rfl, ⟨rfl, fun h => by omega⟩, fun i hi => by omega, fun _ => rfl, by omega, by omega⟩
  · obtain rfl := cells_slice hv hcs
    simp only [if_true] at hmm
    have hb := hsz _ _ (congrArg Prod.fst hx)
    rw [bytesF32] at hb
    simp only [List.length_map, List.length_range] at hb
    have hr : reachBytes = 140737488351232 := rfl
    have each : ∀ i, i < len → ∃ b : Nat, W.cell? (a.add i) = some (.float .f32 b) ∧ b < 4294967296 := fun i hi => by
      obtain ⟨h1, h2⟩ := hcell i (by omega)
      obtain ⟨b, hb, hw⟩ := trod_f32W h2
      exact ⟨b, by rw [h1, hb], hw⟩
    obtain ⟨q, hq⟩ := Go.Deep.choose_lt each
    have hget : ∀ i, i < len → ((List.range len).map q).getD i 0 = q i := fun i hi => by simp [List.getD_eq_getElem?_getD, hi]
    refine ⟨some a, len, cap, (List.range len).map q, rfl, ⟨by simp, fun h0 => ?_⟩, fun i hi => by rw [hget i hi]; exact (hq i hi).2, fun h => (by cases h), hl, by omega⟩
    obtain ⟨b, off, spot⟩ := a
    have hspot : spot = none := by simpa [Addr.add] using World.cell?_spot (hq 0 h0).1
    subst hspot
    refine ⟨b, off, rfl, fun i hi => ?_⟩
    have h1 := (hq i hi).1
    rw [add_plain] at h1
    rw [h1, hget i hi]
end
end Go.Proofs.YtoipafnlcchmbaaGreatDoor
