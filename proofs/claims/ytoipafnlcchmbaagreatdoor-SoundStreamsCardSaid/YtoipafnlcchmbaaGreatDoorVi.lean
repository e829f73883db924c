/- Arrays of bytes, and packets, opened among the arguments. -/
import Derived.Test.YtoipafnlcchmbaaGreatDoorVh
import Derived.Test.YtoipafnlcchmbaaGreatDoorQH
namespace Go.Proofs.YtoipafnlcchmbaaGreatDoor
open Go.ChangeShapes Go.WideShapes Go.ChangeAt Go.RowKit

theorem open_row_of {P : Program} {W : World} {r : Reach} {base : Nat} {t : TypeId} {v : Value} (n : Nat) {d : TypeDesc} (hu : P.underlying t = some d) (hd : rowD d = true) (hC : P.cellsOf t = n) (ts : List TypeId) (hn : ts.length = n)
    (hts : P.cellTypes P.depth t = some ts) (hv : Value.okWide P W r base t v) :
    ∃ cs, v = .agg cs ∧ cs.size = n ∧ ∀ (i : Nat) (u : TypeId) (k : IntKind), ts[i]? = some u → P.underlying u = some (.int k) → ∃ z : Int, cs[i]? = some (.int k z) ∧ k.has z := by
  have hcs : ∃ cs, v = .agg cs ∧ cs.size = P.cellsOf t ∧ Row.okWide P W r base t cs := by
    unfold Value.okWide at hv
    rw [hu] at hv
    cases d <;> first | exact hv | (simp [rowD] at hd)
  obtain ⟨cs, rfl, hsz, ts', h1, _, h2⟩ := hcs
  rw [hts] at h1
  cases h1
  rw [hC] at hsz
  refine ⟨cs, rfl, hsz, fun i u k hi hk => ?_⟩
  have hi0 : i < ts.length := by
    rcases Nat.lt_or_ge i ts.length with h | h
    · exact h
    · rw [List.getElem?_eq_none h] at hi; cases hi
  have hi' : i < cs.size := by omega
  obtain ⟨u', hu', hc⟩ := h2 i _ (Array.getElem?_eq_getElem hi')
  rw [Nat.mod_eq_of_lt hi0, hi] at hu'
  cases hu'
  have hw : Value.okWide P W r base u cs[i] := by
    unfold Value.okWide
    rw [hk]
    exact hc
  obtain ⟨z, hz⟩ := okWide_int hk hw
  refine ⟨z, by rw [Array.getElem?_eq_getElem hi', hz], ?_⟩
  rw [hz] at hc
  simp only [Cell.okWide, hk, Cell.ok] at hc
  exact hc.2

theorem open_bytes_of {P : Program} {tu : TypeId} (hbyte : P.underlying tu = some (.int .u8)) {W : World} {r : Reach} {base : Nat} {t : TypeId} {v : Value} (n : Nat) {d : TypeDesc} (hu : P.underlying t = some d) (hd : rowD d = true) (hC : P.cellsOf t = n)
    (hts : P.cellTypes P.depth t = some (List.replicate n tu)) (hv : Value.okWide P W r base t v) : ∃ zs : List Int, zs.length = n ∧ AllB zs ∧ v = .agg (bytesA zs) := by
  obtain ⟨cs, rfl, hsz, h⟩ := open_row_of n hu hd hC (List.replicate n tu) (List.length_replicate) hts hv
  have each : ∀ i, i < n → ∃ z : Int, cs[i]? = some (.int .u8 z) ∧ IntKind.u8.has z := fun i hi => h i tu .u8 (by rw [List.getElem?_replicate]; simp [hi]) hbyte
  obtain ⟨q, hq⟩ := Go.Deep.choose_lt each
  refine ⟨(List.range n).map q, by simp, fun i hi => ?_, ?_⟩
  · simp only [List.length_map, List.length_range] at hi
    have h1 := (hq i hi).2
    have h2 : ((List.range n).map q).getD i 0 = q i := by simp [List.getD_eq_getElem?_getD, hi]
    rw [h2]
    exact ⟨h1.1, h1.2⟩
  · congr 1
    apply Array.ext_getElem?
    intro i
    by_cases hi : i < n
    · rw [(hq i hi).1]; simp [bytesA, hi]
    · rw [Array.getElem?_eq_none (by omega)]; simp [bytesA, hi]

theorem open_packet_of {P : Program} {ti tu : TypeId} (hint : P.underlying ti = some (.int .i64)) (hbyte : P.underlying tu = some (.int .u8)) {W : World} {r : Reach} {base : Nat} {t : TypeId} {v : Value} {d : TypeDesc} (hu : P.underlying t = some d) (hd : rowD d = true) (hC : P.cellsOf t = 22)
    (hts : P.cellTypes P.depth t = some ([ti, ti, ti, ti] ++ List.replicate 18 tu)) (hv : Value.okWide P W r base t v) : ∃ p : Pk, p.ps.length = 18 ∧ AllB p.ps ∧ v = .agg p.cells := by
  obtain ⟨cs, rfl, hsz, h⟩ := open_row_of 22 hu hd hC ([ti, ti, ti, ti] ++ List.replicate 18 tu) (by simp) hts hv
  obtain ⟨a, ha, _⟩ := h 0 ti .i64 rfl hint
  obtain ⟨b, hb, _⟩ := h 1 ti .i64 rfl hint
  obtain ⟨c, hc, _⟩ := h 2 ti .i64 rfl hint
  obtain ⟨l, hl, _⟩ := h 3 ti .i64 rfl hint
  have each : ∀ i, i < 18 → ∃ z : Int, cs[4 + i]? = some (.int .u8 z) ∧ IntKind.u8.has z := fun i hi => h (4 + i) tu .u8 (by
    rw [List.getElem?_append_right (by simp), List.getElem?_replicate, if_pos (by simp; omega)]) hbyte
  obtain ⟨q, hq⟩ := Go.Deep.choose_lt each
  refine ⟨⟨a, b, c, l, (List.range 18).map q⟩, by simp, fun i hi => ?_, ?_⟩
  · simp only [List.length_map, List.length_range] at hi
    have h1 := (hq i hi).2
    have h2 : ((List.range 18).map q).getD i 0 = q i := by simp [List.getD_eq_getElem?_getD, hi]
    show 0 ≤ ((List.range 18).map q).getD i 0 ∧ ((List.range 18).map q).getD i 0 ≤ 255
    rw [h2]
    exact ⟨h1.1, h1.2⟩
  · congr 1
    apply Array.ext_getElem?
    intro i
    unfold Pk.cells pkA
    by_cases hi : i < 22
    · rcases i with _ | _ | _ | _ | j
      · rw [ha]; rfl
      · rw [hb]; rfl
      · rw [hc]; rfl
      · rw [hl]; rfl
      · have hj : j < 18 := by omega
        have := (hq j hj).1
        rw [Nat.add_comm] at this
        rw [this]
        simp [hj]
    · rw [Array.getElem?_eq_none (by omega)]
      rw [Array.getElem?_eq_none (by simp; omega)]
end Go.Proofs.YtoipafnlcchmbaaGreatDoor
