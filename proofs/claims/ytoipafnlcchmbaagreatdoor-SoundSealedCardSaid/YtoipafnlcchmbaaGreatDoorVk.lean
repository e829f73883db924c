/- Slices of bytes and of packets, and a struct of packets and a station, among the arguments. -/
import Derived.Test.YtoipafnlcchmbaaGreatDoorVi
import Derived.Test.YtoipafnlcchmbaaGreatDoorS11
import Derived.OpenShut
namespace Go.Proofs.YtoipafnlcchmbaaGreatDoor
open Go.ChangeShapes Go.WideShapes Go.ChangeAt Go.RowKit

theorem at_of_take {cs : List Value} {k : Nat} {v : Value} (h : (cs.drop k).take 1 = [v]) : cs[k]? = some v := by
  have := congrArg (fun l => l[0]?) h
  simpa [List.getElem?_take, List.getElem?_drop] using this
section
variable {H : Type} {enc : TypeId × Value → H}
theorem cellsU8 : Tryz.prog.cellsOf 5 = 1 := by kernel_rfl
theorem bytesU8 : Tryz.prog.bytesOf 5 = 1 := by kernel_rfl
theorem cellsPk : Tryz.prog.cellsOf 97 = 22 := by kernel_rfl
theorem bytesPk : Tryz.prog.bytesOf 97 = 56 := by kernel_rfl
theorem cellsPiece : Tryz.prog.cellsOf 95 = 18 := by kernel_rfl
theorem cellsPks : Tryz.prog.cellsOf 114 = 1 := by kernel_rfl
theorem wf_u8 {z : Int} (h : (Lit.int .u8 z).wf = true) : 0 ≤ z ∧ z ≤ 255 := by
  simp only [Lit.wf, Bool.and_eq_true, decide_eq_true_eq] at h
  exact ⟨h.1, h.2⟩
theorem open_u8At {W : World} {v : Value} {d : DataW H} {ps : List MemPlace} (h : DataW.Trod enc Tryz.prog W 0 (fun _ => true) true 106 v d ps) (hv : ∃ a l c, v = .slice a l c) (hsz : ∀ el sp, d = .slice el sp → (el.length + sp.length) * Tryz.prog.bytesOf 5 ≤ reachBytes) :
    ∃ A n c zs, v = .slice A n c ∧ BytesAt W A n zs ∧ AllB zs ∧ (A = none → c = 0) ∧ n ≤ c ∧ n ≤ 140737488351232 := by
  obtain ⟨fuel, hn⟩ := h
  rcases open_ints Tryz.underlying106 Tryz.underlying5 cellsU8 hn with ⟨hcs, _⟩ | ⟨a, len, cap, zs, hcs, _, hl, hm, hz, hx, hcell, hw⟩
  · obtain rfl := cells_slice hv hcs
    exact ⟨none, 0, 0, [], rfl, ⟨rfl, fun i hi => by omega, fun h => by omega⟩, fun i hi => by simp at hi, fun _ => rfl, by omega, by omega⟩
  · obtain rfl := cells_slice hv hcs
    simp only [if_true] at hz
    have hd : d = .slice (lits .u8 (zs.take len)) (lits .u8 (zs.drop len)) := congrArg Prod.fst hx
    have hb := hsz _ _ hd
    rw [bytesU8] at hb
    have h1 : (lits (H := H) .u8 (zs.take len)).length = len := by simp [lits]; omega
    rw [h1] at hb
    have hr : reachBytes = 140737488351232 := rfl
    have hle : (zs.take len).length = len := by rw [List.length_take]; omega
    have hab : AllB (zs.take len) := fun i hi => by
      have hmem : (zs.take len).getD i 0 ∈ zs.take len := by
        rw [List.getD_eq_getElem?_getD, List.getElem?_eq_getElem hi]
        exact List.getElem_mem hi
      exact wf_u8 (hw _ (List.mem_of_mem_take hmem))
    refine ⟨some a, len, cap, zs.take len, rfl, ⟨hle, fun i hi => hab i (by omega), fun h0 => ?_⟩, hab, fun h => (by cases h), hl, by omega⟩
    obtain ⟨b, off, spot⟩ := a
    have hspot : spot = none := by simpa [Addr.add] using World.cell?_spot (hcell 0 (by omega))
    subst hspot
    refine ⟨b, off, rfl, fun i hi => ?_⟩
    have := hcell i (by omega)
    rw [add_plain] at this
    rw [this]
    simp [List.getD_eq_getElem?_getD, hi]
theorem open_pkRow {W : World} {sp : Nat → Bool} {fuel : Nat} {cs : List Value} {x : DataW H × List MemPlace} (h : DataW.trod enc Tryz.prog W 0 sp true fuel 97 cs = some x) :
    ∃ p : Pk, p.ps.length = 18 ∧ cs.length = 22 ∧ ∀ j, j < 22 → cs[j]? = p.cells[j]? := by
  obtain ⟨xs, n, _, _, hl, hlen, hf⟩ := DataW.trod_struct Tryz.underlying97 h
  rw [cellsPk] at hl
  have hx5 : xs.length = 5 := hlen
  have e0 := hf 0 _ rfl
  have e1 := hf 1 _ rfl
  have e2 := hf 2 _ rfl
  have e3 := hf 3 _ rfl
  have e4 := hf 4 _ rfl
  rw [List.getElem?_eq_getElem (by omega)] at e0 e1 e2 e3 e4
  obtain ⟨z0, q0, _⟩ := DataW.trod_int Tryz.underlying3 e0
  obtain ⟨z1, q1, _⟩ := DataW.trod_int Tryz.underlying3 e1
  obtain ⟨z2, q2, _⟩ := DataW.trod_int Tryz.underlying3 e2
  obtain ⟨z3, q3, _⟩ := DataW.trod_int Tryz.underlying3 e3
  change List.take (Tryz.prog.cellsOf 3) (List.drop 0 cs) = _ at q0
  rw [cellsInt] at q0
  change List.take (Tryz.prog.cellsOf 3) (List.drop 1 cs) = _ at q1
  rw [cellsInt] at q1
  change List.take (Tryz.prog.cellsOf 3) (List.drop 2 cs) = _ at q2
  rw [cellsInt] at q2
  change List.take (Tryz.prog.cellsOf 3) (List.drop 3 cs) = _ at q3
  rw [cellsInt] at q3
  obtain ⟨ys, m, _, _, _, hyl, hg⟩ := DataW.trod_array Tryz.underlying95 e4
  have each : ∀ i, i < 18 → ∃ z : Int, cs[4 + i]? = some (.int .u8 z) := fun i hi => by
    have g := hg i hi
    rw [List.getElem?_eq_getElem (by omega)] at g
    obtain ⟨z, q, _⟩ := DataW.trod_int Tryz.underlying5 g
    change List.take (Tryz.prog.cellsOf 5) (List.drop (i * Tryz.prog.cellsOf 5) (List.take (Tryz.prog.cellsOf 95) (List.drop 4 cs))) = _ at q
    rw [cellsU8, cellsPiece, Nat.mul_one] at q
    have := at_of_take q
    rw [List.getElem?_take, if_pos hi, List.getElem?_drop] at this
    exact ⟨z, this⟩
  obtain ⟨q, hq⟩ := Go.Deep.choose_lt each
  refine ⟨⟨z0, z1, z2, z3, (List.range 18).map q⟩, by simp, hl, fun j hj => ?_⟩
  unfold Pk.cells pkA
  rcases j with _ | _ | _ | _ | j
  · rw [at_of_take q0]; rfl
  · rw [at_of_take q1]; rfl
  · rw [at_of_take q2]; rfl
  · rw [at_of_take q3]; rfl
  · have hj' : j < 18 := by omega
    have := hq j hj'
    rw [Nat.add_comm] at this
    rw [this]
    simp [hj']
theorem open_pksAt {W : World} {fuel : Nat} {cs : List Value} {x : DataW H × List MemPlace} (h : DataW.trod enc Tryz.prog W 0 (fun _ => true) true fuel 114 cs = some x) (hsz : ∀ el sp, x.1 = .slice el sp → (el.length + sp.length) * Tryz.prog.bytesOf 97 ≤ reachBytes) :
    ∃ A n c l, cs = [.slice A n c] ∧ PksAt W A n l ∧ n ≤ 140737488351232 := by
  rcases Go.Deep.open_slice Tryz.underlying114 h with ⟨hcs, _⟩ | ⟨a, len, cap, m, k, D, Pl, hcs, _, hl, hm, hmm, hx, hcell⟩
  · exact ⟨none, 0, 0, [], hcs, ⟨rfl, fun i hi => by omega, fun h => by omega⟩, by omega⟩
  · simp only [if_true] at hmm
    have hb := hsz _ _ (congrArg Prod.fst hx)
    rw [bytesPk] at hb
    simp only [List.length_map, List.length_range] at hb
    have hr : reachBytes = 140737488351232 := rfl
    have each : ∀ i, i < len → ∃ p : Pk, p.ps.length = 18 ∧ ∀ j, j < 22 → W.cell? (a.add (i * 22 + j)) = p.cells[j]? := fun i hi => by
      obtain ⟨cs', h1, h2⟩ := hcell i (by omega)
      rw [cellsPk] at h1
      obtain ⟨_, _, hc⟩ := World.cells?_some h1
      obtain ⟨p, hps, _, hp⟩ := open_pkRow h2
      refine ⟨p, hps, fun j hj => ?_⟩
      rw [← Go.Deep.add_add, hc j hj, hp j hj]
    haveI : Inhabited Pk := ⟨Pk.none⟩
    obtain ⟨q, hq⟩ := Go.Deep.choose_lt each
    have hget : ∀ i, i < len → ((List.range len).map q).getD i Pk.none = q i := fun i hi => by simp [List.getD_eq_getElem?_getD, hi]
    refine ⟨some a, len, cap, (List.range len).map q, hcs, ⟨by simp, fun i hi => by rw [hget i hi]; exact (hq i hi).1, fun h0 => ?_⟩, by omega⟩
    obtain ⟨b, off, spot⟩ := a
    have hspot : spot = none := by
      have h1 := (hq 0 h0).2 0 (by omega)
      rw [show (q 0).cells[0]? = some (.int .i64 (q 0).st) from rfl] at h1
      simpa [Addr.add] using World.cell?_spot h1
    subst hspot
    refine ⟨b, off, rfl, fun i hi j hj => ?_⟩
    have h1 := (hq i hi).2 j hj
    rw [add_plain, ← Nat.add_assoc] at h1
    rw [h1, hget i hi]
set_option maxRecDepth 100000 in
theorem open_loses {W : World} {v : Value} {d : DataW H} {ps : List MemPlace} {r : Reach} {base : Nat} (h : DataW.Trod enc Tryz.prog W 0 (fun _ => true) true 116 v d ps) (hv : Value.okWide Tryz.prog W r base 116 v)
    (hsz : ∀ el sp y, d = .agg [.slice el sp, y] → (el.length + sp.length) * Tryz.prog.bytesOf 97 ≤ reachBytes) :
    ∃ B m c l st, v = .agg #[.slice B m c, .int .i64 st] ∧ PksAt W B m l ∧ m ≤ 140737488351232 := by
  obtain ⟨cs, rfl, hs, _⟩ := open_row_of 2 Tryz.underlying116 rfl (by kernel_rfl) [114, 3] rfl (by kernel_rfl) hv
  obtain ⟨fuel, hn⟩ := h
  obtain ⟨y0, y1, n, hx, _, t0, t1⟩ := trod_struct2 Tryz.underlying116 hn
  obtain ⟨B, m, c, l, hc, hp, hm⟩ := open_pksAt t0 (fun el sp e => hsz el sp y1.1 (by rw [← e]; exact congrArg Prod.fst hx))
  obtain ⟨st, q1, _⟩ := DataW.trod_int Tryz.underlying3 t1
  change List.take (Tryz.prog.cellsOf 114) (List.drop 0 cs.toList) = _ at hc
  rw [cellsPks] at hc
  change List.take (Tryz.prog.cellsOf 3) (List.drop 1 cs.toList) = _ at q1
  rw [cellsInt] at q1
  have c0 := at_of_take hc
  have c1 := at_of_take q1
  refine ⟨B, m, c, l, st, ?_, hp, hm⟩
  congr 1
  apply Array.ext_getElem?
  intro i
  match i with
  | 0 => rw [← Array.getElem?_toList]; exact c0
  | 1 => rw [← Array.getElem?_toList]; exact c1
  | i + 2 => rw [Array.getElem?_eq_none (by omega)]; rfl
theorem sized_loses {ts : List TypeId} {ds : List (DataW H)} (h : (DataW.weightsEach Tryz.prog ts ds).all (· ≤ reachBytes) = true) {j : Nat} {el sp : List (DataW H)} {y : DataW H} (ht : ts[j]? = some 116) (hd : ds[j]? = some (.agg [.slice el sp, y])) :
    (el.length + sp.length) * Tryz.prog.bytesOf 97 ≤ reachBytes := by
  have := List.all_eq_true.1 h _ (DataW.weights_mem_each ht hd ((el.length + sp.length) * Tryz.prog.bytesOf 97) (by simp [DataW.weights, DataW.weightsEach, Tryz.underlying116, Tryz.underlying114]))
  simpa using this
end
end Go.Proofs.YtoipafnlcchmbaaGreatDoor
