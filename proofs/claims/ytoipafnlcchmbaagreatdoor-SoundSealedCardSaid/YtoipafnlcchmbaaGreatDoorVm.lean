/- Packets whose pieces are bytes, and a struct of bytes and three bytes, among the arguments. -/
import Derived.Test.YtoipafnlcchmbaaGreatDoorVk
namespace Go.Proofs.YtoipafnlcchmbaaGreatDoor
open Go.ChangeShapes Go.WideShapes Go.ChangeAt Go.RowKit

section
variable {H : Type} {enc : TypeId × Value → H}
theorem open_pkRowB {W : World} {sp : Nat → Bool} {fuel : Nat} {cs : List Value} {x : DataW H × List MemPlace} (h : DataW.trod enc Tryz.prog W 0 sp true fuel 97 cs = some x) :
    ∃ p : Pk, p.ps.length = 18 ∧ AllB p.ps ∧ ∀ j, j < 22 → cs[j]? = p.cells[j]? := by
  obtain ⟨p, hps, hl, hp⟩ := open_pkRow h
  refine ⟨p, hps, fun i hi => ?_, hp⟩
  obtain ⟨xs, n, _, _, _, hlen, hf⟩ := DataW.trod_struct Tryz.underlying97 h
  have hx5 : xs.length = 5 := hlen
  have e4 := hf 4 _ rfl
  rw [List.getElem?_eq_getElem (by omega)] at e4
  obtain ⟨ys, m, _, _, _, hyl, hg⟩ := DataW.trod_array Tryz.underlying95 e4
  have hi18 : i < 18 := by omega
  have g := hg i hi18
  rw [List.getElem?_eq_getElem (by omega)] at g
  obtain ⟨z, q, _, hwf⟩ := DataW.trod_int Tryz.underlying5 g
  change List.take (Tryz.prog.cellsOf 5) (List.drop (i * Tryz.prog.cellsOf 5) (List.take (Tryz.prog.cellsOf 95) (List.drop 4 cs))) = _ at q
  rw [cellsU8, cellsPiece, Nat.mul_one] at q
  have h1 := at_of_take q
  rw [List.getElem?_take, if_pos hi18, List.getElem?_drop, hp (4 + i) (by omega)] at h1
  unfold Pk.cells at h1
  rw [pkA_4 _ _ _ _ _ i (by omega)] at h1
  have h2 : p.ps.getD i 0 = z := by
    have := Option.some.inj h1
    injection this
  rw [h2]
  exact wf_u8 hwf
theorem open_pksAtB {W : World} {fuel : Nat} {cs : List Value} {x : DataW H × List MemPlace} (h : DataW.trod enc Tryz.prog W 0 (fun _ => true) true fuel 114 cs = some x) (hsz : ∀ el sp, x.1 = .slice el sp → (el.length + sp.length) * Tryz.prog.bytesOf 97 ≤ reachBytes) :
    ∃ A n c l, cs = [.slice A n c] ∧ PksAt W A n l ∧ (∀ i, i < n → AllB (l.getD i Pk.none).ps) ∧ n ≤ 140737488351232 := by
  rcases Go.Deep.open_slice Tryz.underlying114 h with ⟨hcs, _⟩ | ⟨a, len, cap, m, k, D, Pl, hcs, _, hl, hm, hmm, hx, hcell⟩
  · exact ⟨none, 0, 0, [], hcs, ⟨rfl, fun i hi => by omega, fun h => by omega⟩, fun i hi => by omega, by omega⟩
  · simp only [if_true] at hmm
    have hb := hsz _ _ (congrArg Prod.fst hx)
    rw [bytesPk] at hb
    simp only [List.length_map, List.length_range] at hb
    have hr : reachBytes = 140737488351232 := rfl
    have each : ∀ i, i < len → ∃ p : Pk, p.ps.length = 18 ∧ AllB p.ps ∧ ∀ j, j < 22 → W.cell? (a.add (i * 22 + j)) = p.cells[j]? := fun i hi => by
      obtain ⟨cs', h1, h2⟩ := hcell i (by omega)
      rw [cellsPk] at h1
      obtain ⟨_, _, hc⟩ := World.cells?_some h1
      obtain ⟨p, hps, hpb, hp⟩ := open_pkRowB h2
      refine ⟨p, hps, hpb, fun j hj => ?_⟩
      rw [← Go.Deep.add_add, hc j hj, hp j hj]
    haveI : Inhabited Pk := ⟨Pk.none⟩
    obtain ⟨q, hq⟩ := Go.Deep.choose_lt each
    have hget : ∀ i, i < len → ((List.range len).map q).getD i Pk.none = q i := fun i hi => by simp [List.getD_eq_getElem?_getD, hi]
    refine ⟨some a, len, cap, (List.range len).map q, hcs, ⟨by simp, fun i hi => by rw [hget i hi]; exact (hq i hi).1, fun h0 => ?_⟩, fun i hi => by rw [hget i hi]; exact (hq i hi).2.1, by omega⟩
    obtain ⟨b, off, spot⟩ := a
    have hspot : spot = none := by
      have h1 := (hq 0 h0).2.2 0 (by omega)
      rw [show (q 0).cells[0]? = some (.int .i64 (q 0).st) from rfl] at h1
      simpa [Addr.add] using World.cell?_spot h1
    subst hspot
    refine ⟨b, off, rfl, fun i hi j hj => ?_⟩
    have h1 := (hq i hi).2.2 j hj
    rw [add_plain, ← Nat.add_assoc] at h1
    rw [h1, hget i hi]
theorem open_u8Row {W : World} {fuel : Nat} {cs : List Value} {x : DataW H × List MemPlace} (h : DataW.trod enc Tryz.prog W 0 (fun _ => true) true fuel 106 cs = some x) :
    ∃ A n c zs, cs = [.slice A n c] ∧ BytesAt W A n zs ∧ AllB zs := by
  rcases open_ints Tryz.underlying106 Tryz.underlying5 cellsU8 h with ⟨hcs, _⟩ | ⟨a, len, cap, zs, hcs, _, hl, hm, hz, hx, hcell, hw⟩
  · exact ⟨none, 0, 0, [], hcs, ⟨rfl, fun i hi => by omega, fun h => by omega⟩, fun i hi => by simp at hi⟩
  · simp only [if_true] at hz
    have hle : (zs.take len).length = len := by rw [List.length_take]; omega
    have hab : AllB (zs.take len) := fun i hi => by
      have hmem : (zs.take len).getD i 0 ∈ zs.take len := by
        rw [List.getD_eq_getElem?_getD, List.getElem?_eq_getElem hi]
        exact List.getElem_mem hi
      exact wf_u8 (hw _ (List.mem_of_mem_take hmem))
    refine ⟨some a, len, cap, zs.take len, hcs, ⟨hle, fun i hi => hab i (by omega), fun h0 => ?_⟩, hab⟩
    obtain ⟨b, off, spot⟩ := a
    have hspot : spot = none := by simpa [Addr.add] using World.cell?_spot (hcell 0 (by omega))
    subst hspot
    refine ⟨b, off, rfl, fun i hi => ?_⟩
    have := hcell i (by omega)
    rw [add_plain] at this
    rw [this]
    simp [List.getD_eq_getElem?_getD, hi]
theorem cellsU8s : Tryz.prog.cellsOf 106 = 1 := by kernel_rfl
set_option maxRecDepth 100000 in
theorem open_noise {W : World} {v : Value} {d : DataW H} {ps : List MemPlace} {r : Reach} {base : Nat} (h : DataW.Trod enc Tryz.prog W 0 (fun _ => true) true 182 v d ps) (hv : Value.okWide Tryz.prog W r base 182 v) :
    ∃ A n c os b1 b2 b3, v = .agg #[.slice A n c, .int .u8 b1, .int .u8 b2, .int .u8 b3] ∧ BytesAt W A n os ∧ AllB os ∧ (0 ≤ b1 ∧ b1 ≤ 255) ∧ (0 ≤ b2 ∧ b2 ≤ 255) ∧ (0 ≤ b3 ∧ b3 ≤ 255) := by
  obtain ⟨cs, rfl, hs, _⟩ := open_row_of 4 Tryz.underlying182 rfl (by kernel_rfl) [106, 5, 5, 5] rfl (by kernel_rfl) hv
  obtain ⟨fuel, hn⟩ := h
  obtain ⟨xs, n, _, _, _, hlen, hf⟩ := DataW.trod_struct Tryz.underlying182 hn
  match xs, hlen with
  | [y0, y1, y2, y3], _ =>
    have t0 := hf 0 _ rfl
    have t1 := hf 1 _ rfl
    have t2 := hf 2 _ rfl
    have t3 := hf 3 _ rfl
    obtain ⟨A, n, c, os, hc, hp, hb⟩ := open_u8Row t0
    obtain ⟨b1, q1, _, w1⟩ := DataW.trod_int Tryz.underlying5 t1
    obtain ⟨b2, q2, _, w2⟩ := DataW.trod_int Tryz.underlying5 t2
    obtain ⟨b3, q3, _, w3⟩ := DataW.trod_int Tryz.underlying5 t3
    change List.take (Tryz.prog.cellsOf 106) (List.drop 0 cs.toList) = _ at hc
    rw [cellsU8s] at hc
    change List.take (Tryz.prog.cellsOf 5) (List.drop 1 cs.toList) = _ at q1
    rw [cellsU8] at q1
    change List.take (Tryz.prog.cellsOf 5) (List.drop 2 cs.toList) = _ at q2
    rw [cellsU8] at q2
    change List.take (Tryz.prog.cellsOf 5) (List.drop 3 cs.toList) = _ at q3
    rw [cellsU8] at q3
    have c0 := at_of_take hc
    have c1 := at_of_take q1
    have c2 := at_of_take q2
    have c3 := at_of_take q3
    refine ⟨A, n, c, os, b1, b2, b3, ?_, hp, hb, wf_u8 w1, wf_u8 w2, wf_u8 w3⟩
    congr 1
    apply Array.ext_getElem?
    intro i
    match i with
    | 0 => rw [← Array.getElem?_toList]; exact c0
    | 1 => rw [← Array.getElem?_toList]; exact c1
    | 2 => rw [← Array.getElem?_toList]; exact c2
    | 3 => rw [← Array.getElem?_toList]; exact c3
    | i + 4 => rw [Array.getElem?_eq_none (by omega)]; rfl
end
end Go.Proofs.YtoipafnlcchmbaaGreatDoor
