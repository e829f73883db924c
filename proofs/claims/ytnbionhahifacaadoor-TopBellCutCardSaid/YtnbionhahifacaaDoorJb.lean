/- A type of the reference, a track, and a cut, opened among the arguments. -/
import Derived.Test.YtnbionhahifacaaDoorJa
import Derived.Test.YtnbionhahifacaaDoorQJ
import Derived.Deep.Slices
import Derived.Deep.Strs
import Derived.ChangeMaps5
import Derived.ChangeArms
import Derived.ChangeSame
import Derived.OpenShut
namespace Go.Proofs.YtnbionhahifacaaDoor
open Go.ChangeShapes Go.WideShapes Go.ChangeAt Go.RowKit

theorem at_of_take1 {cs : List Value} {k : Nat} {v : Value} (h : (cs.drop k).take 1 = [v]) : cs[k]? = some v := by
  have := congrArg (fun l => l[0]?) h
  simpa [List.getElem?_take, List.getElem?_drop] using this
theorem at_of_drop {cs : List Value} {k n j : Nat} {v : Value} (h : ((cs.drop k).take n)[j]? = some v) : cs[k + j]? = some v := by
  rw [List.getElem?_take] at h
  split at h
  · rwa [List.getElem?_drop] at h
  · cases h
section
variable {H : Type} {enc : TypeId × Value → H}
theorem cellsStr : Tryd.prog.cellsOf 9 = 1 := by kernel_rfl
theorem cellsInts : Tryd.prog.cellsOf 22 = 1 := by kernel_rfl
theorem cellsEight : Tryd.prog.cellsOf 23 = 8 := by kernel_rfl
theorem cellsSets : Tryd.prog.cellsOf 24 = 1 := by kernel_rfl
theorem cellsSet : Tryd.prog.cellsOf 83 = 2 := by kernel_rfl
theorem bytesSet : Tryd.prog.bytesOf 83 = 32 := by kernel_rfl
theorem cellsTy : Tryd.prog.cellsOf 26 = 13 := by kernel_rfl
theorem cellsFx : Tryd.prog.cellsOf 39 = 5 := by kernel_rfl
theorem bytesFx : Tryd.prog.bytesOf 39 = 40 := by kernel_rfl
theorem cellsVec : Tryd.prog.cellsOf 29 = 3 := by kernel_rfl

/-- A slice of integers among the cells. -/
theorem open_intsRow {W : World} {fuel : Nat} {cs : List Value} {x : DataW H × List MemPlace} (h : DataW.trod enc Tryd.prog W 0 (fun _ => true) true fuel 22 cs = some x) :
    ∃ A n c zs, cs = [.slice A n c] ∧ IntsAt W A n zs := by
  rcases open_ints Tryd.underlying22 Tryd.underlying3 cellsInt h with ⟨hcs, _⟩ | ⟨a, len, cap, zs, hcs, _, hl, hm, hz, hx, hcell, hw⟩
  · exact ⟨none, 0, 0, [], hcs, rfl, fun h => by omega⟩
  · simp only [if_true] at hz
    refine ⟨some a, len, cap, zs.take len, hcs, by rw [List.length_take]; omega, fun h0 => ?_⟩
    obtain ⟨b, off, spot⟩ := a
    have hspot : spot = none := by simpa [Addr.add] using World.cell?_spot (hcell 0 (by omega))
    subst hspot
    refine ⟨b, off, rfl, fun i hi => ?_⟩
    have := hcell i (by omega)
    rw [add_plain] at this
    rw [this]
    simp [List.getD_eq_getElem?_getD, hi]

theorem open_setRow {W : World} {fuel : Nat} {cs : List Value} {x : DataW H × List MemPlace} (h : DataW.trod enc Tryd.prog W 0 (fun _ => true) true fuel 83 cs = some x) :
    ∃ (p : Int) (A : Option Addr) (n c : Nat) (zs : List Int), cs[0]? = some (.int .i64 p) ∧ cs[1]? = some (.slice A n c) ∧ IntsAt W A n zs := by
  obtain ⟨y0, y1, n, _, _, t0, t1⟩ := trod_struct2 Tryd.underlying83 h
  obtain ⟨p, q0, _⟩ := DataW.trod_int Tryd.underlying3 t0
  obtain ⟨A, m, c, zs, q1, hz⟩ := open_intsRow t1
  change List.take (Tryd.prog.cellsOf 3) (List.drop 0 cs) = _ at q0
  rw [cellsInt] at q0
  change List.take (Tryd.prog.cellsOf 22) (List.drop 1 cs) = _ at q1
  rw [cellsInts] at q1
  exact ⟨p, A, m, c, zs, at_of_take1 q0, at_of_take1 q1, hz⟩

theorem open_setsRow {W : World} {fuel : Nat} {cs : List Value} {x : DataW H × List MemPlace} (h : DataW.trod enc Tryd.prog W 0 (fun _ => true) true fuel 24 cs = some x) (hsz : ∀ el sp, x.1 = .slice el sp → (el.length + sp.length) * Tryd.prog.bytesOf 83 ≤ reachBytes) :
    ∃ A n c s, cs = [.slice A n c] ∧ SetsO W A n s ∧ n ≤ 140737488351232 := by
  rcases Go.Deep.open_slice Tryd.underlying24 h with ⟨hcs, _⟩ | ⟨a, len, cap, m, k, D, Pl, hcs, _, hl, hm, hmm, hx, hcell⟩
  · exact ⟨none, 0, 0, [], hcs, ⟨rfl, fun h => by omega⟩, by omega⟩
  · simp only [if_true] at hmm
    have hb := hsz _ _ (congrArg Prod.fst hx)
    rw [bytesSet] at hb
    simp only [List.length_map, List.length_range] at hb
    have hr : reachBytes = 140737488351232 := rfl
    have each : ∀ i, i < len → ∃ s : Int × List Int, W.cell? (a.add (i * 2)) = some (.int .i64 s.1) ∧ ∃ A n c, W.cell? (a.add (i * 2 + 1)) = some (.slice A n c) ∧ IntsAt W A n s.2 := fun i hi => by
      obtain ⟨cs', h1, h2⟩ := hcell i (by omega)
      rw [cellsSet] at h1
      obtain ⟨_, _, hc⟩ := World.cells?_some h1
      obtain ⟨p, A, n, c, zs, e0, e1, hz⟩ := open_setRow h2
      refine ⟨(p, zs), ?_, A, n, c, ?_, hz⟩
      · have := hc 0 (by omega)
        rw [Go.Deep.add_add, Nat.add_zero] at this
        rw [this]; exact e0
      · have := hc 1 (by omega)
        rw [Go.Deep.add_add] at this
        rw [this]; exact e1
    haveI : Inhabited (Int × List Int) := ⟨(0, [])⟩
    obtain ⟨q, hq⟩ := Go.Deep.choose_lt each
    have hget : ∀ i, i < len → ((List.range len).map q).getD i (0, []) = q i := fun i hi => by simp [List.getD_eq_getElem?_getD, hi]
    refine ⟨some a, len, cap, (List.range len).map q, hcs, ⟨by simp, fun h0 => ?_⟩, by omega⟩
    obtain ⟨b, off, spot⟩ := a
    have hspot : spot = none := by simpa [Addr.add] using World.cell?_spot (hq 0 h0).1
    subst hspot
    refine ⟨b, off, rfl, by simp, fun i hi => ?_⟩
    obtain ⟨e0, A, n, c, e1, hz⟩ := hq i hi
    rw [add_plain] at e0 e1
    refine ⟨A, n, c, ?_, ?_, ?_⟩
    · unfold Bell.ePow; rw [e0, hget i hi]
    · rw [Nat.add_assoc, e1]
    · rw [hget i hi]; exact hz

/-- The cells of a type. -/
theorem open_tyRow {W : World} {fuel : Nat} {cs : List Value} {x : DataW H × List MemPlace} (h : DataW.trod enc Tryd.prog W 0 (fun _ => true) true fuel 26 cs = some x)
    (hsz : ∀ y0 y1 y2 y3 y4 el sp, x.1 = .agg [y0, y1, y2, y3, y4, .slice el sp] → (el.length + sp.length) * Tryd.prog.bytesOf 83 ≤ reachBytes) :
    ∃ nm sh T sa sn sc qa qn qc ga gn gc, cs = (tyV nm sa sn sc T qa qn qc ga gn gc).toList ∧ T.direct.length = 8 ∧ RTy W cs.toArray nm sh T sa sn sc qa qn qc ga gn gc ∧ gn ≤ 140737488351232 := by
  obtain ⟨xs, n, _, hx, hl, hlen, hf⟩ := DataW.trod_struct Tryd.underlying26 h
  rw [cellsTy] at hl
  have hx6 : xs.length = 6 := hlen
  have e0 := hf 0 _ rfl
  have e1 := hf 1 _ rfl
  have e2 := hf 2 _ rfl
  have e3 := hf 3 _ rfl
  have e4 := hf 4 _ rfl
  have e5 := hf 5 _ rfl
  obtain ⟨x0, x1, x2, x3, x4, x5, rfl⟩ : ∃ x0 x1 x2 x3 x4 x5, xs = [x0, x1, x2, x3, x4, x5] := by
    match xs, hx6 with
    | [x0, x1, x2, x3, x4, x5], _ => exact ⟨x0, x1, x2, x3, x4, x5, rfl⟩
  simp only [List.getElem?_cons_zero, List.getElem?_cons_succ] at e0 e1 e2 e3 e4 e5
  obtain ⟨nm, q0, _, _⟩ := DataW.trod_string Tryd.underlying9 e0
  obtain ⟨sa, sn, sc, sh, q1, hsh⟩ := open_intsRow e1
  obtain ⟨ys, m, _, _, _, hyl, hg⟩ := DataW.trod_array Tryd.underlying23 e2
  obtain ⟨side, q3, _⟩ := DataW.trod_int Tryd.underlying3 e3
  obtain ⟨qa, qn, qc, sq, q4, hsq⟩ := open_intsRow e4
  obtain ⟨ga, gn, gc, s, q5, hs, hgn⟩ := open_setsRow e5 (fun el sp he => hsz x0.1 x1.1 x2.1 x3.1 x4.1 el sp (by rw [hx]; simp [he]))
  have each : ∀ i, i < 8 → ∃ z : Int, cs[2 + i]? = some (.int .i64 z) := fun i hi => by
    have g := hg i hi
    rw [List.getElem?_eq_getElem (by omega)] at g
    obtain ⟨z, q, _⟩ := DataW.trod_int Tryd.underlying3 g
    change List.take (Tryd.prog.cellsOf 3) (List.drop (i * Tryd.prog.cellsOf 3) (List.take (Tryd.prog.cellsOf 23) (List.drop 2 cs))) = _ at q
    rw [cellsInt, cellsEight, Nat.mul_one] at q
    have := at_of_take1 q
    rw [List.getElem?_take, if_pos hi, List.getElem?_drop] at this
    exact ⟨z, this⟩
  obtain ⟨d, hd⟩ := Go.Deep.choose_lt each
  change List.take (Tryd.prog.cellsOf 9) (List.drop 0 cs) = _ at q0
  rw [cellsStr] at q0
  change List.take (Tryd.prog.cellsOf 22) (List.drop 1 cs) = _ at q1
  rw [cellsInts] at q1
  change List.take (Tryd.prog.cellsOf 3) (List.drop 10 cs) = _ at q3
  rw [cellsInt] at q3
  change List.take (Tryd.prog.cellsOf 22) (List.drop 11 cs) = _ at q4
  rw [cellsInts] at q4
  change List.take (Tryd.prog.cellsOf 24) (List.drop 12 cs) = _ at q5
  rw [cellsSets] at q5
  have hcs : cs = (tyV nm sa sn sc ⟨[d 0, d 1, d 2, d 3, d 4, d 5, d 6, d 7], side, sq, s⟩ qa qn qc ga gn gc).toList := by
    apply List.ext_getElem?
    intro i
    match i with
    | 0 => exact at_of_take1 q0
    | 1 => exact at_of_take1 q1
    | 2 => exact hd 0 (by omega)
    | 3 => exact hd 1 (by omega)
    | 4 => exact hd 2 (by omega)
    | 5 => exact hd 3 (by omega)
    | 6 => exact hd 4 (by omega)
    | 7 => exact hd 5 (by omega)
    | 8 => exact hd 6 (by omega)
    | 9 => exact hd 7 (by omega)
    | 10 => exact at_of_take1 q3
    | 11 => exact at_of_take1 q4
    | 12 => exact at_of_take1 q5
    | i + 13 => rw [List.getElem?_eq_none (by omega)]; rfl
  exact ⟨nm, sh, ⟨[d 0, d 1, d 2, d 3, d 4, d 5, d 6, d 7], side, sq, s⟩, sa, sn, sc, qa, qn, qc, ga, gn, gc, hcs, rfl, ⟨by rw [hcs], hsh, hsq, hs⟩, hgn⟩

theorem open_fxRow {W : World} {fuel : Nat} {cs : List Value} {x : DataW H × List MemPlace} (h : DataW.trod enc Tryd.prog W 0 (fun _ => true) true fuel 39 cs = some x) :
    ∃ P : Bell.Fx, cs[0]? = some (.int .i64 P.t) ∧ cs[1]? = some (.int .i64 P.x) ∧ cs[2]? = some (.int .i64 P.y) ∧ cs[3]? = some (.int .i64 P.z) ∧ cs[4]? = some (.int .i64 P.p) := by
  obtain ⟨y0, y1, y2, n, _, _, t0, t1, t2⟩ := Go.Deep.trod_struct3 Tryd.underlying39 h
  obtain ⟨t, q0, _⟩ := DataW.trod_int Tryd.underlying3 t0
  obtain ⟨p, q4, _⟩ := DataW.trod_int Tryd.underlying3 t2
  obtain ⟨u0, u1, u2, n2, _, _, v0, v1, v2⟩ := Go.Deep.trod_struct3 Tryd.underlying29 t1
  obtain ⟨a, r0, _⟩ := DataW.trod_int Tryd.underlying3 v0
  obtain ⟨b, r1, _⟩ := DataW.trod_int Tryd.underlying3 v1
  obtain ⟨c, r2, _⟩ := DataW.trod_int Tryd.underlying3 v2
  change List.take (Tryd.prog.cellsOf 3) (List.drop 0 cs) = _ at q0
  change List.take (Tryd.prog.cellsOf 3) (List.drop 4 cs) = _ at q4
  change List.take (Tryd.prog.cellsOf 3) (List.drop 0 (List.take (Tryd.prog.cellsOf 29) (List.drop 1 cs))) = _ at r0
  change List.take (Tryd.prog.cellsOf 3) (List.drop 1 (List.take (Tryd.prog.cellsOf 29) (List.drop 1 cs))) = _ at r1
  change List.take (Tryd.prog.cellsOf 3) (List.drop 2 (List.take (Tryd.prog.cellsOf 29) (List.drop 1 cs))) = _ at r2
  rw [cellsInt] at q0 q4 r0 r1 r2
  exact ⟨⟨t, a, b, c, p⟩, at_of_take1 q0, at_of_drop (k := 1) (j := 0) (at_of_take1 r0), at_of_drop (k := 1) (j := 1) (at_of_take1 r1), at_of_drop (k := 1) (j := 2) (at_of_take1 r2), at_of_take1 q4⟩

theorem open_track {W : World} {v : Value} {d : DataW H} {ps : List MemPlace} (h : DataW.Trod enc Tryd.prog W 0 (fun _ => true) true 27 v d ps) (hv : ∃ a l c, v = .slice a l c) :
    ∃ A n c l, v = .slice A n c ∧ TrAt W A n l := by
  obtain ⟨fuel, hn⟩ := h
  rcases Go.Deep.open_slice Tryd.underlying27 hn with ⟨hcs, _⟩ | ⟨a, len, cap, m, k, D, Pl, hcs, _, hl, hm, hmm, hx, hcell⟩
  · obtain rfl := cells_slice hv hcs
    exact ⟨none, 0, 0, [], rfl, rfl, fun h => by omega⟩
  · obtain rfl := cells_slice hv hcs
    simp only [if_true] at hmm
    have each : ∀ i, i < len → ∃ P : Bell.Fx, W.cell? (a.add (i * 5)) = some (.int .i64 P.t) ∧ W.cell? (a.add (i * 5 + 1)) = some (.int .i64 P.x) ∧ W.cell? (a.add (i * 5 + 2)) = some (.int .i64 P.y) ∧ W.cell? (a.add (i * 5 + 3)) = some (.int .i64 P.z) ∧ W.cell? (a.add (i * 5 + 4)) = some (.int .i64 P.p) := fun i hi => by
      obtain ⟨cs', h1, h2⟩ := hcell i (by omega)
      rw [cellsFx] at h1
      obtain ⟨_, _, hc⟩ := World.cells?_some h1
      obtain ⟨P, e0, e1, e2, e3, e4⟩ := open_fxRow h2
      refine ⟨P, ?_, ?_, ?_, ?_, ?_⟩
      · have := hc 0 (by omega); rw [Go.Deep.add_add, Nat.add_zero] at this; rw [this]; exact e0
      · have := hc 1 (by omega); rw [Go.Deep.add_add] at this; rw [this]; exact e1
      · have := hc 2 (by omega); rw [Go.Deep.add_add] at this; rw [this]; exact e2
      · have := hc 3 (by omega); rw [Go.Deep.add_add] at this; rw [this]; exact e3
      · have := hc 4 (by omega); rw [Go.Deep.add_add] at this; rw [this]; exact e4
    haveI : Inhabited Bell.Fx := ⟨⟨0, 0, 0, 0, 0⟩⟩
    obtain ⟨q, hq⟩ := Go.Deep.choose_lt each
    have hget : ∀ i, i < len → Bell.fxAt ((List.range len).map q) i = q i := fun i hi => by simp [Bell.fxAt, List.getD_eq_getElem?_getD, hi]
    refine ⟨some a, len, cap, (List.range len).map q, rfl, by simp, fun h0 => ?_⟩
    obtain ⟨b, off, spot⟩ := a
    have hspot : spot = none := by simpa [Addr.add] using World.cell?_spot (hq 0 h0).1
    subst hspot
    refine ⟨b, off, rfl, by simp, fun i hi => ?_⟩
    obtain ⟨e0, e1, e2, e3, e4⟩ := hq i hi
    rw [add_plain] at e0 e1 e2 e3 e4
    unfold FixAt
    rw [hget i hi]
    exact ⟨e0, by rw [Nat.add_assoc]; exact e1, by rw [Nat.add_assoc]; exact e2, by rw [Nat.add_assoc]; exact e3, by rw [Nat.add_assoc]; exact e4⟩
end
end Go.Proofs.YtnbionhahifacaaDoor
