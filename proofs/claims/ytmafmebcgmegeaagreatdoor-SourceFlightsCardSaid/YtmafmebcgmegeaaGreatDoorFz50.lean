/- Texts Qi Fk Jc Je of the proof. -/
import Derived.Deep.Slices
import Derived.Deep.Strs
import Derived.ChangeMaps5
import Derived.ChangeArms
import Derived.ChangeSame
import Derived.OpenShut
import Derived.Test.YtmafmebcgmegeaaGreatDoorFz49
import Derived.Test.YtmafmebcgmegeaaGreatDoorFz16
import Derived.Test.YtmafmebcgmegeaaGreatDoorFz10
namespace Go.Proofs.YtmafmebcgmegeaaGreatDoor
open Go.ChangeShapes Go.WideShapes Go.ChangeAt Go.RowKit
theorem at_of_take1 {cs : List Value} {k : Nat} {v : Value} (h : (cs.drop k).take 1 = [v]) : cs[k]? = some v := by
  have := congrArg (fun l => l[0]?) h
  simpa [List.getElem?_take, List.getElem?_drop] using this
theorem at_of_drop {cs : List Value} {k n j : Nat} {v : Value} (h : ((cs.drop k).take n)[j]? = some v) : cs[k + j]? = some v := by
  rw [List.getElem?_take] at h
  split at h
  · rwa [List.getElem?_drop] at h
  · cases h
section
variable {H : Type} {enc : TypeId × Value → H}
theorem cellsStr : Tryz.prog.cellsOf 9 = 1 := by kernel_rfl
theorem cellsInts : Tryz.prog.cellsOf 22 = 1 := by kernel_rfl
theorem cellsEight : Tryz.prog.cellsOf 23 = 8 := by kernel_rfl
theorem cellsSets : Tryz.prog.cellsOf 24 = 1 := by kernel_rfl
theorem cellsSet : Tryz.prog.cellsOf 145 = 2 := by kernel_rfl
theorem bytesSet : Tryz.prog.bytesOf 145 = 32 := by kernel_rfl
theorem cellsTy : Tryz.prog.cellsOf 26 = 13 := by kernel_rfl
theorem cellsFx : Tryz.prog.cellsOf 140 = 5 := by kernel_rfl
theorem open_intsRow {W : World} {fuel : Nat} {cs : List Value} {x : DataW H × List MemPlace} (h : DataW.trod enc Tryz.prog W 0 (fun _ => true) true fuel 22 cs = some x) :
    ∃ A n c zs, cs = [.slice A n c] ∧ IntsAt W A n zs := by
  rcases open_ints Tryz.underlying22 Tryz.underlying3 cellsInt h with ⟨hcs, _⟩ | ⟨a, len, cap, zs, hcs, _, hl, hm, hz, hx, hcell, hw⟩
  · exact ⟨none, 0, 0, [], hcs, rfl, fun h => by omega⟩
  · simp only [if_true] at hz; refine ⟨some a, len, cap, zs.take len, hcs, by rw [List.length_take]; omega, fun h0 => ?_⟩; obtain ⟨b, off, spot⟩ := a; have hspot : spot = none := by simpa [Addr.add] using World.cell?_spot (hcell 0 (by omega))
    subst hspot; refine ⟨b, off, rfl, fun i hi => ?_⟩; have := hcell i (by omega); rw [add_plain] at this; rw [this]
    simp [List.getD_eq_getElem?_getD, hi]
theorem open_setRow {W : World} {fuel : Nat} {cs : List Value} {x : DataW H × List MemPlace} (h : DataW.trod enc Tryz.prog W 0 (fun _ => true) true fuel 145 cs = some x) :
    ∃ (p : Int) (A : Option Addr) (n c : Nat) (zs : List Int), cs[0]? = some (.int .i64 p) ∧ cs[1]? = some (.slice A n c) ∧ IntsAt W A n zs := by
  obtain ⟨y0, y1, n, _, _, t0, t1⟩ := trod_struct2 Tryz.underlying145 h; obtain ⟨p, q0, _⟩ := DataW.trod_int Tryz.underlying3 t0; obtain ⟨A, m, c, zs, q1, hz⟩ := open_intsRow t1
  change List.take (Tryz.prog.cellsOf 3) (List.drop 0 cs) = _ at q0
  rw [cellsInt] at q0
  change List.take (Tryz.prog.cellsOf 22) (List.drop 1 cs) = _ at q1
  rw [cellsInts] at q1; exact ⟨p, A, m, c, zs, at_of_take1 q0, at_of_take1 q1, hz⟩
theorem open_setsRow {W : World} {fuel : Nat} {cs : List Value} {x : DataW H × List MemPlace} (h : DataW.trod enc Tryz.prog W 0 (fun _ => true) true fuel 24 cs = some x) (hsz : ∀ el sp, x.1 = .slice el sp → (el.length + sp.length) * Tryz.prog.bytesOf 145 ≤ reachBytes) :
    ∃ A n c s, cs = [.slice A n c] ∧ SetsO W A n s ∧ n ≤ 140737488351232 := by
  rcases Go.Deep.open_slice Tryz.underlying24 h with ⟨hcs, _⟩ | ⟨a, len, cap, m, k, D, Pl, hcs, _, hl, hm, hmm, hx, hcell⟩
  · exact ⟨none, 0, 0, [], hcs, ⟨rfl, fun h => by omega⟩, by omega⟩
  · simp only [if_true] at hmm; have hb := hsz _ _ (congrArg Prod.fst hx); rw [bytesSet] at hb; simp only [List.length_map, List.length_range] at hb; have hr : reachBytes = 140737488351232 := rfl
    have each : ∀ i, i < len → ∃ s : Int × List Int, W.cell? (a.add (i * 2)) = some (.int .i64 s.1) ∧ ∃ A n c, W.cell? (a.add (i * 2 + 1)) = some (.slice A n c) ∧ IntsAt W A n s.2 := fun i hi => by
      obtain ⟨cs', h1, h2⟩ := hcell i (by omega); rw [cellsSet] at h1; obtain ⟨_, _, hc⟩ := World.cells?_some h1; obtain ⟨p, A, n, c, zs, e0, e1, hz⟩ := open_setRow h2; refine ⟨(p, zs), ?_, A, n, c, ?_, hz⟩
      · have := hc 0 (by omega); rw [Go.Deep.add_add, Nat.add_zero] at this; rw [this]; exact e0
      · have := hc 1 (by omega); rw [Go.Deep.add_add] at this; rw [this]; exact e1
    haveI : Inhabited (Int × List Int) := ⟨(0, [])⟩
    obtain ⟨q, hq⟩ := Go.Deep.choose_lt each; have hget : ∀ i, i < len → ((List.range len).map q).getD i (0, []) = q i := fun i hi => by simp [List.getD_eq_getElem?_getD, hi]
    refine ⟨some a, len, cap, (List.range len).map q, hcs, ⟨by simp, fun h0 => ?_⟩, by omega⟩; obtain ⟨b, off, spot⟩ := a; have hspot : spot = none := by simpa [Addr.add] using World.cell?_spot (hq 0 h0).1
    subst hspot; refine ⟨b, off, rfl, by simp, fun i hi => ?_⟩; obtain ⟨e0, A, n, c, e1, hz⟩ := hq i hi; rw [add_plain] at e0 e1; refine ⟨A, n, c, ?_, ?_, ?_⟩
    · unfold Bell.ePow; rw [e0, hget i hi]
    · rw [Nat.add_assoc, e1]
    · rw [hget i hi]; exact hz
theorem open_tyRow {W : World} {fuel : Nat} {cs : List Value} {x : DataW H × List MemPlace} (h : DataW.trod enc Tryz.prog W 0 (fun _ => true) true fuel 26 cs = some x)
    (hsz : ∀ y0 y1 y2 y3 y4 el sp, x.1 = .agg [y0, y1, y2, y3, y4, .slice el sp] → (el.length + sp.length) * Tryz.prog.bytesOf 145 ≤ reachBytes) :
    ∃ nm sh T sa sn sc qa qn qc ga gn gc, cs = (tyV nm sa sn sc T qa qn qc ga gn gc).toList ∧ T.direct.length = 8 ∧ RTy W cs.toArray nm sh T sa sn sc qa qn qc ga gn gc ∧ gn ≤ 140737488351232 := by
  obtain ⟨xs, n, _, hx, hl, hlen, hf⟩ := DataW.trod_struct Tryz.underlying26 h; rw [cellsTy] at hl; have hx6 : xs.length = 6 := hlen; have e0 := hf 0 _ rfl; have e1 := hf 1 _ rfl; have e2 := hf 2 _ rfl; have e3 := hf 3 _ rfl; have e4 := hf 4 _ rfl; have e5 := hf 5 _ rfl
  obtain ⟨x0, x1, x2, x3, x4, x5, rfl⟩ : ∃ x0 x1 x2 x3 x4 x5, xs = [x0, x1, x2, x3, x4, x5] := by
    match xs, hx6 with
    | [x0, x1, x2, x3, x4, x5], _ => exact ⟨x0, x1, x2, x3, x4, x5, rfl⟩
  simp only [List.getElem?_cons_zero, List.getElem?_cons_succ] at e0 e1 e2 e3 e4 e5; obtain ⟨nm, q0, _, _⟩ := DataW.trod_string Tryz.underlying9 e0; obtain ⟨sa, sn, sc, sh, q1, hsh⟩ := open_intsRow e1; obtain ⟨ys, m, _, _, _, hyl, hg⟩ := DataW.trod_array Tryz.underlying23 e2; obtain ⟨side, q3, _⟩ := DataW.trod_int Tryz.underlying3 e3; obtain ⟨qa, qn, qc, sq, q4, hsq⟩ := open_intsRow e4; obtain ⟨ga, gn, gc, s, q5, hs, hgn⟩ := open_setsRow e5 (fun el sp he => hsz x0.1 x1.1 x2.1 x3.1 x4.1 el sp (by rw [hx]; simp [he]))
  have each : ∀ i, i < 8 → ∃ z : Int, cs[2 + i]? = some (.int .i64 z) := fun i hi => by
    have g := hg i hi; rw [List.getElem?_eq_getElem (by omega)] at g; obtain ⟨z, q, _⟩ := DataW.trod_int Tryz.underlying3 g
    change List.take (Tryz.prog.cellsOf 3) (List.drop (i * Tryz.prog.cellsOf 3) (List.take (Tryz.prog.cellsOf 23) (List.drop 2 cs))) = _ at q
    rw [cellsInt, cellsEight, Nat.mul_one] at q; have := at_of_take1 q; rw [List.getElem?_take, if_pos hi, List.getElem?_drop] at this; exact ⟨z, this⟩
  obtain ⟨d, hd⟩ := Go.Deep.choose_lt each
  change List.take (Tryz.prog.cellsOf 9) (List.drop 0 cs) = _ at q0
  rw [cellsStr] at q0
  change List.take (Tryz.prog.cellsOf 22) (List.drop 1 cs) = _ at q1
  rw [cellsInts] at q1
  change List.take (Tryz.prog.cellsOf 3) (List.drop 10 cs) = _ at q3
  rw [cellsInt] at q3
  change List.take (Tryz.prog.cellsOf 22) (List.drop 11 cs) = _ at q4
  rw [cellsInts] at q4
  change List.take (Tryz.prog.cellsOf 24) (List.drop 12 cs) = _ at q5
  rw [cellsSets] at q5
  have hcs : cs = (tyV nm sa sn sc ⟨[d 0, d 1, d 2, d 3, d 4, d 5, d 6, d 7], side, sq, s⟩ qa qn qc ga gn gc).toList := by
    apply List.ext_getElem?
    intro i
    match i with
    | 0 => exact at_of_take1 q0
    | 1 => exact at_of_take1 q1
    | 2 => exact hd 0 (by omega)
    | 3 => exact hd 1 (by omega)
    | 4 => exact hd 2 (by omega)
    | 5 => exact hd 3 (by omega)
    | 6 => exact hd 4 (by omega)
    | 7 => exact hd 5 (by omega)
    | 8 => exact hd 6 (by omega)
    | 9 => exact hd 7 (by omega)
    | 10 => exact at_of_take1 q3
    | 11 => exact at_of_take1 q4
    | 12 => exact at_of_take1 q5
    | i + 13 => rw [List.getElem?_eq_none (by omega)]; rfl
  exact ⟨nm, sh, ⟨[d 0, d 1, d 2, d 3, d 4, d 5, d 6, d 7], side, sq, s⟩, sa, sn, sc, qa, qn, qc, ga, gn, gc, hcs, rfl, ⟨by rw [hcs], hsh, hsq, hs⟩, hgn⟩
theorem open_fxRow {W : World} {fuel : Nat} {cs : List Value} {x : DataW H × List MemPlace} (h : DataW.trod enc Tryz.prog W 0 (fun _ => true) true fuel 140 cs = some x) :
    ∃ P : Bell.Fx, cs[0]? = some (.int .i64 P.t) ∧ cs[1]? = some (.int .i64 P.x) ∧ cs[2]? = some (.int .i64 P.y) ∧ cs[3]? = some (.int .i64 P.z) ∧ cs[4]? = some (.int .i64 P.p) := by
  obtain ⟨y0, y1, y2, n, _, _, t0, t1, t2⟩ := Go.Deep.trod_struct3 Tryz.underlying140 h; obtain ⟨t, q0, _⟩ := DataW.trod_int Tryz.underlying3 t0; obtain ⟨p, q4, _⟩ := DataW.trod_int Tryz.underlying3 t2; obtain ⟨u0, u1, u2, n2, _, _, v0, v1, v2⟩ := Go.Deep.trod_struct3 Tryz.underlying28 t1; obtain ⟨a, r0, _⟩ := DataW.trod_int Tryz.underlying3 v0; obtain ⟨b, r1, _⟩ := DataW.trod_int Tryz.underlying3 v1; obtain ⟨c, r2, _⟩ := DataW.trod_int Tryz.underlying3 v2
  change List.take (Tryz.prog.cellsOf 3) (List.drop 0 cs) = _ at q0
  change List.take (Tryz.prog.cellsOf 3) (List.drop 4 cs) = _ at q4
  change List.take (Tryz.prog.cellsOf 3) (List.drop 0 (List.take (Tryz.prog.cellsOf 28) (List.drop 1 cs))) = _ at r0
  change List.take (Tryz.prog.cellsOf 3) (List.drop 1 (List.take (Tryz.prog.cellsOf 28) (List.drop 1 cs))) = _ at r1
  change List.take (Tryz.prog.cellsOf 3) (List.drop 2 (List.take (Tryz.prog.cellsOf 28) (List.drop 1 cs))) = _ at r2
  rw [cellsInt] at q0 q4 r0 r1 r2; exact ⟨⟨t, a, b, c, p⟩, at_of_take1 q0, at_of_drop (k := 1) (j := 0) (at_of_take1 r0), at_of_drop (k := 1) (j := 1) (at_of_take1 r1), at_of_drop (k := 1) (j := 2) (at_of_take1 r2), at_of_take1 q4⟩
end
def rowDS : TypeDesc → Bool
  | .struct _ => true
  | .array _ _ => true
  | _ => false
theorem open_row_of {P : Program} {W : World} {r : Reach} {base : Nat} {t : TypeId} {v : Value} (n : Nat) {d : TypeDesc} (hu : P.underlying t = some d) (hd : rowDS d = true) (hC : P.cellsOf t = n) (ts : List TypeId) (hn : ts.length = n)
    (hts : P.cellTypes P.depth t = some ts) (hv : Value.okWide P W r base t v) :
    ∃ cs, v = .agg cs ∧ cs.size = n ∧ ∀ (i : Nat) (u : TypeId) (k : IntKind), ts[i]? = some u → P.underlying u = some (.int k) → ∃ z : Int, cs[i]? = some (.int k z) ∧ k.has z := by
  have hcs : ∃ cs, v = .agg cs ∧ cs.size = P.cellsOf t ∧ Row.okWide P W r base t cs := by
    unfold Value.okWide at hv; rw [hu] at hv
    cases d <;> first | exact hv | (simp [rowDS] at hd)
  obtain ⟨cs, rfl, hsz, ts', h1, _, h2⟩ := hcs; rw [hts] at h1
  cases h1
  rw [hC] at hsz; refine ⟨cs, rfl, hsz, fun i u k hi hk => ?_⟩
  have hi0 : i < ts.length := by
    rcases Nat.lt_or_ge i ts.length with h | h
    · exact h
    · rw [List.getElem?_eq_none h] at hi; cases hi
  have hi' : i < cs.size := by omega
  obtain ⟨u', hu', hc⟩ := h2 i _ (Array.getElem?_eq_getElem hi'); rw [Nat.mod_eq_of_lt hi0, hi] at hu'
  cases hu'
  have hw : Value.okWide P W r base u cs[i] := by
    unfold Value.okWide; rw [hk]; exact hc
  obtain ⟨z, hz⟩ := okWide_int hk hw; refine ⟨z, by rw [Array.getElem?_eq_getElem hi', hz], ?_⟩; rw [hz] at hc; simp only [Cell.okWide, hk, Cell.ok] at hc; exact hc.2
end Go.Proofs.YtmafmebcgmegeaaGreatDoor

namespace Go.Proofs.YtmafmebcgmegeaaGreatDoor
open Go.ChangeShapes Go.WideShapes Go.ChangeAt Go.RowKit
section
variable {H : Type} {enc : TypeId × Value → H}
theorem cellsFl : Tryz.prog.cellsOf 151 = 3 := by kernel_rfl
theorem cellsTrk : Tryz.prog.cellsOf 62 = 1 := by kernel_rfl
theorem open_trackRow {W : World} {fuel : Nat} {cs : List Value} {x : DataW H × List MemPlace} (h : DataW.trod enc Tryz.prog W 0 (fun _ => true) true fuel 62 cs = some x) :
    ∃ A n c l, cs = [.slice A n c] ∧ TrAt W A n l := by
  rcases Go.Deep.open_slice Tryz.underlying62 h with ⟨hcs, _⟩ | ⟨a, len, cap, m, k, D, Pl, hcs, _, hl, hm, hmm, hx, hcell⟩
  · exact ⟨none, 0, 0, [], hcs, rfl, fun h => by omega⟩
  · simp only [if_true] at hmm
    have each : ∀ i, i < len → ∃ P : Bell.Fx, W.cell? (a.add (i * 5)) = some (.int .i64 P.t) ∧ W.cell? (a.add (i * 5 + 1)) = some (.int .i64 P.x) ∧ W.cell? (a.add (i * 5 + 2)) = some (.int .i64 P.y) ∧ W.cell? (a.add (i * 5 + 3)) = some (.int .i64 P.z) ∧ W.cell? (a.add (i * 5 + 4)) = some (.int .i64 P.p) := fun i hi => by
      obtain ⟨cs', h1, h2⟩ := hcell i (by omega); rw [cellsFx] at h1; obtain ⟨_, _, hc⟩ := World.cells?_some h1; obtain ⟨P, e0, e1, e2, e3, e4⟩ := open_fxRow h2; refine ⟨P, ?_, ?_, ?_, ?_, ?_⟩
      · have := hc 0 (by omega); rw [Go.Deep.add_add, Nat.add_zero] at this; rw [this]; exact e0
      · have := hc 1 (by omega); rw [Go.Deep.add_add] at this; rw [this]; exact e1
      · have := hc 2 (by omega); rw [Go.Deep.add_add] at this; rw [this]; exact e2
      · have := hc 3 (by omega); rw [Go.Deep.add_add] at this; rw [this]; exact e3
      · have := hc 4 (by omega); rw [Go.Deep.add_add] at this; rw [this]; exact e4
    haveI : Inhabited Bell.Fx := ⟨⟨0, 0, 0, 0, 0⟩⟩
    obtain ⟨q, hq⟩ := Go.Deep.choose_lt each; have hget : ∀ i, i < len → Bell.fxAt ((List.range len).map q) i = q i := fun i hi => by simp [Bell.fxAt, List.getD_eq_getElem?_getD, hi]
    refine ⟨some a, len, cap, (List.range len).map q, hcs, by simp, fun h0 => ?_⟩; obtain ⟨b, off, spot⟩ := a; have hspot : spot = none := by simpa [Addr.add] using World.cell?_spot (hq 0 h0).1
    subst hspot; refine ⟨b, off, rfl, by simp, fun i hi => ?_⟩; obtain ⟨e0, e1, e2, e3, e4⟩ := hq i hi; rw [add_plain] at e0 e1 e2 e3 e4; unfold FixAt; rw [hget i hi]; exact ⟨e0, by rw [Nat.add_assoc]; exact e1, by rw [Nat.add_assoc]; exact e2, by rw [Nat.add_assoc]; exact e3, by rw [Nat.add_assoc]; exact e4⟩
theorem open_flRow {W : World} {fuel : Nat} {cs : List Value} {x : DataW H × List MemPlace} (h : DataW.trod enc Tryz.prog W 0 (fun _ => true) true fuel 151 cs = some x) :
    ∃ f : Fl, cs[0]? = some (.string f.nm) ∧ cs[1]? = some (.string f.ty) ∧ cs[2]? = some (.slice f.A f.n f.c) ∧ TrAt W f.A f.n f.tr := by
  obtain ⟨y0, y1, y2, n, _, _, t0, t1, t2⟩ := Go.Deep.trod_struct3 Tryz.underlying151 h; obtain ⟨nm, q0, _, _⟩ := DataW.trod_string Tryz.underlying9 t0; obtain ⟨ty, q1, _, _⟩ := DataW.trod_string Tryz.underlying9 t1; obtain ⟨A, m, c, l, q2, ht⟩ := open_trackRow t2
  change List.take (Tryz.prog.cellsOf 9) (List.drop 0 cs) = _ at q0
  change List.take (Tryz.prog.cellsOf 9) (List.drop 1 cs) = _ at q1
  change List.take (Tryz.prog.cellsOf 62) (List.drop 2 cs) = _ at q2
  rw [cellsStr] at q0 q1; rw [cellsTrk] at q2; exact ⟨⟨nm, ty, l, A, m, c⟩, at_of_take1 q0, at_of_take1 q1, at_of_take1 q2, ht⟩
theorem open_flights {W : World} {v : Value} {d : DataW H} {ps : List MemPlace} (h : DataW.Trod enc Tryz.prog W 0 (fun _ => true) true 110 v d ps) (hv : ∃ a l c, v = .slice a l c) :
    ∃ A n c fs, v = .slice A n c ∧ RflsAt W A n fs ∧ n ≤ c ∧ c ≤ 9223372036854775807 := by
  obtain ⟨fuel, hn⟩ := h; rcases Go.Deep.open_slice Tryz.underlying110 hn with ⟨hcs, _⟩ | ⟨a, len, cap, m, k, D, Pl, hcs, _, hl, hm, hmm, hx, hcell⟩
  · obtain rfl := cells_slice hv hcs; exact ⟨none, 0, 0, [], rfl, ⟨rfl, fun h => by omega⟩, by omega, by omega⟩
  · obtain rfl := cells_slice hv hcs; simp only [if_true] at hmm
    have each : ∀ i, i < len → ∃ f : Fl, (W.cell? (a.add (i * 3)) = some (.string f.nm) ∧ W.cell? (a.add (i * 3 + 1)) = some (.string f.ty) ∧ W.cell? (a.add (i * 3 + 2)) = some (.slice f.A f.n f.c)) ∧ TrAt W f.A f.n f.tr := fun i hi => by
      obtain ⟨cs', h1, h2⟩ := hcell i (by omega); rw [cellsFl] at h1; obtain ⟨_, _, hc⟩ := World.cells?_some h1; obtain ⟨f, e0, e1, e2, ht⟩ := open_flRow h2; refine ⟨f, ⟨?_, ?_, ?_⟩, ht⟩
      · have := hc 0 (by omega); rw [Go.Deep.add_add, Nat.add_zero] at this; rw [this]; exact e0
      · have := hc 1 (by omega); rw [Go.Deep.add_add] at this; rw [this]; exact e1
      · have := hc 2 (by omega); rw [Go.Deep.add_add] at this; rw [this]; exact e2
    haveI : Inhabited Fl := ⟨Fl.none⟩
    obtain ⟨q, hq⟩ := Go.Deep.choose_lt each; have hget : ∀ i, i < len → flAt ((List.range len).map q) i = q i := fun i hi => by simp [flAt, List.getD_eq_getElem?_getD, hi]
    refine ⟨some a, len, cap, (List.range len).map q, rfl, ⟨by simp, fun h0 => ?_⟩, hl, by unfold maxLen at hm; omega⟩; obtain ⟨b, off, spot⟩ := a; have hspot : spot = none := by simpa [Addr.add] using World.cell?_spot (hq 0 h0).1.1
    subst hspot; refine ⟨b, off, rfl, fun i hi => ?_⟩; obtain ⟨⟨e0, e1, e2⟩, ht⟩ := hq i hi; rw [add_plain] at e0 e1 e2; rw [hget i hi]; exact ⟨⟨e0, by rw [Nat.add_assoc]; exact e1, by rw [Nat.add_assoc]; exact e2⟩, ht⟩
theorem open_types {W : World} {v : Value} {d : DataW H} {ps : List MemPlace} (h : DataW.Trod enc Tryz.prog W 0 (fun _ => true) true 109 v d ps) (hv : ∃ a l c, v = .slice a l c)
    (hsz : ∀ el sp, d = .slice el sp → ∀ x, x ∈ el → ∀ y0 y1 y2 y3 y4 el' sp', x = .agg [y0, y1, y2, y3, y4, .slice el' sp'] → (el'.length + sp'.length) * Tryz.prog.bytesOf 145 ≤ reachBytes) :
    ∃ A n c ts, v = .slice A n c ∧ RqsAt W A n ts ∧ (∀ i, i < n → (tqAt ts i).T.direct.length = 8) ∧ (∀ i, i < n → (tqAt ts i).gn ≤ 140737488351232) ∧ n ≤ c ∧ c ≤ 9223372036854775807 := by
  obtain ⟨fuel, hn⟩ := h; rcases Go.Deep.open_slice Tryz.underlying109 hn with ⟨hcs, _⟩ | ⟨a, len, cap, m, k, D, Pl, hcs, _, hl, hm, hmm, hx, hcell⟩
  · obtain rfl := cells_slice hv hcs; exact ⟨none, 0, 0, [], rfl, ⟨rfl, fun h => by omega⟩, (fun i hi => by omega), (fun i hi => by omega), by omega, by omega⟩
  · obtain rfl := cells_slice hv hcs; simp only [if_true] at hmm; have hd : d = .slice ((List.range len).map D) ((List.range (m - len)).map fun j => D (len + j)) := congrArg Prod.fst hx
    have each : ∀ i, i < len → ∃ t : Tq, (∀ j, j < 13 → W.cell? (a.add (i * 13 + j)) = t.cs.toList[j]?) ∧ RTy W t.cs t.nm t.sh t.T t.sa t.sn t.sc t.qa t.qn t.qc t.ga t.gn t.gc ∧ t.T.direct.length = 8 ∧ t.gn ≤ 140737488351232 := fun i hi => by
      obtain ⟨cs', h1, h2⟩ := hcell i (by omega); rw [cellsTy] at h1; obtain ⟨_, _, hc⟩ := World.cells?_some h1; obtain ⟨nm, sh, T, sa, sn, sc, qa, qn, qc, ga, gn, gc, hcs', hd8, hT, hgn⟩ := open_tyRow h2 (fun y0 y1 y2 y3 y4 el sp e => hsz _ _ hd (D i) (List.mem_map.2 ⟨i, List.mem_range.2 hi, rfl⟩) y0 y1 y2 y3 y4 el sp e); refine ⟨⟨nm, sh, T, sa, sn, sc, qa, qn, qc, ga, gn, gc⟩, fun j hj => ?_, ?_, hd8, hgn⟩
      · have := hc j (by omega); rw [Go.Deep.add_add] at this; rw [this, hcs']
        rfl
      · rw [hcs'] at hT; exact hT
    haveI : Inhabited Tq := ⟨Tq.none⟩
    obtain ⟨q, hq⟩ := Go.Deep.choose_lt each; have hget : ∀ i, i < len → tqAt ((List.range len).map q) i = q i := fun i hi => by simp [tqAt, List.getD_eq_getElem?_getD, hi]
    refine ⟨some a, len, cap, (List.range len).map q, rfl, ⟨by simp, fun h0 => ?_⟩, fun i hi => by rw [hget i hi]; exact (hq i hi).2.2.1, fun i hi => by rw [hget i hi]; exact (hq i hi).2.2.2, hl, by unfold maxLen at hm; omega⟩; obtain ⟨b, off, spot⟩ := a
    have hspot : spot = none := by
      have h5 := (hq 0 h0).1 0 (by omega); have h6 : (q 0).cs.toList[0]? = some (.string (q 0).nm) := rfl; rw [h6] at h5
      simpa [Addr.add] using World.cell?_spot h5
    subst hspot; refine ⟨b, off, rfl, fun i hi => ⟨fun j v hv => ?_, ?_⟩⟩
    · rw [hget i hi] at hv
      have hj : j < 13 := by
        rcases Nat.lt_or_ge j 13 with h | h
        · exact h
        · rw [List.getElem?_eq_none (show (q i).cs.toList.length ≤ j from h)] at hv; cases hv
      have h5 := (hq i hi).1 j hj; rw [add_plain] at h5; rw [Nat.add_assoc, h5, hv]
    · rw [hget i hi]; exact (hq i hi).2.1
theorem weights_mem_all {e : TypeId} {d : DataW H} : ∀ {el : List (DataW H)}, d ∈ el → ∀ n ∈ d.weights Tryz.prog e, n ∈ DataW.weightsAll Tryz.prog e el
  | a :: l, h, n, hn => by
    simp only [DataW.weightsAll, List.mem_append]; rcases List.mem_cons.1 h with rfl | h
    · exact .inl hn
    · exact .inr (weights_mem_all h n hn)
theorem sized_tys {ts : List TypeId} {ds : List (DataW H)} (h : (DataW.weightsEach Tryz.prog ts ds).all (· ≤ reachBytes) = true) {j : Nat} {d : DataW H} (ht : ts[j]? = some 109) (hd : ds[j]? = some d) :
    ∀ el sp, d = .slice el sp → ∀ x, x ∈ el → ∀ y0 y1 y2 y3 y4 el' sp', x = .agg [y0, y1, y2, y3, y4, .slice el' sp'] → (el'.length + sp'.length) * Tryz.prog.bytesOf 145 ≤ reachBytes := by
  rintro el sp rfl x hx y0 y1 y2 y3 y4 el' sp' rfl
  have h1 : (el'.length + sp'.length) * Tryz.prog.bytesOf 145 ∈ DataW.weights Tryz.prog 26 (.agg [y0, y1, y2, y3, y4, .slice el' sp'] : DataW H) := by
    simp [DataW.weights, DataW.weightsEach, Tryz.underlying26, Tryz.underlying24]
  have h2 := weights_mem_all hx _ h1
  have := List.all_eq_true.1 h _ (DataW.weights_mem_each ht hd ((el'.length + sp'.length) * Tryz.prog.bytesOf 145) (by
    simp only [DataW.weights, Tryz.underlying109]; exact List.mem_cons_of_mem _ (List.mem_append_left _ h2)))
  simpa using this
end
set_option maxRecDepth 100000 in
theorem open_vec {W : World} {r : Reach} {base : Nat} {v : Value} (hv : Value.okWide Tryz.prog W r base 28 v) : ∃ x y z : Int, v = .agg #[.int .i64 x, .int .i64 y, .int .i64 z] := by
  obtain ⟨cs, rfl, hsz, h⟩ := open_row_of 3 Tryz.underlying28 rfl (by kernel_rfl) [3, 3, 3] rfl (by kernel_rfl) hv; obtain ⟨n0, h0, _⟩ := h 0 3 .i64 rfl Tryz.underlying3; obtain ⟨n1, h1, _⟩ := h 1 3 .i64 rfl Tryz.underlying3; obtain ⟨n2, h2, _⟩ := h 2 3 .i64 rfl Tryz.underlying3; refine ⟨n0, n1, n2, ?_⟩
  congr 1
  apply Array.ext_getElem?
  intro i
  match i with
  | 0 => rw [h0]; rfl
  | 1 => rw [h1]; rfl
  | 2 => rw [h2]; rfl
  | i + 3 => rw [Array.getElem?_eq_none (by omega)]; rfl
end Go.Proofs.YtmafmebcgmegeaaGreatDoor
