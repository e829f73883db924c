/- Part. -/
import Derived.Test.YtmafmebcgmegeaaGreatDoorCards
import Derived.Test.YtmafmebcgmegeaaGreatDoorTie
import Derived.ProofKit
import Derived.OpenShut
import Derived.Deep.DeepHandedRow
import Derived.Lib.LaidTab
import Derived.Stop.LaidErr
import Derived.Carry
import Derived.ChangeSlices
import Derived.Test.YtmafmebcgmegeaaGreatDoorGz1
import Derived.Test.YtmafmebcgmegeaaGreatDoorGz26
import Derived.Deep.Slices
import Derived.Deep.Strs
import Derived.ChangeMaps5
import Derived.ChangeArms
import Derived.ChangeSame
import Derived.Test.YtmafmebcgmegeaaGreatDoorGz14
import Derived.Shelf.Strings.Split
import Derived.Test.YtmafmebcgmegeaaGreatDoorGz21
import Derived.Lib.SplitLaws
import Derived.Lib.ItoaNum
namespace Go.Proofs.YtmafmebcgmegeaaGreatDoor
open Go.ChangeShapes Go.WideShapes Go.ChangeAt Go.RowKit
theorem laidOutA : laidOutB Tryz.prog = true := by kernel_rfl
theorem own : ownKnob Tryz.prog.godebug = none := by kernel_rfl
theorem cellsInt : Tryz.prog.cellsOf 3 = 1 := by kernel_rfl
section
variable {H : Type} {enc : TypeId × Value -> H} {P : Program}
theorem post_of_below {f : Func} {s : ChangeSpec} {apart fresh handsOn again : Bool} {W W' : World} {args : Array Value} {v : Value} {ds gs : List (DataW H)} {before pa pv : List MemPlace}
  (hW : DataW.Whole enc P f.params.toList s.vars apart W args.toList ds gs before)
  (hres : ∀ (b : Nat) (sp : Nat -> Bool) (hd : Bool), DataW.TrodAll enc P W' b sp hd f.resultTypes.toList (v.resultList f.resultTypes.size) (s.fn H (ds ++ gs)).results [])
  (hargs : ∀ sp : Nat -> Bool, (∀ p ∈ before, sp p.block = true) -> DataW.TrodAll enc P W' 0 sp true f.params.toList args.toList (s.fn H (ds ++ gs)).args pa)
  (hvars : ∀ sp : Nat -> Bool, (∀ p ∈ before, sp p.block = true) -> DataW.TrodVars enc P W' sp s.vars (s.fn H (ds ++ gs)).vars pv)
  (hps : before = pa ++ pv) (hb : Below W.heap.size W W')
  (hok : ∀ (j : Nat) (t : TypeId) (r : Value), f.resultTypes[j]? = some t -> (v.resultList f.resultTypes.size)[j]? = some r -> Value.okWide P W' .any 0 t r) :
  s.post enc P f apart fresh handsOn again W args v W' := by
 have hlt : ∀ p ∈ before, p.block < W.heap.size := fun p hp => hW.lt p hp
 have hold : ∀ p ∈ before, (fun b => decide (b < W.heap.size)) p.block = true := fun p hp => by simpa using hlt p hp
 refine ⟨ds, gs, before, [], pa, pv, hW, hres _ _ _, hargs _ hold, hvars _ hold, World.keptBut_mono (fun p hp => ⟨hp, ?_⟩) (hb.frame (· ∈ before)), fun _ => ?_⟩
 ·rw [hps, List.mem_append] at hp; exact Or.inr hp
 ·obtain ⟨_, _, _, _, _, hz, hn⟩ := hW; refine ⟨hok, _, _, ([] ++ pa) ++ pv, ⟨[] ++ pa, pv, trodAll_append (hargs _ (fun _ _ => rfl)) (hres _ _ _), hvars _ (fun _ _ => rfl), rfl, ?_, ?_⟩, ?_⟩
  ·intro b off hp; have hin : MemPlace.cell b off ∈ before := by rw [hps]; simpa using hp
   rw [hb.frozen (hlt _ hin)]; exact hz b off hin
  ·intro ha; have := hn ha; rw [hps] at this
   simpa using this
  ·intro p hp _; rw [hps]
   simpa using hp
end
theorem gPowType : (Tryz.prog.globals[3]?).map (·.type) = some 329 := by kernel_rfl
theorem cellsPow : Tryz.prog.cellsOf 329 = 20 := by kernel_rfl
theorem cellsU64 : Tryz.prog.cellsOf 318 = 1 := by kernel_rfl
theorem gWords : Tryz.prog.globalNamed "flyover/source.firstWords" = some 1 := by kernel_rfl
theorem gWordsType : (Tryz.prog.globals[1]?).map (·.type) = some 229 := by kernel_rfl
theorem cellsString : Tryz.prog.cellsOf 9 = 1 := by kernel_rfl
theorem gTurned : Tryz.prog.globalNamed "flyover/flyoverlaw02.turned" = some 0 := by kernel_rfl
theorem gTurnedType : (Tryz.prog.globals[0]?).map (·.type) = some 165 := by kernel_rfl
theorem cellsPoint : Tryz.prog.cellsOf 30 = 2 := by kernel_rfl
def lay (g : Nat) (cs : Array Value) (h : Array Obj) : Array Obj := h.modify g fun
 | .cells _ t frozen => .cells cs t frozen
 | o => o
def pow10Vals : Array Value := #[.int .u64 1, .int .u64 10, .int .u64 100, .int .u64 1000, .int .u64 10000, .int .u64 100000, .int .u64 1000000, .int .u64 10000000, .int .u64 100000000, .int .u64 1000000000, .int .u64 10000000000, .int .u64 100000000000, .int .u64 1000000000000, .int .u64 10000000000000, .int .u64 100000000000000, .int .u64 1000000000000000, .int .u64 10000000000000000, .int .u64 100000000000000000, .int .u64 1000000000000000000, .int .u64 10000000000000000000]
def tab32 : List Int := [0, 1, 28, 2, 29, 14, 24, 3, 30, 22, 20, 15, 25, 17, 4, 8, 31, 27, 13, 23, 21, 19, 16, 7, 26, 12, 18, 6, 11, 5, 10, 9]
def tab64 : List Int := [0, 1, 56, 2, 57, 49, 28, 3, 61, 58, 42, 50, 38, 29, 17, 4, 62, 47, 59, 36, 45, 43, 51, 22, 53, 39, 33, 30, 24, 18, 12, 5, 63, 55, 48, 27, 60, 41, 37, 16, 46, 35, 44, 21, 52, 32, 23, 11, 54, 26, 40, 15, 34, 20, 31, 10, 25, 14, 19, 9, 13, 8, 7, 6]
def wordVals : Array Value := #[.string ⟨#[116, 121, 112, 101]⟩, .string ⟨#[115, 104, 97, 114, 101, 115]⟩, .string ⟨#[100, 105, 114, 101, 99, 116]⟩, .string ⟨#[115, 113, 117, 97, 114, 101, 115]⟩, .string ⟨#[112, 111, 119, 101, 114]⟩]
def laidHeap5 (h : Array Obj) : Array Obj := lay 0 turnA (lay 1 wordVals (lay 3 pow10Vals (lay 6 (tab32.map (Value.int .u8)).toArray (lay 7 (tab64.map (Value.int .u8)).toArray h))))
section
variable {H : Type} {enc : TypeId × Value -> H}
theorem args_stay {W W' : World} {sp : Nat -> Bool} (hb : Below W.heap.size W W') : ∀ {ts : List TypeId} {vs : List Value} {ds : List (DataW H)} {ps : List MemPlace}, (∀ t ∈ ts, Tryz.prog.readableRec t = true /\ t < Tryz.prog.types.size) ->
  DataW.TrodAll enc Tryz.prog W 0 (fun _ => true) true ts vs ds ps -> (∀ p ∈ ps, p.block < W.heap.size) -> (∀ p ∈ ps, sp p.block = true) -> DataW.TrodAll enc Tryz.prog W' 0 sp true ts vs ds ps
 | [], [], [], _, _, h, _, _ => h
 | t :: _, _ :: _, _ :: _, _, hT, ⟨p, q, h1, h2, e⟩, hl, hs => ⟨p, q, WideElems.Trod_stays laidOutA (hT t (List.mem_cons.2 (.inl rfl))).1 (hT t (List.mem_cons.2 (.inl rfl))).2 h1
     (fun x hx => hb.same (hl x (by rw [e]; exact List.mem_append_left _ hx))) (fun x hx => hs x (by rw [e]; exact List.mem_append_left _ hx)),
     args_stay hb (fun t ht => hT t (List.mem_cons.2 (.inr ht))) h2 (fun x hx => hl x (by rw [e]; exact List.mem_append_right _ hx)) (fun x hx => hs x (by rw [e]; exact List.mem_append_right _ hx)), e⟩
set_option maxRecDepth 100000 in
theorem law_post {f : Func} {s : ChangeSpec} {apart fresh handsOn again : Bool} {W W' : World} {args : Array Value} {ds gs : List (DataW H)} {before : List MemPlace}
  (hW : DataW.Whole enc Tryz.prog f.params.toList s.vars apart W args.toList ds gs before) (hv : s.vars = []) (hr : f.resultTypes = #[4]) (hT : ∀ t ∈ f.params.toList, Tryz.prog.readableRec t = true /\ t < Tryz.prog.types.size)
  (hfn : s.fn H (ds ++ gs) = { results := [.lit (.bool true)], args := ds }) (hb : Below W.heap.size W W') :
  s.post enc Tryz.prog f apart fresh handsOn again W args (.bool true) W' := by
 have hlt : ∀ p ∈ before, p.block < W.heap.size := fun p hp => hW.lt p hp
 have hW1 := hW; obtain ⟨p, q, hA, hV, rfl, hfz, hnd⟩ := hW1; rw [hv] at hV; obtain ⟨rfl, rfl⟩ := trodVars_none hV; refine post_of_below (pa := p ++ []) (pv := []) hW (fun b sp hd => ?_) (fun sp hsp => ?_) (fun sp hsp => ?_) (by simp) hb (ok_one hr rfl (okWide_bool_mk Tryz.underlying4 _))
 ·rw [hfn, hr]; exact trodAll_mk1 (shut_bool Tryz.underlying4 _)
 ·rw [hfn, List.append_nil]; exact args_stay hb hT hA (fun x hx => hlt x (by simpa using hx)) (fun x hx => hsp x (by simpa using hx))
 ·rw [hv, hfn]; exact rfl
end
theorem at_of_take1 {cs : List Value} {k : Nat} {v : Value} (h : (cs.drop k).take 1 = [v]) : cs[k]? = some v := by
 have := congrArg (fun l => l[0]?) h
 simpa [List.getElem?_take, List.getElem?_drop] using this
section
variable {H : Type} {enc : TypeId × Value -> H}
theorem cellsStr : Tryz.prog.cellsOf 9 = 1 := by kernel_rfl
theorem cellsInts : Tryz.prog.cellsOf 22 = 1 := by kernel_rfl
theorem cellsEight : Tryz.prog.cellsOf 23 = 8 := by kernel_rfl
theorem cellsSets : Tryz.prog.cellsOf 24 = 1 := by kernel_rfl
theorem cellsSet : Tryz.prog.cellsOf 145 = 2 := by kernel_rfl
theorem bytesSet : Tryz.prog.bytesOf 145 = 32 := by kernel_rfl
theorem cellsTy : Tryz.prog.cellsOf 26 = 13 := by kernel_rfl
theorem open_intsRow {W : World} {fuel : Nat} {cs : List Value} {x : DataW H × List MemPlace} (h : DataW.trod enc Tryz.prog W 0 (fun _ => true) true fuel 22 cs = some x) :
  ∃ A n c zs, cs = [.slice A n c] /\ IntsAt W A n zs := by
 rcases open_ints Tryz.underlying22 Tryz.underlying3 cellsInt h with ⟨hcs, _⟩ | ⟨a, len, cap, zs, hcs, _, hl, hm, hz, hx, hcell, hw⟩
 ·exact ⟨none, 0, 0, [], hcs, rfl, fun h => by omega⟩
 ·simp only [if_true] at hz; refine ⟨some a, len, cap, zs.take len, hcs, by rw [List.length_take]; omega, fun h0 => ?_⟩; obtain ⟨b, off, spot⟩ := a; have hspot : spot = none := by simpa [Addr.add] using World.cell?_spot (hcell 0 (by omega))
  subst hspot; refine ⟨b, off, rfl, fun i hi => ?_⟩; have := hcell i (by omega); rw [add_plain] at this; rw [this]
  simp [List.getD_eq_getElem?_getD, hi]
theorem open_setRow {W : World} {fuel : Nat} {cs : List Value} {x : DataW H × List MemPlace} (h : DataW.trod enc Tryz.prog W 0 (fun _ => true) true fuel 145 cs = some x) :
  ∃ (p : Int) (A : Option Addr) (n c : Nat) (zs : List Int), cs[0]? = some (.int .i64 p) /\ cs[1]? = some (.slice A n c) /\ IntsAt W A n zs := by
 obtain ⟨y0, y1, n, _, _, t0, t1⟩ := trod_struct2 Tryz.underlying145 h; obtain ⟨p, q0, _⟩ := DataW.trod_int Tryz.underlying3 t0; obtain ⟨A, m, c, zs, q1, hz⟩ := open_intsRow t1
 change List.take (Tryz.prog.cellsOf 3) (List.drop 0 cs) = _ at q0
 rw [cellsInt] at q0
 change List.take (Tryz.prog.cellsOf 22) (List.drop 1 cs) = _ at q1
 rw [cellsInts] at q1; exact ⟨p, A, m, c, zs, at_of_take1 q0, at_of_take1 q1, hz⟩
theorem open_setsRow {W : World} {fuel : Nat} {cs : List Value} {x : DataW H × List MemPlace} (h : DataW.trod enc Tryz.prog W 0 (fun _ => true) true fuel 24 cs = some x) (hsz : ∀ el sp, x.1 = .slice el sp -> (el.length + sp.length) * Tryz.prog.bytesOf 145 <= reachBytes) :
  ∃ A n c s, cs = [.slice A n c] /\ SetsO W A n s /\ n <= 140737488351232 := by
 rcases Go.Deep.open_slice Tryz.underlying24 h with ⟨hcs, _⟩ | ⟨a, len, cap, m, k, D, Pl, hcs, _, hl, hm, hmm, hx, hcell⟩
 ·exact ⟨none, 0, 0, [], hcs, ⟨rfl, fun h => by omega⟩, by omega⟩
 ·simp only [if_true] at hmm; have hb := hsz _ _ (congrArg Prod.fst hx); rw [bytesSet] at hb; simp only [List.length_map, List.length_range] at hb; have hr : reachBytes = 140737488351232 := rfl
  have each : ∀ i, i < len -> ∃ s : Int × List Int, W.cell? (a.add (i * 2)) = some (.int .i64 s.1) /\ ∃ A n c, W.cell? (a.add (i * 2 + 1)) = some (.slice A n c) /\ IntsAt W A n s.2 := fun i hi => by
   obtain ⟨cs', h1, h2⟩ := hcell i (by omega); rw [cellsSet] at h1; obtain ⟨_, _, hc⟩ := World.cells?_some h1; obtain ⟨p, A, n, c, zs, e0, e1, hz⟩ := open_setRow h2; refine ⟨(p, zs), ?_, A, n, c, ?_, hz⟩
   ·have := hc 0 (by omega); rw [Go.Deep.add_add, Nat.add_zero] at this; rw [this]; exact e0
   ·have := hc 1 (by omega); rw [Go.Deep.add_add] at this; rw [this]; exact e1
  haveI : Inhabited (Int × List Int) := ⟨(0, [])⟩
  obtain ⟨q, hq⟩ := Go.Deep.choose_lt each; have hget : ∀ i, i < len -> ((List.range len).map q).getD i (0, []) = q i := fun i hi => by simp [List.getD_eq_getElem?_getD, hi]
  refine ⟨some a, len, cap, (List.range len).map q, hcs, ⟨by simp, fun h0 => ?_⟩, by omega⟩; obtain ⟨b, off, spot⟩ := a; have hspot : spot = none := by simpa [Addr.add] using World.cell?_spot (hq 0 h0).1
  subst hspot; refine ⟨b, off, rfl, by simp, fun i hi => ?_⟩; obtain ⟨e0, A, n, c, e1, hz⟩ := hq i hi; rw [add_plain] at e0 e1; refine ⟨A, n, c, ?_, ?_, ?_⟩
  ·unfold Bell.ePow; rw [e0, hget i hi]
  ·rw [Nat.add_assoc, e1]
  ·rw [hget i hi]; exact hz
theorem open_tyRow {W : World} {fuel : Nat} {cs : List Value} {x : DataW H × List MemPlace} (h : DataW.trod enc Tryz.prog W 0 (fun _ => true) true fuel 26 cs = some x)
  (hsz : ∀ y0 y1 y2 y3 y4 el sp, x.1 = .agg [y0, y1, y2, y3, y4, .slice el sp] -> (el.length + sp.length) * Tryz.prog.bytesOf 145 <= reachBytes) :
  ∃ nm sh T sa sn sc qa qn qc ga gn gc, cs = (tyV nm sa sn sc T qa qn qc ga gn gc).toList /\ T.direct.length = 8 /\ RTy W cs.toArray nm sh T sa sn sc qa qn qc ga gn gc /\ gn <= 140737488351232 := by
 obtain ⟨xs, n, _, hx, hl, hlen, hf⟩ := DataW.trod_struct Tryz.underlying26 h; rw [cellsTy] at hl; have hx6 : xs.length = 6 := hlen; have e0 := hf 0 _ rfl; have e1 := hf 1 _ rfl; have e2 := hf 2 _ rfl; have e3 := hf 3 _ rfl; have e4 := hf 4 _ rfl; have e5 := hf 5 _ rfl
 obtain ⟨x0, x1, x2, x3, x4, x5, rfl⟩ : ∃ x0 x1 x2 x3 x4 x5, xs = [x0, x1, x2, x3, x4, x5] := by
  match xs, hx6 with
  | [x0, x1, x2, x3, x4, x5], _ => exact ⟨x0, x1, x2, x3, x4, x5, rfl⟩
 simp only [List.getElem?_cons_zero, List.getElem?_cons_succ] at e0 e1 e2 e3 e4 e5; obtain ⟨nm, q0, _, _⟩ := DataW.trod_string Tryz.underlying9 e0; obtain ⟨sa, sn, sc, sh, q1, hsh⟩ := open_intsRow e1; obtain ⟨ys, m, _, _, _, hyl, hg⟩ := DataW.trod_array Tryz.underlying23 e2; obtain ⟨side, q3, _⟩ := DataW.trod_int Tryz.underlying3 e3; obtain ⟨qa, qn, qc, sq, q4, hsq⟩ := open_intsRow e4; obtain ⟨ga, gn, gc, s, q5, hs, hgn⟩ := open_setsRow e5 (fun el sp he => hsz x0.1 x1.1 x2.1 x3.1 x4.1 el sp (by rw [hx]; simp [he]))
 have each : ∀ i, i < 8 -> ∃ z : Int, cs[2 + i]? = some (.int .i64 z) := fun i hi => by
  have g := hg i hi; rw [List.getElem?_eq_getElem (by omega)] at g; obtain ⟨z, q, _⟩ := DataW.trod_int Tryz.underlying3 g
  change List.take (Tryz.prog.cellsOf 3) (List.drop (i * Tryz.prog.cellsOf 3) (List.take (Tryz.prog.cellsOf 23) (List.drop 2 cs))) = _ at q
  rw [cellsInt, cellsEight, Nat.mul_one] at q; have := at_of_take1 q; rw [List.getElem?_take, if_pos hi, List.getElem?_drop] at this; exact ⟨z, this⟩
 obtain ⟨d, hd⟩ := Go.Deep.choose_lt each
 change List.take (Tryz.prog.cellsOf 9) (List.drop 0 cs) = _ at q0
 rw [cellsStr] at q0
 change List.take (Tryz.prog.cellsOf 22) (List.drop 1 cs) = _ at q1
 rw [cellsInts] at q1
 change List.take (Tryz.prog.cellsOf 3) (List.drop 10 cs) = _ at q3
 rw [cellsInt] at q3
 change List.take (Tryz.prog.cellsOf 22) (List.drop 11 cs) = _ at q4
 rw [cellsInts] at q4
 change List.take (Tryz.prog.cellsOf 24) (List.drop 12 cs) = _ at q5
 rw [cellsSets] at q5
 have hcs : cs = (tyV nm sa sn sc ⟨[d 0, d 1, d 2, d 3, d 4, d 5, d 6, d 7], side, sq, s⟩ qa qn qc ga gn gc).toList := by
  apply List.ext_getElem?
  intro i
  match i with
  | 0 => exact at_of_take1 q0
  | 1 => exact at_of_take1 q1
  | 2 => exact hd 0 (by omega)
  | 3 => exact hd 1 (by omega)
  | 4 => exact hd 2 (by omega)
  | 5 => exact hd 3 (by omega)
  | 6 => exact hd 4 (by omega)
  | 7 => exact hd 5 (by omega)
  | 8 => exact hd 6 (by omega)
  | 9 => exact hd 7 (by omega)
  | 10 => exact at_of_take1 q3
  | 11 => exact at_of_take1 q4
  | 12 => exact at_of_take1 q5
  | i + 13 => rw [List.getElem?_eq_none (by omega)]; rfl
 exact ⟨nm, sh, ⟨[d 0, d 1, d 2, d 3, d 4, d 5, d 6, d 7], side, sq, s⟩, sa, sn, sc, qa, qn, qc, ga, gn, gc, hcs, rfl, ⟨by rw [hcs], hsh, hsq, hs⟩, hgn⟩
end
def rowDS : TypeDesc -> Bool
 | .struct _ => true
 | .array _ _ => true
 | _ => false
theorem open_row_of {P : Program} {W : World} {r : Reach} {base : Nat} {t : TypeId} {v : Value} (n : Nat) {d : TypeDesc} (hu : P.underlying t = some d) (hd : rowDS d = true) (hC : P.cellsOf t = n) (ts : List TypeId) (hn : ts.length = n)
  (hts : P.cellTypes P.depth t = some ts) (hv : Value.okWide P W r base t v) :
  ∃ cs, v = .agg cs /\ cs.size = n /\ ∀ (i : Nat) (u : TypeId) (k : IntKind), ts[i]? = some u -> P.underlying u = some (.int k) -> ∃ z : Int, cs[i]? = some (.int k z) /\ k.has z := by
 have hcs : ∃ cs, v = .agg cs /\ cs.size = P.cellsOf t /\ Row.okWide P W r base t cs := by
  unfold Value.okWide at hv; rw [hu] at hv
  cases d <;> first | exact hv | (simp [rowDS] at hd)
 obtain ⟨cs, rfl, hsz, ts', h1, _, h2⟩ := hcs; rw [hts] at h1
 cases h1
 rw [hC] at hsz; refine ⟨cs, rfl, hsz, fun i u k hi hk => ?_⟩
 have hi0 : i < ts.length := by
  rcases Nat.lt_or_ge i ts.length with h | h
  ·exact h
  ·rw [List.getElem?_eq_none h] at hi; cases hi
 have hi' : i < cs.size := by omega
 obtain ⟨u', hu', hc⟩ := h2 i _ (Array.getElem?_eq_getElem hi'); rw [Nat.mod_eq_of_lt hi0, hi] at hu'
 cases hu'
 have hw : Value.okWide P W r base u cs[i] := by
  unfold Value.okWide; rw [hk]; exact hc
 obtain ⟨z, hz⟩ := okWide_int hk hw; refine ⟨z, by rw [Array.getElem?_eq_getElem hi', hz], ?_⟩; rw [hz] at hc; simp only [Cell.okWide, hk, Cell.ok] at hc; exact hc.2
theorem sized_ty {H : Type} {ts : List TypeId} {ds : List (DataW H)} (h : (DataW.weightsEach Tryz.prog ts ds).all (· <= reachBytes) = true) {j : Nat} {y0 y1 y2 y3 y4 : DataW H} {el sp : List (DataW H)} (ht : ts[j]? = some 26) (hd : ds[j]? = some (.agg [y0, y1, y2, y3, y4, .slice el sp])) :
  (el.length + sp.length) * Tryz.prog.bytesOf 145 <= reachBytes := by
 have := List.all_eq_true.1 h _ (DataW.weights_mem_each ht hd ((el.length + sp.length) * Tryz.prog.bytesOf 145) (by simp [DataW.weights, DataW.weightsEach, Tryz.underlying26, Tryz.underlying24]))
 simpa using this
end Go.Proofs.YtmafmebcgmegeaaGreatDoor
namespace Go.Proofs
open Go.Shelf
def Tryz.lays221_ren : Go.Shelf.Ren := ⟨fun | 221 => 225 | 268 => 233 | 138 => 234 | 143 => 235 | 195 => 245 | 197 => 246 | 218 => 247 | 219 => 248 | 260 => 258 | 217 => 259 | 225 => 260 | 224 => 261 | 267 => 262 | 266 => 266 | 314 => 267 | n => n, fun | 9 => 9 | 3 => 3 | 31 => 155 | 4 => 4 | 0 => 0 | 105 => 323 | 21 => 21 | 5 => 5 | 46 => 315 | 119 => 334 | 139 => 337 | 138 => 336 | 146 => 338 | 51 => 158 | n => n, fun | 1 => 2 | 3 => 4 | 4 => 5 | n => n⟩
theorem Tryz.lays221 : Go.Proofs.Lays.n221 Tryz.prog Tryz.lays221_ren := {
 mixed := by kernel_rfl
 f138 := Tryz.func234.trans (congrArg some (by kernel_rfl))
 f143 := Tryz.func235.trans (congrArg some (by kernel_rfl))
 f195 := Tryz.func245.trans (congrArg some (by kernel_rfl))
 f197 := Tryz.func246.trans (congrArg some (by kernel_rfl))
 f217 := Tryz.func259.trans (congrArg some (by kernel_rfl))
 f218 := Tryz.func247.trans (congrArg some (by kernel_rfl))
 f219 := Tryz.func248.trans (congrArg some (by kernel_rfl))
 f221 := Tryz.func225.trans (congrArg some (by kernel_rfl))
 f224 := Tryz.func261.trans (congrArg some (by kernel_rfl))
 f225 := Tryz.func260.trans (congrArg some (by kernel_rfl))
 f260 := Tryz.func258.trans (congrArg some (by kernel_rfl))
 f266 := Tryz.func266.trans (congrArg some (by kernel_rfl))
 f267 := Tryz.func262.trans (congrArg some (by kernel_rfl))
 f268 := Tryz.func233.trans (congrArg some (by kernel_rfl))
 f314 := Tryz.func267.trans (congrArg some (by kernel_rfl))
 t0 := Tryz.underlying0
 a0 := Tryz.isAgg0
 z0 := Tryz.sizeOf0
 v0 := Tryz.zeroValue0
 t3 := Tryz.underlying3
 a3 := Tryz.isAgg3
 z3 := Tryz.sizeOf3
 v3 := Tryz.zeroValue3
 t4 := Tryz.underlying4
 a4 := Tryz.isAgg4
 z4 := Tryz.sizeOf4
 v4 := Tryz.zeroValue4
 t5 := Tryz.underlying5
 a5 := Tryz.isAgg5
 z5 := Tryz.sizeOf5
 v5 := Tryz.zeroValue5
 t9 := Tryz.underlying9
 a9 := Tryz.isAgg9
 z9 := Tryz.sizeOf9
 v9 := Tryz.zeroValue9
 t21 := Tryz.underlying21
 a21 := Tryz.isAgg21
 z21 := Tryz.sizeOf21
 v21 := Tryz.zeroValue21
 t31 := Tryz.underlying155
 a31 := Tryz.isAgg155
 z31 := Tryz.sizeOf155
 v31 := Tryz.zeroValue155
 t46 := Tryz.underlying315
 a46 := Tryz.isAgg315
 z46 := Tryz.sizeOf315
 v46 := Tryz.zeroValue315
 t51 := Tryz.underlying158
 a51 := Tryz.isAgg158
 z51 := Tryz.sizeOf158
 v51 := Tryz.zeroValue158
 t105 := Tryz.underlying323
 a105 := Tryz.isAgg323
 z105 := Tryz.sizeOf323
 v105 := Tryz.zeroValue323
 t119 := Tryz.underlying334
 a119 := Tryz.isAgg334
 z119 := Tryz.sizeOf334
 t138 := Tryz.underlying336
 a138 := Tryz.isAgg336
 z138 := Tryz.sizeOf336
 v138 := Tryz.zeroValue336
 t139 := Tryz.underlying337
 a139 := Tryz.isAgg337
 z139 := Tryz.sizeOf337
 v139 := Tryz.zeroValue337
 t146 := Tryz.underlying338
 a146 := Tryz.isAgg338
 z146 := Tryz.sizeOf338
 v146 := Tryz.zeroValue338
 g1 := by kernel_rfl
 g3 := by kernel_rfl
 g4 := by kernel_rfl }
end Go.Proofs
namespace Go.Proofs.YtmafmebcgmegeaaGreatDoor
def cutStep (b : UInt8) (st : List (List UInt8) × List UInt8) (c : UInt8) : List (List UInt8) × List UInt8 := if c = b then (st.1 ++ [st.2], []) else (st.1, st.2 ++ [c])
def cutSt (b : UInt8) (l : List UInt8) : List (List UInt8) × List UInt8 := l.foldl (cutStep b) ([], [])
theorem cutSt_snoc (b : UInt8) (l : List UInt8) (c : UInt8) : cutSt b (l ++ [c]) = cutStep b (cutSt b l) c := by
 unfold cutSt; rw [List.foldl_append]; rfl
theorem cutStep_hit (b : UInt8) (d : List (List UInt8)) (cur : List UInt8) : cutStep b (d, cur) b = (d ++ [cur], []) := by unfold cutStep; rw [if_pos rfl]
theorem cutStep_miss {b c : UInt8} (h : c ≠ b) (d : List (List UInt8)) (cur : List UInt8) : cutStep b (d, cur) c = (d, cur ++ [c]) := by unfold cutStep; rw [if_neg h]
theorem cutFold (b : UInt8) (l : List UInt8) : ∀ d cur, l.foldl (cutStep b) (d, cur) = (d ++ (l.foldl (cutStep b) ([], cur)).1, (l.foldl (cutStep b) ([], cur)).2) := by
 induction l with
 | nil => intro d cur; simp
 | cons c l ih =>
   intro d cur; rw [List.foldl_cons, List.foldl_cons]
   by_cases h : c = b
   ·subst h; rw [cutStep_hit, cutStep_hit, ih (d ++ [cur]) [], ih ([] ++ [cur]) []]
    simp
   ·rw [cutStep_miss h, cutStep_miss h, ih d (cur ++ [c])]
theorem cutFold_free (b : UInt8) (l : List UInt8) : b ∉ l -> ∀ d cur, l.foldl (cutStep b) (d, cur) = (d, cur ++ l) := by
 induction l with
 | nil => intro _ d cur; simp
 | cons c l ih =>
   intro h d cur; have h1 : c ≠ b := fun e => h (by simp [e])
   rw [List.foldl_cons]; have e : cutStep b (d, cur) c = (d, cur ++ [c]) := by unfold cutStep; rw [if_neg h1]
   rw [e, ih (fun m => h (by simp [m]))]
   simp
theorem cutSt_free (b : UInt8) (l : List UInt8) (h : b ∉ l) : cutSt b l = ([], l) := by
 unfold cutSt; rw [cutFold_free b l h]; simp
theorem cutSt_hit (b : UInt8) (p q : List UInt8) (h : b ∉ p) : cutSt b (p ++ b :: q) = (p :: (cutSt b q).1, (cutSt b q).2) := by
 unfold cutSt; rw [List.foldl_append, cutFold_free b p h, List.foldl_cons]; have e : cutStep b ([], [] ++ p) b = ([p], []) := by unfold cutStep; rw [if_pos rfl]; simp
 rw [e, cutFold b q [p] []]
 simp
theorem cutSt_free_all (b : UInt8) (l : List UInt8) : (∀ p ∈ (cutSt b l).1, b ∉ p) /\ b ∉ (cutSt b l).2 := by
 suffices H : ∀ (d : List (List UInt8)) (cur : List UInt8), (∀ p ∈ d, b ∉ p) -> b ∉ cur -> (∀ p ∈ (l.foldl (cutStep b) (d, cur)).1, b ∉ p) /\ b ∉ (l.foldl (cutStep b) (d, cur)).2 from H [] [] (by simp) (by simp)
 induction l with
 | nil => intro d cur h1 h2; exact ⟨h1, h2⟩
 | cons c l ih =>
   intro d cur h1 h2; rw [List.foldl_cons]
   by_cases h : c = b
   ·subst h; rw [cutStep_hit]; refine ih _ _ (fun p hp => ?_) (by simp); rcases List.mem_append.1 hp with hp | hp
    ·exact h1 p hp
    ·simp at hp; rw [hp]; exact h2
   ·rw [cutStep_miss h]; refine ih _ _ h1 (fun hm => ?_); rcases List.mem_append.1 hm with hm | hm
    ·exact h2 hm
    ·simp at hm; exact h hm.symm
theorem cutSt_back (b : UInt8) (l : List UInt8) : ((cutSt b l).1.map (· ++ [b])).flatten ++ (cutSt b l).2 = l := by
 suffices H : ∀ (d : List (List UInt8)) (cur : List UInt8), ((l.foldl (cutStep b) (d, cur)).1.map (· ++ [b])).flatten ++ (l.foldl (cutStep b) (d, cur)).2 = (d.map (· ++ [b])).flatten ++ cur ++ l from by
  have := H [] []
  simpa [cutSt] using this
 induction l with
 | nil => intro d cur; simp
 | cons c l ih =>
   intro d cur; rw [List.foldl_cons]
   by_cases h : c = b
   ·subst h; rw [cutStep_hit, ih (d ++ [cur]) []]
    simp
   ·rw [cutStep_miss h, ih d (cur ++ [c])]
    simp
theorem cutSt_suffix (b : UInt8) (l : List UInt8) : ∃ p, l = p ++ (cutSt b l).2 := ⟨_, (cutSt_back b l).symm⟩
theorem index_one (b : UInt8) : ∀ l : List UInt8, (b ∉ l /\ Lib.index l [b] = -1) ∨ ∃ p q, l = p ++ b :: q /\ b ∉ p /\ Lib.index l [b] = (p.length : Int)
 | [] => Or.inl ⟨by simp, by unfold Lib.index; simp⟩
 | c :: l => by
   by_cases h : c = b
   ·subst h; refine Or.inr ⟨[], l, rfl, by simp, ?_⟩; unfold Lib.index; simp
   ·rcases index_one b l with ⟨h1, h2⟩ | ⟨p, q, e, hp, hi⟩
    ·refine Or.inl ⟨by simp [h1, Ne.symm h], ?_⟩; unfold Lib.index; have : ([b].isPrefixOf (c :: l)) = false := by simp [List.isPrefixOf, Ne.symm h]
     simp [this, h2]
    ·refine Or.inr ⟨c :: p, q, by rw [e]; rfl, by simp [hp, Ne.symm h], ?_⟩; unfold Lib.index; have : ([b].isPrefixOf (c :: l)) = false := by simp [List.isPrefixOf, Ne.symm h]
     simp [this, hi]
theorem splitK_cuts (b : UInt8) (sv : Nat) (hsv : sv <= 1) : ∀ (k : Nat) (l : List UInt8), l.length <= k -> Lib.splitK [b] sv (Lib.count l [b]) l = (cutSt b l).1.map (fun p => p ++ [b].take sv) ++ [(cutSt b l).2]
 | k, l, hk => by
   rcases index_one b l with ⟨h1, h2⟩ | ⟨p, q, e, hp, hi⟩
   ·rw [Lib.count_miss h2, cutSt_free b l h1]; rfl
   ·have hq : q.length < k := by rw [e] at hk; simp at hk; omega
    obtain ⟨k', rfl⟩ : ∃ k', k = k' + 1 := ⟨k - 1, by omega⟩; have ed : l.drop (p.length + [b].length) = q := by rw [e]; simp [List.drop_append]
    rw [Lib.count_hit (by simp) hi, ed, Nat.add_comm]; unfold Lib.splitK; rw [hi]; rw [if_neg (fun e => by have := beq_iff_eq.1 e; omega)]
    have et : l.take ((p.length : Int).toNat + sv) = p ++ [b].take sv := by
     rw [e]; rcases Nat.le_one_iff_eq_zero_or_eq_one.1 hsv with rfl | rfl
     ·simp
     ·simp [List.take_append]; exact List.take_of_length_le (by omega)
    rw [et, Int.toNat_natCast, ed, splitK_cuts b sv hsv k' q (by omega), e, cutSt_hit b p q hp]
    rfl
theorem splitB_cuts (b : UInt8) (sv : Nat) (hsv : sv <= 1) (s : ByteArray) : Lib.splitB ⟨#[b]⟩ sv (Lib.countB s ⟨#[b]⟩) s = ((cutSt b s.data.toList).1.map (fun p => p ++ [b].take sv) ++ [(cutSt b s.data.toList).2]).map fun l => (⟨l.toArray⟩ : ByteArray) := by
 have h := Lib.splitB_data ⟨#[b]⟩ sv (Lib.countB s ⟨#[b]⟩) s; have h2 := splitK_cuts b sv hsv _ s.data.toList (Nat.le_refl _); have e : Lib.countB s ⟨#[b]⟩ = Lib.count s.data.toList [b] := rfl; have h3 := h.trans (show Lib.splitK (ByteArray.mk #[b]).data.toList sv (Lib.countB s ⟨#[b]⟩) s.data.toList = _ from h2); rw [<- h3, List.map_map]
 have : ((fun l : List UInt8 => (⟨l.toArray⟩ : ByteArray)) ∘ fun x : ByteArray => x.data.toList) = id := by
  funext x; cases x; simp
 rw [this, List.map_id]
theorem countB_cuts (b : UInt8) (s : ByteArray) : Lib.countB s ⟨#[b]⟩ = (cutSt b s.data.toList).1.length := by
 have h := congrArg List.length (splitB_cuts b 0 (by omega) s); rw [Lib.splitB_all ⟨#[b]⟩ (Nat.le_refl 1) _ _ _ rfl] at h
 simpa using h
theorem len_pos {α : Type} {l : List α} (h : l ≠ []) : 1 <= l.length := by
 cases l with
 | nil => exact absurd rfl h
 | cons a l => simp
def isDig (c : UInt8) : Bool := 48 <= c && c <= 57
def digB (k : Nat) (l : List UInt8) : Bool := !l.isEmpty && decide (l.length <= k) && !(decide (1 < l.length) && l.head? == some 48) && l.all isDig
def digV (l : List UInt8) : Int := l.foldl (fun n c => 10 * n + ((c.toNat : Int) - 48)) 0
theorem digV_snoc (l : List UInt8) (c : UInt8) : digV (l ++ [c]) = 10 * digV l + ((c.toNat : Int) - 48) := by unfold digV; rw [List.foldl_append]; rfl
theorem digV_bd (l : List UInt8) : (∀ c ∈ l, isDig c = true) -> 0 <= digV l /\ digV l < 10 ^ l.length := by
 suffices H : ∀ k, ∀ l : List UInt8, l.length = k -> (∀ c ∈ l, isDig c = true) -> 0 <= digV l /\ digV l < 10 ^ l.length from H _ l rfl
 intro k
 induction k with
 | zero => intro l hl _; rw [List.eq_nil_of_length_eq_zero hl]; exact ⟨by decide, by decide⟩
 | succ k ih =>
   intro l hl h
   obtain ⟨m, c, rfl⟩ : ∃ m c, l = m ++ [c] := by
    rcases List.eq_nil_or_concat l with e | ⟨m, c, e⟩
    ·rw [e] at hl; simp at hl
    ·exact ⟨m, c, by simpa using e⟩
   have h1 := ih m (by simpa using hl) (fun x hx => h x (by simp [hx])); have h2 := h c (by simp)
   have h3 : 48 <= c.toNat /\ c.toNat <= 57 := by
    unfold isDig at h2; simp only [Bool.and_eq_true, decide_eq_true_eq, UInt8.le_iff_toNat_le] at h2; exact h2
   rw [digV_snoc, List.length_append, List.length_singleton, Int.pow_succ]
   omega
theorem digB_digs {k : Nat} {l : List UInt8} (h : digB k l = true) : ∀ c ∈ l, isDig c = true := by
 unfold digB at h; simp only [Bool.and_eq_true, List.all_eq_true] at h; exact h.2
theorem digB_len {k : Nat} {l : List UInt8} (h : digB k l = true) : 1 <= l.length /\ l.length <= k := by
 unfold digB at h; simp only [Bool.and_eq_true, decide_eq_true_eq, Bool.not_eq_true', List.isEmpty_eq_false_iff] at h; have := len_pos h.1.1.1; exact ⟨this, h.1.1.2⟩
theorem dig_of {c : UInt8} (h : isDig c = true) : 48 <= c.toNat /\ c.toNat <= 57 := by
 unfold isDig at h; simp only [Bool.and_eq_true, decide_eq_true_eq, UInt8.le_iff_toNat_le] at h; exact h
theorem dec_snoc (n : Nat) (h : ¬ n < 10) : Lib.decDigits n = Lib.decDigits (n / 10) ++ [UInt8.ofNat (48 + n % 10)] := by
 rw [Lib.decDigits]; rw [dif_neg h]
def linesOf (l : List UInt8) : List (List UInt8) := (cutSt 10 l).1.map (· ++ [10]) ++ if (cutSt 10 l).2 = [] then [] else [(cutSt 10 l).2]
theorem linesOf_back (l : List UInt8) : (linesOf l).flatten = l := by
 have h := cutSt_back 10 l; unfold linesOf
 by_cases e : (cutSt 10 l).2 = []
 ·rw [if_pos e, List.append_nil]; rw [e, List.append_nil] at h; exact h
 ·rw [if_neg e, List.flatten_append]
  simpa using h
end Go.Proofs.YtmafmebcgmegeaaGreatDoor
