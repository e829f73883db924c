/- Texts Qh Qi Qs Ib9 Iu Iw Ix Ql Qn of the proof. -/
import Derived.Test.YtmafmebcgmegeaaGreatDoorCards
import Derived.Test.YtmafmebcgmegeaaGreatDoorTie
import Derived.ProofKit
import Derived.OpenShut
import Derived.Deep.DeepHandedRow
import Derived.Lib.LaidTab
import Derived.Stop.LaidErr
import Derived.Carry
import Derived.ChangeSlices
import Derived.Test.YtmafmebcgmegeaaGreatDoorWt1
import Derived.Test.YtmafmebcgmegeaaGreatDoorWt30
import Derived.Deep.Slices
import Derived.Deep.Strs
import Derived.ChangeMaps5
import Derived.ChangeArms
import Derived.ChangeSame
import Derived.Test.YtmafmebcgmegeaaGreatDoorWt16
import Derived.Test.YtmafmebcgmegeaaGreatDoorWt17
import Derived.Test.YtmafmebcgmegeaaGreatDoorWt5
import Derived.Test.YtmafmebcgmegeaaGreatDoorWt3
import Derived.BigQuiet
import Derived.Test.YtmafmebcgmegeaaGreatDoorWt22
namespace Go.Proofs.YtmafmebcgmegeaaGreatDoor
open Go.ChangeShapes Go.WideShapes Go.ChangeAt Go.RowKit
theorem laidOutA : laidOutB Tryz.prog = true := by kernel_rfl
theorem cells_slice {v : Value} {a : Option Addr} {n c : Nat} (hv : ∃ a l c, v = .slice a l c) (h : v.cells.toList = [.slice a n c]) : v = .slice a n c := by
  obtain ⟨a', l', c', rfl⟩ := hv
  simpa [Value.cells] using h
theorem own : ownKnob Tryz.prog.godebug = none := by kernel_rfl
theorem cellsInt : Tryz.prog.cellsOf 3 = 1 := by kernel_rfl
section
variable {H : Type} {enc : TypeId × Value → H} {P : Program}
theorem post_of_below {f : Func} {s : ChangeSpec} {apart fresh handsOn again : Bool} {W W' : World} {args : Array Value} {v : Value} {ds gs : List (DataW H)} {before pa pv : List MemPlace}
    (hW : DataW.Whole enc P f.params.toList s.vars apart W args.toList ds gs before)
    (hres : ∀ (b : Nat) (sp : Nat → Bool) (hd : Bool), DataW.TrodAll enc P W' b sp hd f.resultTypes.toList (v.resultList f.resultTypes.size) (s.fn H (ds ++ gs)).results [])
    (hargs : ∀ sp : Nat → Bool, (∀ p ∈ before, sp p.block = true) → DataW.TrodAll enc P W' 0 sp true f.params.toList args.toList (s.fn H (ds ++ gs)).args pa)
    (hvars : ∀ sp : Nat → Bool, (∀ p ∈ before, sp p.block = true) → DataW.TrodVars enc P W' sp s.vars (s.fn H (ds ++ gs)).vars pv)
    (hps : before = pa ++ pv) (hb : Below W.heap.size W W')
    (hok : ∀ (j : Nat) (t : TypeId) (r : Value), f.resultTypes[j]? = some t → (v.resultList f.resultTypes.size)[j]? = some r → Value.okWide P W' .any 0 t r) :
    s.post enc P f apart fresh handsOn again W args v W' := by
  have hlt : ∀ p ∈ before, p.block < W.heap.size := fun p hp => hW.lt p hp
  have hold : ∀ p ∈ before, (fun b => decide (b < W.heap.size)) p.block = true := fun p hp => by simpa using hlt p hp
  refine ⟨ds, gs, before, [], pa, pv, hW, hres _ _ _, hargs _ hold, hvars _ hold, World.keptBut_mono (fun p hp => ⟨hp, ?_⟩) (hb.frame (· ∈ before)), fun _ => ?_⟩
  · rw [hps, List.mem_append] at hp
    exact Or.inr hp
  · obtain ⟨_, _, _, _, _, hz, hn⟩ := hW
    refine ⟨hok, _, _, ([] ++ pa) ++ pv, ⟨[] ++ pa, pv, trodAll_append (hargs _ (fun _ _ => rfl)) (hres _ _ _), hvars _ (fun _ _ => rfl), rfl, ?_, ?_⟩, ?_⟩
    · intro b off hp
      have hin : MemPlace.cell b off ∈ before := by rw [hps]; simpa using hp
      rw [hb.frozen (hlt _ hin)]
      exact hz b off hin
    · intro ha
      have := hn ha
      rw [hps] at this
      simpa using this
    · intro p hp _
      rw [hps]
      simpa using hp
end
theorem gPowType : (Tryz.prog.globals[3]?).map (·.type) = some 329 := by kernel_rfl
theorem cellsPow : Tryz.prog.cellsOf 329 = 20 := by kernel_rfl
theorem cellsU64 : Tryz.prog.cellsOf 318 = 1 := by kernel_rfl
theorem gWords : Tryz.prog.globalNamed "flyover/source.firstWords" = some 1 := by kernel_rfl
theorem gWordsType : (Tryz.prog.globals[1]?).map (·.type) = some 229 := by kernel_rfl
theorem cellsString : Tryz.prog.cellsOf 9 = 1 := by kernel_rfl
theorem gTurned : Tryz.prog.globalNamed "flyover/flyoverlaw02.turned" = some 0 := by kernel_rfl
theorem gTurnedType : (Tryz.prog.globals[0]?).map (·.type) = some 165 := by kernel_rfl
theorem cellsPoint : Tryz.prog.cellsOf 30 = 2 := by kernel_rfl
/-- The variables that the laws list. -/
abbrev laidFive : List (String × DataW Unit) := [("math/bits.deBruijn32tab", Rows.laid_math_bits_deBruijn32tab), ("math/bits.deBruijn64tab", Rows.laid_math_bits_deBruijn64tab), ("internal/strconv.uint64pow10", Rows.laid_internal_strconv_uint64pow10), ("flyover/source.firstWords", Rows.laid_flyover_source_firstWords), ("flyover/flyoverlaw02.turned", Rows.laid_flyover_flyoverlaw02_turned)]
theorem tab_laid5 {W : World} (h : laidMetH Tryz.prog laidFive W) : Tab W := by
  have h2 : laidMet Tryz.prog [("internal/strconv.uint64pow10", Rows.laid_internal_strconv_uint64pow10), ("flyover/source.firstWords", Rows.laid_flyover_source_firstWords), ("flyover/flyoverlaw02.turned", Rows.laid_flyover_flyoverlaw02_turned)] W := laidMet.tail (laidMet.tail h)
  exact Lib.tabIs_of_head (rest := [("flyover/source.firstWords", Rows.laid_flyover_source_firstWords), ("flyover/flyoverlaw02.turned", Rows.laid_flyover_flyoverlaw02_turned)]) gPow gPowType Tryz.underlying329 Tryz.underlying318 cellsU64 cellsPow h2
set_option maxRecDepth 100000 in
theorem words_laid5 {W : World} (h : laidMetH Tryz.prog laidFive W) : FirstWords W := by
  have h2 : laidMet Tryz.prog [("flyover/source.firstWords", Rows.laid_flyover_source_firstWords), ("flyover/flyoverlaw02.turned", Rows.laid_flyover_flyoverlaw02_turned)] W := laidMet.tail (laidMet.tail (laidMet.tail h))
  obtain ⟨ps, ⟨g', t', cs, fuel, p, q, hg', ht', hvar, hd, _, _⟩, _⟩ := h2
  obtain rfl := Option.some.inj (gWords.symm.trans hg')
  obtain rfl := Option.some.inj (gWordsType.symm.trans ht')
  obtain ⟨ys, m, _, hx, hl, hyl, hg⟩ := DataW.trod_array Tryz.underlying229 hd
  have hx1 := congrArg Prod.fst hx
  intro i hi
  have g := hg i hi
  rw [List.getElem?_eq_getElem (by omega)] at g
  obtain ⟨z, q, hz, _⟩ := DataW.trod_string Tryz.underlying9 g
  change List.take (Tryz.prog.cellsOf 9) (List.drop (i * Tryz.prog.cellsOf 9) cs.toList) = _ at q
  rw [cellsString, Nat.mul_one] at q
  have hc : cs[i]? = some (.string z) := by
    have := congrArg (fun l => l[0]?) q
    simpa [List.getElem?_take, List.getElem?_drop] using this
  have h3 := World.var?_cell gWords hvar i
  rw [h3, hc]
  have h4 : (ys.map (·.1))[i]? = some (DataW.lit (.string z.data.toList)) := by
    rw [List.getElem?_map, List.getElem?_eq_getElem (by omega), Option.map_some, hz]
  have h5 : (ys.map (·.1)) = [.lit (.string [116, 121, 112, 101]), .lit (.string [115, 104, 97, 114, 101, 115]), .lit (.string [100, 105, 114, 101, 99, 116]), .lit (.string [115, 113, 117, 97, 114, 101, 115]), .lit (.string [112, 111, 119, 101, 114])] := by
    have := hx1.symm
    simpa [Rows.laid_flyover_source_firstWords] using this
  rw [h5] at h4
  have key : ∀ l : List UInt8, z.data.toList = l → z = ⟨l.toArray⟩ := fun l e => by
    cases z; simp at e; rw [← e]
  match i, hi with
  | 0, _ => simp at h4; rw [key _ h4.symm]; rfl
  | 1, _ => simp at h4; rw [key _ h4.symm]; rfl
  | 2, _ => simp at h4; rw [key _ h4.symm]; rfl
  | 3, _ => simp at h4; rw [key _ h4.symm]; rfl
  | 4, _ => simp at h4; rw [key _ h4.symm]; rfl
set_option maxRecDepth 100000 in
theorem turned_laid5 {W : World} (h : laidMetH Tryz.prog laidFive W) : Turned W := by
  have h2 : laidMet Tryz.prog [("flyover/flyoverlaw02.turned", Rows.laid_flyover_flyoverlaw02_turned)] W := laidMet.tail (laidMet.tail (laidMet.tail (laidMet.tail h)))
  obtain ⟨ps, ⟨g', t', cs, fuel, p, q, hg', ht', hvar, hd, _, _⟩, _⟩ := h2
  obtain rfl := Option.some.inj (gTurned.symm.trans hg')
  obtain rfl := Option.some.inj (gTurnedType.symm.trans ht')
  obtain ⟨ys, m, _, hx, hl, hyl, hg⟩ := DataW.trod_array Tryz.underlying165 hd
  have hx1 := congrArg Prod.fst hx
  intro i hi
  have g := hg i hi
  rw [List.getElem?_eq_getElem (by omega)] at g
  obtain ⟨y0, y1, n, hy, _, t0, t1⟩ := trod_struct2 Tryz.underlying30 g
  obtain ⟨a, q0, hz0, _⟩ := DataW.trod_int Tryz.underlying3 t0
  obtain ⟨b, q1, hz1, _⟩ := DataW.trod_int Tryz.underlying3 t1
  change List.take (Tryz.prog.cellsOf 3) (List.drop 0 (List.take (Tryz.prog.cellsOf 30) (List.drop (i * Tryz.prog.cellsOf 30) cs.toList))) = _ at q0
  change List.take (Tryz.prog.cellsOf 3) (List.drop 1 (List.take (Tryz.prog.cellsOf 30) (List.drop (i * Tryz.prog.cellsOf 30) cs.toList))) = _ at q1
  rw [cellsInt, cellsPoint] at q0 q1
  have hc0 : cs[i * 2]? = some (.int .i64 a) := by
    have := congrArg (fun l => l[0]?) q0
    simpa [List.getElem?_take, List.getElem?_drop] using this
  have hc1 : cs[i * 2 + 1]? = some (.int .i64 b) := by
    have := congrArg (fun l => l[0]?) q1
    simpa [List.getElem?_take, List.getElem?_drop] using this
  rw [World.var?_cell gTurned hvar (i * 2), World.var?_cell gTurned hvar (i * 2 + 1), hc0, hc1]
  have h4 : (ys.map (·.1))[i]? = some (DataW.agg [.lit (.int .i64 a), .lit (.int .i64 b)]) := by
    rw [List.getElem?_map, List.getElem?_eq_getElem (by omega), Option.map_some, hy, hz0, hz1]
  have h5 : (ys.map (·.1)) = [.agg [.lit (.int .i64 3), .lit (.int .i64 1)], .agg [.lit (.int .i64 2), .lit (.int .i64 2)], .agg [.lit (.int .i64 0), .lit (.int .i64 5)], .agg [.lit (.int .i64 (-2)), .lit (.int .i64 2)], .agg [.lit (.int .i64 (-3)), .lit (.int .i64 0)], .agg [.lit (.int .i64 (-1)), .lit (.int .i64 (-1))], .agg [.lit (.int .i64 0), .lit (.int .i64 (-4))], .agg [.lit (.int .i64 2), .lit (.int .i64 (-2))]] := by
    have := hx1.symm
    simpa [Rows.laid_flyover_flyoverlaw02_turned] using this
  rw [h5] at h4
  match i, hi with
  | 0, _ => simp at h4; rw [← h4.1, ← h4.2]; exact ⟨rfl, rfl⟩
  | 1, _ => simp at h4; rw [← h4.1, ← h4.2]; exact ⟨rfl, rfl⟩
  | 2, _ => simp at h4; rw [← h4.1, ← h4.2]; exact ⟨rfl, rfl⟩
  | 3, _ => simp at h4; rw [← h4.1, ← h4.2]; exact ⟨rfl, rfl⟩
  | 4, _ => simp at h4; rw [← h4.1, ← h4.2]; exact ⟨rfl, rfl⟩
  | 5, _ => simp at h4; rw [← h4.1, ← h4.2]; exact ⟨rfl, rfl⟩
  | 6, _ => simp at h4; rw [← h4.1, ← h4.2]; exact ⟨rfl, rfl⟩
  | 7, _ => simp at h4; rw [← h4.1, ← h4.2]; exact ⟨rfl, rfl⟩
/-- A block's cells, the rest as it was. -/
def lay (g : Nat) (cs : Array Value) (h : Array Obj) : Array Obj := h.modify g fun
  | .cells _ t frozen => .cells cs t frozen
  | o => o
def pow10Vals : Array Value := #[.int .u64 1, .int .u64 10, .int .u64 100, .int .u64 1000, .int .u64 10000, .int .u64 100000, .int .u64 1000000, .int .u64 10000000, .int .u64 100000000, .int .u64 1000000000, .int .u64 10000000000, .int .u64 100000000000, .int .u64 1000000000000, .int .u64 10000000000000, .int .u64 100000000000000, .int .u64 1000000000000000, .int .u64 10000000000000000, .int .u64 100000000000000000, .int .u64 1000000000000000000, .int .u64 10000000000000000000]
def tab32 : List Int := [0, 1, 28, 2, 29, 14, 24, 3, 30, 22, 20, 15, 25, 17, 4, 8, 31, 27, 13, 23, 21, 19, 16, 7, 26, 12, 18, 6, 11, 5, 10, 9]
def tab64 : List Int := [0, 1, 56, 2, 57, 49, 28, 3, 61, 58, 42, 50, 38, 29, 17, 4, 62, 47, 59, 36, 45, 43, 51, 22, 53, 39, 33, 30, 24, 18, 12, 5, 63, 55, 48, 27, 60, 41, 37, 16, 46, 35, 44, 21, 52, 32, 23, 11, 54, 26, 40, 15, 34, 20, 31, 10, 25, 14, 19, 9, 13, 8, 7, 6]
def wordVals : Array Value := #[.string ⟨#[116, 121, 112, 101]⟩, .string ⟨#[115, 104, 97, 114, 101, 115]⟩, .string ⟨#[100, 105, 114, 101, 99, 116]⟩, .string ⟨#[115, 113, 117, 97, 114, 101, 115]⟩, .string ⟨#[112, 111, 119, 101, 114]⟩]
def laidHeap5 (h : Array Obj) : Array Obj := lay 0 turnA (lay 1 wordVals (lay 3 pow10Vals (lay 6 (tab32.map (Value.int .u8)).toArray (lay 7 (tab64.map (Value.int .u8)).toArray h))))
noncomputable def laidWorld5 (os : Os) : World := { World.holding Tryz.prog os ⟨#[], #[], []⟩ with heap := laidHeap5 (World.holding Tryz.prog os ⟨#[], #[], []⟩).heap }
section
variable {H : Type} {enc : TypeId × Value → H}
theorem args_stay {W W' : World} {sp : Nat → Bool} (hb : Below W.heap.size W W') : ∀ {ts : List TypeId} {vs : List Value} {ds : List (DataW H)} {ps : List MemPlace}, (∀ t ∈ ts, Tryz.prog.readableRec t = true ∧ t < Tryz.prog.types.size) →
    DataW.TrodAll enc Tryz.prog W 0 (fun _ => true) true ts vs ds ps → (∀ p ∈ ps, p.block < W.heap.size) → (∀ p ∈ ps, sp p.block = true) → DataW.TrodAll enc Tryz.prog W' 0 sp true ts vs ds ps
  | [], [], [], _, _, h, _, _ => h
  | t :: _, _ :: _, _ :: _, _, hT, ⟨p, q, h1, h2, e⟩, hl, hs => ⟨p, q, WideElems.Trod_stays laidOutA (hT t (List.mem_cons.2 (.inl rfl))).1 (hT t (List.mem_cons.2 (.inl rfl))).2 h1
      (fun x hx => hb.same (hl x (by rw [e]; exact List.mem_append_left _ hx))) (fun x hx => hs x (by rw [e]; exact List.mem_append_left _ hx)),
      args_stay hb (fun t ht => hT t (List.mem_cons.2 (.inr ht))) h2 (fun x hx => hl x (by rw [e]; exact List.mem_append_right _ hx)) (fun x hx => hs x (by rw [e]; exact List.mem_append_right _ hx)), e⟩
set_option maxRecDepth 100000 in
/-- What a law leaves: true, and its arguments as they were. -/
theorem law_post {f : Func} {s : ChangeSpec} {apart fresh handsOn again : Bool} {W W' : World} {args : Array Value} {ds gs : List (DataW H)} {before : List MemPlace}
    (hW : DataW.Whole enc Tryz.prog f.params.toList s.vars apart W args.toList ds gs before) (hv : s.vars = []) (hr : f.resultTypes = #[4]) (hT : ∀ t ∈ f.params.toList, Tryz.prog.readableRec t = true ∧ t < Tryz.prog.types.size)
    (hfn : s.fn H (ds ++ gs) = { results := [.lit (.bool true)], args := ds }) (hb : Below W.heap.size W W') :
    s.post enc Tryz.prog f apart fresh handsOn again W args (.bool true) W' := by
  have hlt : ∀ p ∈ before, p.block < W.heap.size := fun p hp => hW.lt p hp
  have hW1 := hW
  obtain ⟨p, q, hA, hV, rfl, hfz, hnd⟩ := hW1
  rw [hv] at hV
  obtain ⟨rfl, rfl⟩ := trodVars_none hV
  refine post_of_below (pa := p ++ []) (pv := []) hW (fun b sp hd => ?_) (fun sp hsp => ?_) (fun sp hsp => ?_) (by simp) hb (ok_one hr rfl (okWide_bool_mk Tryz.underlying4 _))
  · rw [hfn, hr]
    exact trodAll_mk1 (shut_bool Tryz.underlying4 _)
  · rw [hfn, List.append_nil]
    exact args_stay hb hT hA (fun x hx => hlt x (by simpa using hx)) (fun x hx => hsp x (by simpa using hx))
  · rw [hv, hfn]
    exact rfl
end
end Go.Proofs.YtmafmebcgmegeaaGreatDoor

namespace Go.Proofs.YtmafmebcgmegeaaGreatDoor
open Go.ChangeShapes Go.WideShapes Go.ChangeAt Go.RowKit
theorem at_of_take1 {cs : List Value} {k : Nat} {v : Value} (h : (cs.drop k).take 1 = [v]) : cs[k]? = some v := by
  have := congrArg (fun l => l[0]?) h
  simpa [List.getElem?_take, List.getElem?_drop] using this
theorem at_of_drop {cs : List Value} {k n j : Nat} {v : Value} (h : ((cs.drop k).take n)[j]? = some v) : cs[k + j]? = some v := by
  rw [List.getElem?_take] at h
  split at h
  · rwa [List.getElem?_drop] at h
  · cases h
section
variable {H : Type} {enc : TypeId × Value → H}
theorem cellsFx : Tryz.prog.cellsOf 140 = 5 := by kernel_rfl
theorem open_fxRow {W : World} {fuel : Nat} {cs : List Value} {x : DataW H × List MemPlace} (h : DataW.trod enc Tryz.prog W 0 (fun _ => true) true fuel 140 cs = some x) :
    ∃ P : Bell.Fx, cs[0]? = some (.int .i64 P.t) ∧ cs[1]? = some (.int .i64 P.x) ∧ cs[2]? = some (.int .i64 P.y) ∧ cs[3]? = some (.int .i64 P.z) ∧ cs[4]? = some (.int .i64 P.p) := by
  obtain ⟨y0, y1, y2, n, _, _, t0, t1, t2⟩ := Go.Deep.trod_struct3 Tryz.underlying140 h
  obtain ⟨t, q0, _⟩ := DataW.trod_int Tryz.underlying3 t0
  obtain ⟨p, q4, _⟩ := DataW.trod_int Tryz.underlying3 t2
  obtain ⟨u0, u1, u2, n2, _, _, v0, v1, v2⟩ := Go.Deep.trod_struct3 Tryz.underlying28 t1
  obtain ⟨a, r0, _⟩ := DataW.trod_int Tryz.underlying3 v0
  obtain ⟨b, r1, _⟩ := DataW.trod_int Tryz.underlying3 v1
  obtain ⟨c, r2, _⟩ := DataW.trod_int Tryz.underlying3 v2
  change List.take (Tryz.prog.cellsOf 3) (List.drop 0 cs) = _ at q0
  change List.take (Tryz.prog.cellsOf 3) (List.drop 4 cs) = _ at q4
  change List.take (Tryz.prog.cellsOf 3) (List.drop 0 (List.take (Tryz.prog.cellsOf 28) (List.drop 1 cs))) = _ at r0
  change List.take (Tryz.prog.cellsOf 3) (List.drop 1 (List.take (Tryz.prog.cellsOf 28) (List.drop 1 cs))) = _ at r1
  change List.take (Tryz.prog.cellsOf 3) (List.drop 2 (List.take (Tryz.prog.cellsOf 28) (List.drop 1 cs))) = _ at r2
  rw [cellsInt] at q0 q4 r0 r1 r2
  exact ⟨⟨t, a, b, c, p⟩, at_of_take1 q0, at_of_drop (k := 1) (j := 0) (at_of_take1 r0), at_of_drop (k := 1) (j := 1) (at_of_take1 r1), at_of_drop (k := 1) (j := 2) (at_of_take1 r2), at_of_take1 q4⟩
theorem open_track {W : World} {v : Value} {d : DataW H} {ps : List MemPlace} (h : DataW.Trod enc Tryz.prog W 0 (fun _ => true) true 62 v d ps) (hv : ∃ a l c, v = .slice a l c) :
    ∃ A n c l, v = .slice A n c ∧ TrAt W A n l := by
  obtain ⟨fuel, hn⟩ := h
  rcases Go.Deep.open_slice Tryz.underlying62 hn with ⟨hcs, _⟩ | ⟨a, len, cap, m, k, D, Pl, hcs, _, hl, hm, hmm, hx, hcell⟩
  · obtain rfl := cells_slice hv hcs
    exact ⟨none, 0, 0, [], rfl, rfl, fun h => by omega⟩
  · obtain rfl := cells_slice hv hcs
    simp only [if_true] at hmm
    have each : ∀ i, i < len → ∃ P : Bell.Fx, W.cell? (a.add (i * 5)) = some (.int .i64 P.t) ∧ W.cell? (a.add (i * 5 + 1)) = some (.int .i64 P.x) ∧ W.cell? (a.add (i * 5 + 2)) = some (.int .i64 P.y) ∧ W.cell? (a.add (i * 5 + 3)) = some (.int .i64 P.z) ∧ W.cell? (a.add (i * 5 + 4)) = some (.int .i64 P.p) := fun i hi => by
      obtain ⟨cs', h1, h2⟩ := hcell i (by omega)
      rw [cellsFx] at h1
      obtain ⟨_, _, hc⟩ := World.cells?_some h1
      obtain ⟨P, e0, e1, e2, e3, e4⟩ := open_fxRow h2
      refine ⟨P, ?_, ?_, ?_, ?_, ?_⟩
      · have := hc 0 (by omega); rw [Go.Deep.add_add, Nat.add_zero] at this; rw [this]; exact e0
      · have := hc 1 (by omega); rw [Go.Deep.add_add] at this; rw [this]; exact e1
      · have := hc 2 (by omega); rw [Go.Deep.add_add] at this; rw [this]; exact e2
      · have := hc 3 (by omega); rw [Go.Deep.add_add] at this; rw [this]; exact e3
      · have := hc 4 (by omega); rw [Go.Deep.add_add] at this; rw [this]; exact e4
    haveI : Inhabited Bell.Fx := ⟨⟨0, 0, 0, 0, 0⟩⟩
    obtain ⟨q, hq⟩ := Go.Deep.choose_lt each
    have hget : ∀ i, i < len → Bell.fxAt ((List.range len).map q) i = q i := fun i hi => by simp [Bell.fxAt, List.getD_eq_getElem?_getD, hi]
    refine ⟨some a, len, cap, (List.range len).map q, rfl, by simp, fun h0 => ?_⟩
    obtain ⟨b, off, spot⟩ := a
    have hspot : spot = none := by simpa [Addr.add] using World.cell?_spot (hq 0 h0).1
    subst hspot
    refine ⟨b, off, rfl, by simp, fun i hi => ?_⟩
    obtain ⟨e0, e1, e2, e3, e4⟩ := hq i hi
    rw [add_plain] at e0 e1 e2 e3 e4
    unfold FixAt
    rw [hget i hi]
    exact ⟨e0, by rw [Nat.add_assoc]; exact e1, by rw [Nat.add_assoc]; exact e2, by rw [Nat.add_assoc]; exact e3, by rw [Nat.add_assoc]; exact e4⟩
end
def rowDS : TypeDesc → Bool
  | .struct _ => true
  | .array _ _ => true
  | _ => false
theorem open_row_of {P : Program} {W : World} {r : Reach} {base : Nat} {t : TypeId} {v : Value} (n : Nat) {d : TypeDesc} (hu : P.underlying t = some d) (hd : rowDS d = true) (hC : P.cellsOf t = n) (ts : List TypeId) (hn : ts.length = n)
    (hts : P.cellTypes P.depth t = some ts) (hv : Value.okWide P W r base t v) :
    ∃ cs, v = .agg cs ∧ cs.size = n ∧ ∀ (i : Nat) (u : TypeId) (k : IntKind), ts[i]? = some u → P.underlying u = some (.int k) → ∃ z : Int, cs[i]? = some (.int k z) ∧ k.has z := by
  have hcs : ∃ cs, v = .agg cs ∧ cs.size = P.cellsOf t ∧ Row.okWide P W r base t cs := by
    unfold Value.okWide at hv
    rw [hu] at hv
    cases d <;> first | exact hv | (simp [rowDS] at hd)
  obtain ⟨cs, rfl, hsz, ts', h1, _, h2⟩ := hcs
  rw [hts] at h1
  cases h1
  rw [hC] at hsz
  refine ⟨cs, rfl, hsz, fun i u k hi hk => ?_⟩
  have hi0 : i < ts.length := by
    rcases Nat.lt_or_ge i ts.length with h | h
    · exact h
    · rw [List.getElem?_eq_none h] at hi; cases hi
  have hi' : i < cs.size := by omega
  obtain ⟨u', hu', hc⟩ := h2 i _ (Array.getElem?_eq_getElem hi')
  rw [Nat.mod_eq_of_lt hi0, hi] at hu'
  cases hu'
  have hw : Value.okWide P W r base u cs[i] := by
    unfold Value.okWide
    rw [hk]
    exact hc
  obtain ⟨z, hz⟩ := okWide_int hk hw
  refine ⟨z, by rw [Array.getElem?_eq_getElem hi', hz], ?_⟩
  rw [hz] at hc
  simp only [Cell.okWide, hk, Cell.ok] at hc
  exact hc.2
end Go.Proofs.YtmafmebcgmegeaaGreatDoor

namespace Go.Proofs.YtmafmebcgmegeaaGreatDoor
open Go.ChangeShapes Go.WideShapes Go.ChangeAt Go.RowKit
section
variable {H : Type} {enc : TypeId × Value → H}
end
set_option maxRecDepth 100000 in
theorem open_two {W : World} {r : Reach} {base : Nat} {v : Value} (hv : Value.okWide Tryz.prog W r base 63 v) : ∃ a b : Int, v = .agg #[.int .i64 a, .int .i64 b] := by
  obtain ⟨cs, rfl, hsz, h⟩ := open_row_of 2 Tryz.underlying63 rfl (by kernel_rfl) [3, 3] rfl (by kernel_rfl) hv
  obtain ⟨n0, h0, _⟩ := h 0 3 .i64 rfl Tryz.underlying3
  obtain ⟨n1, h1, _⟩ := h 1 3 .i64 rfl Tryz.underlying3
  refine ⟨n0, n1, ?_⟩
  congr 1
  apply Array.ext_getElem?
  intro i
  match i with
  | 0 => rw [h0]; rfl
  | 1 => rw [h1]; rfl
  | i + 2 => rw [Array.getElem?_eq_none (by omega)]; rfl
end Go.Proofs.YtmafmebcgmegeaaGreatDoor

namespace Go.Proofs.YtmafmebcgmegeaaGreatDoor
open Go.RowKit Go.Sort
/-- A number that is 0 where a fact holds alone. -/
def GR.zero (p : Prop) : GR := ⟨fun v _ => ∃ a : Int, v = .int .i64 a ∧ (a = 0 → p), fun h _ => h⟩
end Go.Proofs.YtmafmebcgmegeaaGreatDoor

namespace Go.Proofs.YtmafmebcgmegeaaGreatDoor
open Go.RowKit Go.Sort
theorem firstE4_and (a b c d : Int) : firstE [a, b, c, d] = andE (firstE [a, b, c]) d := by
  unfold andE
  by_cases h1 : a = 0 <;> by_cases h2 : b = 0 <;> by_cases h3 : c = 0 <;> by_cases h4 : d = 0 <;> simp_all [firstE]
theorem length_first {n : Nat} {k a b : Int} (ha : a = if decide ((n : Int) < 2) then 16 else 0) (hb : b = if decide (k < (n : Int)) then 5 else 0) : firstE [a, b] = lengthE n k := by
  unfold lengthE atMostE
  by_cases h1 : n < 2
  · rw [if_pos h1]
    have : a = 16 := by rw [ha, if_pos (by simpa using (by omega : (n : Int) < 2))]
    rw [this]; rfl
  · rw [if_neg h1]
    have : a = 0 := by rw [ha, if_neg (by simp; omega)]
    rw [this, hb]
    by_cases h2 : k < (n : Int)
    · rw [if_pos (by simpa using h2), if_pos h2]; rfl
    · rw [if_neg (by simpa using h2), if_neg h2]; rfl
end Go.Proofs.YtmafmebcgmegeaaGreatDoor

namespace Go.Proofs.YtmafmebcgmegeaaGreatDoor
open Go.RowKit Go.Sort
set_option maxHeartbeats 4000000 in
set_option maxRecDepth 100000 in
theorem refTrack_full (A : Option Addr) (n c : Nat) (l : List Bell.Fx) (w : World) (hl : TrAt w A n l) (hn : n ≤ 140737488351232) :
    Calls Tryz.prog 39 #[.slice A n c] w fun e w' => e = .returned (.int .i64 (trackE l)) ∧ Below w.heap.size w w' := by
  have HL := Lib.hid hl
  obtain ⟨V, hV⟩ : ∃ V, V = trackE l := ⟨_, rfl⟩
  have HV : Hid (V = andE (lengthE n 16) (andE (firstR (fxAtE l) n) (lastE l))) := by show _ = _; rw [hV, ← hl.1]; rfl
  rw [← hV]
  clear hl hV
  go_enter Tryz.func39, Tryz.ntmps39
  go_wp2_with fail
  refine (refWhen_let _ _ _).mono ?_
  rintro e w1 ⟨a, rfl, ha, rfl⟩
  go_wp2_with fail
  refine (refWhen_let _ _ _).mono ?_
  rintro e w2 ⟨b, rfl, hb, rfl⟩
  go_wp2_with fail
  refine (refFirst2 _ _ a b _ (by go_simp) (by go_simp)).mono ?_
  have hab := length_first ha.out hb.out
  obtain ⟨E, hE⟩ : ∃ E, E = lengthE n 16 := ⟨_, rfl⟩
  rw [hab, ← hE]
  rw [← hE] at HV
  have KE := Lib.hid hE
  clear hE hab ha hb
  rintro e w4 ⟨rfl, rfl⟩
  obtain ⟨w5, hw5⟩ : ∃ W, W = w2.alloc (.cells #[.int .i64 a, .int .i64 b] 3) := ⟨_, rfl⟩
  rw [← hw5]
  have hbl : Below w2.heap.size w2 w5 := by rw [hw5]; exact (Below.refl _ _).alloc (Nat.le_refl _) _
  have H5 := Lib.hid (HL.out.keep hbl)
  have HB := Lib.hid hbl
  clear hw5 hbl HL
  by_cases he : E = 0
  case neg =>
    have h1 : (E != 0) = true := by simp [he]
    have hr : Hid (V = E) := by show _ = _; rw [HV.out, andE_n he]
    go_wp2
    go_ret
    exact ⟨ret_int hr.out.symm, HB.out⟩
  have h1 : (E != 0) = false := by simp [he]
  have n1 : 2 ≤ n := by have := lengthE_zero2 (k := 16) (KE.out.symm.trans he); omega
  replace HV : Hid (V = andE (firstR (fxAtE l) n) (lastE l)) := by show _ = _; rw [HV.out, andE_0 he]
  obtain ⟨bb, off, rfl, hc⟩ := H5.out.2 (by omega)
  clear hc KE he
  go_wp2
  go_loopw [2, 4, 5] (fun _ k _ wr => ∃ j : Nat, j ≤ n ∧ k = .int .i64 j ∧ Hid (∀ i, i < j → fxAtE l i = 0) ∧ Hid (Below w5.heap.size w5 wr)) (fun _ k _ _ => n - (intOf k).toNat)
  case atStart => exact ⟨0, Nat.zero_le _, rfl, (fun i hi => by omega), Below.refl _ _⟩
  case round =>
    clear h1
    obtain ⟨j, hj, rfl, hz, hb⟩ := hrel
    by_cases hlt : j < n
    · obtain ⟨b', o', e', hcc⟩ := (H5.out.keep hb.out).2 (by omega)
      cases e'
      obtain ⟨h0, h1, h2, h3, h4⟩ := hcc.2 j hlt
      have HJ : Hid (fxAtE l j = andE (fixE (Bell.fxAt l j).t (Bell.fxAt l j).x (Bell.fxAt l j).y (Bell.fxAt l j).z (Bell.fxAt l j).p) (if 0 < j ∧ (Bell.fxAt l j).t ≤ (Bell.fxAt l (j - 1)).t then 11 else 0)) := rfl
      have HQQ := Lib.hid (fun p (hp : p < n) => hcc.2 p hp)
      obtain ⟨tt, htt⟩ : ∃ x, x = (Bell.fxAt l j).t := ⟨_, rfl⟩
      obtain ⟨x, hx⟩ : ∃ x, x = (Bell.fxAt l j).x := ⟨_, rfl⟩
      obtain ⟨y, hy⟩ : ∃ y, y = (Bell.fxAt l j).y := ⟨_, rfl⟩
      obtain ⟨z, hz0⟩ : ∃ z, z = (Bell.fxAt l j).z := ⟨_, rfl⟩
      obtain ⟨pw, hpw⟩ : ∃ z, z = (Bell.fxAt l j).p := ⟨_, rfl⟩
      rw [← htt] at h0 HJ
      rw [← hx] at h1 HJ
      rw [← hy] at h2 HJ
      rw [← hz0] at h3 HJ
      rw [← hpw] at h4 HJ
      have a0 := fun d os => cell_regrown h0 d os
      have a1 := fun d os => cell_regrown h1 d os
      have a2 := fun d os => cell_regrown h2 d os
      have a3 := fun d os => cell_regrown h3 d os
      have a4 := fun d os => cell_regrown h4 d os
      have ct := fun d os => Calls.regrown_of (Calls.grow_same (refTick_st tt (grow (redrawn wr d) os)))
      have cp := fun d os => Calls.regrown_of (Calls.grow_same (refPower_st pw (grow (redrawn wr d) os)))
      have cl := fun d os => Calls.regrown_of (refPlace_any x y z (grow (redrawn wr d) os))
      clear htt hx hy hz0 hpw h0 h1 h2 h3 h4 hcc
      have pl : (j : Int) < (n : Int) := by omega
      rcases Nat.eq_zero_or_pos j with rfl | hp
      · simp only [Nat.zero_mul, Nat.add_zero] at a0 a1 a2 a3 a4
        obtain ⟨f, hf⟩ : ∃ f : Int, f = if false = true then 11 else 0 := ⟨_, rfl⟩
        have HFf := Lib.hid hf
        have cw := fun d os => Calls.regrown_of (Calls.grow_same (refWhen_as (grow (redrawn wr d) os) hf))
        have HEQ : Hid (firstE [withinE tt 0 100000000, placeE x y z, withinE pw 1 100, f] = fxAtE l 0) := by
          show _ = _
          rw [show firstE [withinE tt 0 100000000, placeE x y z, withinE pw 1 100, f] = andE (fixE tt x y z pw) f from firstE4_and _ _ _ _, HJ.out, HFf.out]
          simp
        clear hf HJ HFf HQQ
        go_wp2
        refine wp_region_below_tail 36 (by kernel_rfl) (by kernel_rfl) ?_
        simp only [List.take_succ_cons, List.take_zero, List.drop_succ_cons, List.drop_zero]
        iterate 5 (go_big_quiet_step (fail))
        go_big_quiet_step (exact ct _ _)
        clear ct
        iterate 5 (go_big_quiet_step (fail))
        go_big_quiet_step (exact cl _ _)
        clear cl a1 a2 a3
        iterate 5 (go_big_quiet_step (fail))
        go_big_quiet_step (exact cp _ _)
        clear cp a4
        iterate 17 (go_big_quiet_step (fail))
        go_big_quiet_step (exact cw _ _)
        clear cw
        refine wpQuiet_nil ?_
        intro w6 hw'
        obtain ⟨⟨dq, osq⟩, hw''⟩ := hw'
        have HB6 := Lib.hid (hb.out.trans ((below_regrown wr dq osq).mono hb.out.size))
        rw [← hw''] at HB6
        clear hw''
        go_wp2_with fail
        refine (refFirst4 _ _ (withinE tt 0 100000000) (placeE x y z) (withinE pw 1 100) f _ (by go_simp) (by go_simp) (by go_simp) (by go_simp)).mono ?_
        rw [HEQ.out]
        obtain ⟨F, hF⟩ : ∃ F, F = fxAtE l 0 := ⟨_, rfl⟩
        rw [← hF]
        have HF := Lib.hid hF
        clear hF
        rintro e w7 ⟨rfl, rfl⟩
        obtain ⟨w8, hw8⟩ : ∃ W, W = w6.alloc (.cells #[.int .i64 (withinE tt 0 100000000), .int .i64 (placeE x y z), .int .i64 (withinE pw 1 100), .int .i64 f] 3) := ⟨_, rfl⟩
        rw [← hw8]
        have HB8 : Hid (Below w5.heap.size w5 w8) := by show Below _ _ _; rw [hw8]; exact HB6.out.alloc HB6.out.size _
        clear hw8 HB6
        by_cases hf : F = 0
        · have h1 : (F != 0) = false := by simp [hf]
          have HF0 := Lib.hid hf
          clear hf
          go_wp2
          go_roundw
          case rel =>
            refine ⟨0 + 1, by omega, by go_num, fun i hi => ?_, HB8⟩
            by_cases hij : i < 0
            · exact hz.out i hij
            · obtain rfl : i = 0 := by omega
              exact HF.out.symm.trans HF0.out
          case measure => simp [intOf]; omega
        · have h1 : (F != 0) = true := by simp [hf]
          have hr : Hid (V = F) := by show _ = _; rw [HV.out, firstR_hit hlt hz.out (by rw [← HF.out]; exact hf), andE_n (by rw [← HF.out]; exact hf), HF.out]
          go_wp2
          go_ret
          exact ⟨ret_int hr.out.symm, HB.out.trans (HB8.out.mono HB.out.size)⟩
      · have g0 : decide (0 < j) = true := decide_eq_true hp
        have g1 : decide ((0 : Int) < (j : Int)) = true := decide_eq_true (by omega)
        have g2 : decide ((j : Int) = 0) = false := decide_eq_false (by omega)
        have g3 : ((j : Int) == 0) = false := by simp; omega
        obtain ⟨p, hpj⟩ : ∃ p, p + 1 = j := ⟨j - 1, by omega⟩
        obtain ⟨k0, _⟩ := HQQ.out p (by omega)
        have hp1 : j - 1 = p := by omega
        rw [hp1] at HJ
        obtain ⟨u, hu⟩ : ∃ u, u = (Bell.fxAt l p).t := ⟨_, rfl⟩
        rw [← hu] at k0 HJ
        have ap := fun d os => cell_regrown k0 d os
        have hmx : ∀ ts t W, (Builtin.max_ ts t #[.int .i64 0, .int .i64 ((j : Int) - 1)]).run Tryz.prog W = .ok (.int .i64 (p : Int)) W := fun ts t W => by
          rw [run_max2']; congr 2; omega
        have pl2 : (p : Int) < (n : Int) := by omega
        have wj : IntKind.i64.wrap ((j : Int) - 1) = (j : Int) - 1 := IntWalk.i64_in _ (by omega)
        obtain ⟨B, hB⟩ : ∃ B, decide (tt ≤ u) = B := ⟨_, rfl⟩
        obtain ⟨f, hf⟩ : ∃ f : Int, f = if B then 11 else 0 := ⟨_, rfl⟩
        have cw := fun d os => Calls.regrown_of (Calls.grow_same (refWhen_as (grow (redrawn wr d) os) hf))
        have HEQ : Hid (firstE [withinE tt 0 100000000, placeE x y z, withinE pw 1 100, f] = fxAtE l j) := by
          show _ = _
          rw [show firstE [withinE tt 0 100000000, placeE x y z, withinE pw 1 100, f] = andE (fixE tt x y z pw) f from firstE4_and _ _ _ _, HJ.out, hf, ← hB]
          congr 1
          by_cases h1 : tt ≤ u <;> simp [h1, hp]
        clear hu hf HJ HQQ k0 hpj hp1
        go_wp2
        refine wp_region_below_tail 36 (by kernel_rfl) (by kernel_rfl) ?_
        simp only [List.take_succ_cons, List.take_zero, List.drop_succ_cons, List.drop_zero]
        iterate 5 (go_big_quiet_step (fail))
        go_big_quiet_step (exact ct _ _)
        clear ct
        iterate 5 (go_big_quiet_step (fail))
        go_big_quiet_step (exact cl _ _)
        clear cl a1 a2 a3
        iterate 5 (go_big_quiet_step (fail))
        go_big_quiet_step (exact cp _ _)
        clear cp a4
        iterate 17 (go_big_quiet_step (fail))
        go_big_quiet_step (exact cw _ _)
        clear cw
        refine wpQuiet_nil ?_
        intro w6 hw'
        obtain ⟨⟨dq, osq⟩, hw''⟩ := hw'
        have HB6 := Lib.hid (hb.out.trans ((below_regrown wr dq osq).mono hb.out.size))
        rw [← hw''] at HB6
        clear hw''
        go_wp2_with fail
        refine (refFirst4 _ _ (withinE tt 0 100000000) (placeE x y z) (withinE pw 1 100) f _ (by go_simp) (by go_simp) (by go_simp) (by go_simp)).mono ?_
        rw [HEQ.out]
        obtain ⟨F, hF⟩ : ∃ F, F = fxAtE l j := ⟨_, rfl⟩
        rw [← hF]
        have HF := Lib.hid hF
        clear hF
        rintro e w7 ⟨rfl, rfl⟩
        obtain ⟨w8, hw8⟩ : ∃ W, W = w6.alloc (.cells #[.int .i64 (withinE tt 0 100000000), .int .i64 (placeE x y z), .int .i64 (withinE pw 1 100), .int .i64 f] 3) := ⟨_, rfl⟩
        rw [← hw8]
        have HB8 : Hid (Below w5.heap.size w5 w8) := by show Below _ _ _; rw [hw8]; exact HB6.out.alloc HB6.out.size _
        clear hw8 HB6
        by_cases hf : F = 0
        · have h1 : (F != 0) = false := by simp [hf]
          have HF0 := Lib.hid hf
          clear hf
          go_wp2
          go_roundw
          case rel =>
            refine ⟨j + 1, by omega, by go_num, fun i hi => ?_, HB8⟩
            by_cases hij : i < j
            · exact hz.out i hij
            · obtain rfl : i = j := by omega
              exact HF.out.symm.trans HF0.out
          case measure => simp [intOf]; omega
        · have h1 : (F != 0) = true := by simp [hf]
          have hr : Hid (V = F) := by show _ = _; rw [HV.out, firstR_hit hlt hz.out (by rw [← HF.out]; exact hf), andE_n (by rw [← HF.out]; exact hf), HF.out]
          go_wp2
          go_ret
          exact ⟨ret_int hr.out.symm, HB.out.trans (HB8.out.mono HB.out.size)⟩
    · obtain rfl : j = n := by omega
      replace HV : Hid (V = lastE l) := by show _ = _; rw [HV.out, firstR_miss hz.out, andE_0 rfl]
      obtain ⟨m, hm⟩ : ∃ m, m + 1 = j := ⟨j - 1, by omega⟩
      have HLN : Hid (l.length = j) := H5.out.1
      obtain ⟨b', o', e', hcc⟩ := (H5.out.keep hb.out).2 (by omega)
      cases e'
      have hA := (hcc.2 0 (by omega)).1
      have hZ := (hcc.2 m (by omega)).1
      have ga := goodFx_fix (andE_zero (hz.out 0 (by omega))).1
      have gz := goodFx_fix (andE_zero (hz.out m (by omega))).1
      have gA := ga.t0
      have gA2 := ga.t1
      have gZ := gz.t0
      have gZ2 := gz.t1
      have HVL : Hid (V = if 1000 < (Bell.fxAt l m).t - (Bell.fxAt l 0).t then 14 else 0) := by show _ = _; rw [HV.out]; unfold lastE; rw [HLN.out, show j - 1 = m by omega]
      obtain ⟨P, hP⟩ : ∃ P, P = Bell.fxAt l 0 := ⟨_, rfl⟩
      obtain ⟨Z, hZZ⟩ : ∃ Z, Z = Bell.fxAt l m := ⟨_, rfl⟩
      rw [← hP] at hA gA gA2 HVL
      rw [← hZZ] at hZ gZ gZ2 HVL
      simp only [Nat.zero_mul, Nat.add_zero] at hA
      have a0 := fun d os => cell_regrown hA d os
      have a1 := fun d os => cell_regrown hZ d os
      have w1 : IntKind.i64.wrap ((j : Int) - 1) = (m : Int) := by rw [IntWalk.i64_in _ (by omega)]; omega
      have pl : (m : Int) < (j : Int) := by omega
      have pl2 : (0 : Int) < (j : Int) := by omega
      obtain ⟨f, hf⟩ : ∃ f : Int, f = if decide (1000 < Z.t - P.t) = true then 14 else 0 := ⟨_, rfl⟩
      have cw := fun d os => Calls.regrown_of (Calls.grow_same (refWhen_as (grow (redrawn wr d) os) hf))
      have hr : Hid (V = f) := by show _ = _; rw [HVL.out, hf]; simp
      clear hm hA hZ hP hZZ hf hcc ga gz HVL
      go_wp2
      refine wp_region_below_tail 14 (by kernel_rfl) (by kernel_rfl) ?_
      simp only [List.take_succ_cons, List.take_zero, List.drop_succ_cons, List.drop_zero]
      iterate 13 (go_big_quiet_step (fail))
      go_big_quiet_step (exact cw _ _)
      refine wpQuiet_nil ?_
      intro w6 hw'
      obtain ⟨⟨dq, osq⟩, hw''⟩ := hw'
      have HB6 := Lib.hid (hb.out.trans ((below_regrown wr dq osq).mono hb.out.size))
      rw [← hw''] at HB6
      clear hw'' a0 a1 cw
      go_wp2
      go_ret
      exact ⟨ret_int hr.out.symm, HB.out.trans (HB6.out.mono HB.out.size)⟩
end Go.Proofs.YtmafmebcgmegeaaGreatDoor
