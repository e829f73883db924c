/- Texts Qh Qi Wu of the proof. -/
import Derived.Test.YtmafmebcgmegeaaGreatDoorCards
import Derived.Test.YtmafmebcgmegeaaGreatDoorTie
import Derived.ProofKit
import Derived.OpenShut
import Derived.Deep.DeepHandedRow
import Derived.Lib.LaidTab
import Derived.Stop.LaidErr
import Derived.Carry
import Derived.ChangeSlices
import Derived.Test.YtmafmebcgmegeaaGreatDoorEx1
import Derived.Test.YtmafmebcgmegeaaGreatDoorEx30
import Derived.Deep.Slices
import Derived.Deep.Strs
import Derived.ChangeMaps5
import Derived.ChangeArms
import Derived.ChangeSame
import Derived.Test.YtmafmebcgmegeaaGreatDoorEx16
namespace Go.Proofs.YtmafmebcgmegeaaGreatDoor
open Go.ChangeShapes Go.WideShapes Go.ChangeAt Go.RowKit
theorem laidOutA : laidOutB Tryz.prog = true := by kernel_rfl
theorem cells_slice {v : Value} {a : Option Addr} {n c : Nat} (hv : ∃ a l c, v = .slice a l c) (h : v.cells.toList = [.slice a n c]) : v = .slice a n c := by
  obtain ⟨a', l', c', rfl⟩ := hv
  simpa [Value.cells] using h
theorem own : ownKnob Tryz.prog.godebug = none := by kernel_rfl
theorem cellsInt : Tryz.prog.cellsOf 3 = 1 := by kernel_rfl
section
variable {H : Type} {enc : TypeId × Value → H} {P : Program}
theorem post_of_below {f : Func} {s : ChangeSpec} {apart fresh handsOn again : Bool} {W W' : World} {args : Array Value} {v : Value} {ds gs : List (DataW H)} {before pa pv : List MemPlace}
    (hW : DataW.Whole enc P f.params.toList s.vars apart W args.toList ds gs before)
    (hres : ∀ (b : Nat) (sp : Nat → Bool) (hd : Bool), DataW.TrodAll enc P W' b sp hd f.resultTypes.toList (v.resultList f.resultTypes.size) (s.fn H (ds ++ gs)).results [])
    (hargs : ∀ sp : Nat → Bool, (∀ p ∈ before, sp p.block = true) → DataW.TrodAll enc P W' 0 sp true f.params.toList args.toList (s.fn H (ds ++ gs)).args pa)
    (hvars : ∀ sp : Nat → Bool, (∀ p ∈ before, sp p.block = true) → DataW.TrodVars enc P W' sp s.vars (s.fn H (ds ++ gs)).vars pv)
    (hps : before = pa ++ pv) (hb : Below W.heap.size W W')
    (hok : ∀ (j : Nat) (t : TypeId) (r : Value), f.resultTypes[j]? = some t → (v.resultList f.resultTypes.size)[j]? = some r → Value.okWide P W' .any 0 t r) :
    s.post enc P f apart fresh handsOn again W args v W' := by
  have hlt : ∀ p ∈ before, p.block < W.heap.size := fun p hp => hW.lt p hp
  have hold : ∀ p ∈ before, (fun b => decide (b < W.heap.size)) p.block = true := fun p hp => by simpa using hlt p hp
  refine ⟨ds, gs, before, [], pa, pv, hW, hres _ _ _, hargs _ hold, hvars _ hold, World.keptBut_mono (fun p hp => ⟨hp, ?_⟩) (hb.frame (· ∈ before)), fun _ => ?_⟩
  · rw [hps, List.mem_append] at hp
    exact Or.inr hp
  · obtain ⟨_, _, _, _, _, hz, hn⟩ := hW
    refine ⟨hok, _, _, ([] ++ pa) ++ pv, ⟨[] ++ pa, pv, trodAll_append (hargs _ (fun _ _ => rfl)) (hres _ _ _), hvars _ (fun _ _ => rfl), rfl, ?_, ?_⟩, ?_⟩
    · intro b off hp
      have hin : MemPlace.cell b off ∈ before := by rw [hps]; simpa using hp
      rw [hb.frozen (hlt _ hin)]
      exact hz b off hin
    · intro ha
      have := hn ha
      rw [hps] at this
      simpa using this
    · intro p hp _
      rw [hps]
      simpa using hp
end
theorem gPowType : (Tryz.prog.globals[3]?).map (·.type) = some 329 := by kernel_rfl
theorem cellsPow : Tryz.prog.cellsOf 329 = 20 := by kernel_rfl
theorem cellsU64 : Tryz.prog.cellsOf 318 = 1 := by kernel_rfl
theorem gWords : Tryz.prog.globalNamed "flyover/source.firstWords" = some 1 := by kernel_rfl
theorem gWordsType : (Tryz.prog.globals[1]?).map (·.type) = some 229 := by kernel_rfl
theorem cellsString : Tryz.prog.cellsOf 9 = 1 := by kernel_rfl
theorem gTurned : Tryz.prog.globalNamed "flyover/flyoverlaw02.turned" = some 0 := by kernel_rfl
theorem gTurnedType : (Tryz.prog.globals[0]?).map (·.type) = some 165 := by kernel_rfl
theorem cellsPoint : Tryz.prog.cellsOf 30 = 2 := by kernel_rfl
/-- The variables that the laws list. -/
abbrev laidFive : List (String × DataW Unit) := [("math/bits.deBruijn32tab", Rows.laid_math_bits_deBruijn32tab), ("math/bits.deBruijn64tab", Rows.laid_math_bits_deBruijn64tab), ("internal/strconv.uint64pow10", Rows.laid_internal_strconv_uint64pow10), ("flyover/source.firstWords", Rows.laid_flyover_source_firstWords), ("flyover/flyoverlaw02.turned", Rows.laid_flyover_flyoverlaw02_turned)]
theorem tab_laid5 {W : World} (h : laidMetH Tryz.prog laidFive W) : Tab W := by
  have h2 : laidMet Tryz.prog [("internal/strconv.uint64pow10", Rows.laid_internal_strconv_uint64pow10), ("flyover/source.firstWords", Rows.laid_flyover_source_firstWords), ("flyover/flyoverlaw02.turned", Rows.laid_flyover_flyoverlaw02_turned)] W := laidMet.tail (laidMet.tail h)
  exact Lib.tabIs_of_head (rest := [("flyover/source.firstWords", Rows.laid_flyover_source_firstWords), ("flyover/flyoverlaw02.turned", Rows.laid_flyover_flyoverlaw02_turned)]) gPow gPowType Tryz.underlying329 Tryz.underlying318 cellsU64 cellsPow h2
set_option maxRecDepth 100000 in
theorem words_laid5 {W : World} (h : laidMetH Tryz.prog laidFive W) : FirstWords W := by
  have h2 : laidMet Tryz.prog [("flyover/source.firstWords", Rows.laid_flyover_source_firstWords), ("flyover/flyoverlaw02.turned", Rows.laid_flyover_flyoverlaw02_turned)] W := laidMet.tail (laidMet.tail (laidMet.tail h))
  obtain ⟨ps, ⟨g', t', cs, fuel, p, q, hg', ht', hvar, hd, _, _⟩, _⟩ := h2
  obtain rfl := Option.some.inj (gWords.symm.trans hg')
  obtain rfl := Option.some.inj (gWordsType.symm.trans ht')
  obtain ⟨ys, m, _, hx, hl, hyl, hg⟩ := DataW.trod_array Tryz.underlying229 hd
  have hx1 := congrArg Prod.fst hx
  intro i hi
  have g := hg i hi
  rw [List.getElem?_eq_getElem (by omega)] at g
  obtain ⟨z, q, hz, _⟩ := DataW.trod_string Tryz.underlying9 g
  change List.take (Tryz.prog.cellsOf 9) (List.drop (i * Tryz.prog.cellsOf 9) cs.toList) = _ at q
  rw [cellsString, Nat.mul_one] at q
  have hc : cs[i]? = some (.string z) := by
    have := congrArg (fun l => l[0]?) q
    simpa [List.getElem?_take, List.getElem?_drop] using this
  have h3 := World.var?_cell gWords hvar i
  rw [h3, hc]
  have h4 : (ys.map (·.1))[i]? = some (DataW.lit (.string z.data.toList)) := by
    rw [List.getElem?_map, List.getElem?_eq_getElem (by omega), Option.map_some, hz]
  have h5 : (ys.map (·.1)) = [.lit (.string [116, 121, 112, 101]), .lit (.string [115, 104, 97, 114, 101, 115]), .lit (.string [100, 105, 114, 101, 99, 116]), .lit (.string [115, 113, 117, 97, 114, 101, 115]), .lit (.string [112, 111, 119, 101, 114])] := by
    have := hx1.symm
    simpa [Rows.laid_flyover_source_firstWords] using this
  rw [h5] at h4
  have key : ∀ l : List UInt8, z.data.toList = l → z = ⟨l.toArray⟩ := fun l e => by
    cases z; simp at e; rw [← e]
  match i, hi with
  | 0, _ => simp at h4; rw [key _ h4.symm]; rfl
  | 1, _ => simp at h4; rw [key _ h4.symm]; rfl
  | 2, _ => simp at h4; rw [key _ h4.symm]; rfl
  | 3, _ => simp at h4; rw [key _ h4.symm]; rfl
  | 4, _ => simp at h4; rw [key _ h4.symm]; rfl
set_option maxRecDepth 100000 in
theorem turned_laid5 {W : World} (h : laidMetH Tryz.prog laidFive W) : Turned W := by
  have h2 : laidMet Tryz.prog [("flyover/flyoverlaw02.turned", Rows.laid_flyover_flyoverlaw02_turned)] W := laidMet.tail (laidMet.tail (laidMet.tail (laidMet.tail h)))
  obtain ⟨ps, ⟨g', t', cs, fuel, p, q, hg', ht', hvar, hd, _, _⟩, _⟩ := h2
  obtain rfl := Option.some.inj (gTurned.symm.trans hg')
  obtain rfl := Option.some.inj (gTurnedType.symm.trans ht')
  obtain ⟨ys, m, _, hx, hl, hyl, hg⟩ := DataW.trod_array Tryz.underlying165 hd
  have hx1 := congrArg Prod.fst hx
  intro i hi
  have g := hg i hi
  rw [List.getElem?_eq_getElem (by omega)] at g
  obtain ⟨y0, y1, n, hy, _, t0, t1⟩ := trod_struct2 Tryz.underlying30 g
  obtain ⟨a, q0, hz0, _⟩ := DataW.trod_int Tryz.underlying3 t0
  obtain ⟨b, q1, hz1, _⟩ := DataW.trod_int Tryz.underlying3 t1
  change List.take (Tryz.prog.cellsOf 3) (List.drop 0 (List.take (Tryz.prog.cellsOf 30) (List.drop (i * Tryz.prog.cellsOf 30) cs.toList))) = _ at q0
  change List.take (Tryz.prog.cellsOf 3) (List.drop 1 (List.take (Tryz.prog.cellsOf 30) (List.drop (i * Tryz.prog.cellsOf 30) cs.toList))) = _ at q1
  rw [cellsInt, cellsPoint] at q0 q1
  have hc0 : cs[i * 2]? = some (.int .i64 a) := by
    have := congrArg (fun l => l[0]?) q0
    simpa [List.getElem?_take, List.getElem?_drop] using this
  have hc1 : cs[i * 2 + 1]? = some (.int .i64 b) := by
    have := congrArg (fun l => l[0]?) q1
    simpa [List.getElem?_take, List.getElem?_drop] using this
  rw [World.var?_cell gTurned hvar (i * 2), World.var?_cell gTurned hvar (i * 2 + 1), hc0, hc1]
  have h4 : (ys.map (·.1))[i]? = some (DataW.agg [.lit (.int .i64 a), .lit (.int .i64 b)]) := by
    rw [List.getElem?_map, List.getElem?_eq_getElem (by omega), Option.map_some, hy, hz0, hz1]
  have h5 : (ys.map (·.1)) = [.agg [.lit (.int .i64 3), .lit (.int .i64 1)], .agg [.lit (.int .i64 2), .lit (.int .i64 2)], .agg [.lit (.int .i64 0), .lit (.int .i64 5)], .agg [.lit (.int .i64 (-2)), .lit (.int .i64 2)], .agg [.lit (.int .i64 (-3)), .lit (.int .i64 0)], .agg [.lit (.int .i64 (-1)), .lit (.int .i64 (-1))], .agg [.lit (.int .i64 0), .lit (.int .i64 (-4))], .agg [.lit (.int .i64 2), .lit (.int .i64 (-2))]] := by
    have := hx1.symm
    simpa [Rows.laid_flyover_flyoverlaw02_turned] using this
  rw [h5] at h4
  match i, hi with
  | 0, _ => simp at h4; rw [← h4.1, ← h4.2]; exact ⟨rfl, rfl⟩
  | 1, _ => simp at h4; rw [← h4.1, ← h4.2]; exact ⟨rfl, rfl⟩
  | 2, _ => simp at h4; rw [← h4.1, ← h4.2]; exact ⟨rfl, rfl⟩
  | 3, _ => simp at h4; rw [← h4.1, ← h4.2]; exact ⟨rfl, rfl⟩
  | 4, _ => simp at h4; rw [← h4.1, ← h4.2]; exact ⟨rfl, rfl⟩
  | 5, _ => simp at h4; rw [← h4.1, ← h4.2]; exact ⟨rfl, rfl⟩
  | 6, _ => simp at h4; rw [← h4.1, ← h4.2]; exact ⟨rfl, rfl⟩
  | 7, _ => simp at h4; rw [← h4.1, ← h4.2]; exact ⟨rfl, rfl⟩
/-- A block's cells, the rest as it was. -/
def lay (g : Nat) (cs : Array Value) (h : Array Obj) : Array Obj := h.modify g fun
  | .cells _ t frozen => .cells cs t frozen
  | o => o
def pow10Vals : Array Value := #[.int .u64 1, .int .u64 10, .int .u64 100, .int .u64 1000, .int .u64 10000, .int .u64 100000, .int .u64 1000000, .int .u64 10000000, .int .u64 100000000, .int .u64 1000000000, .int .u64 10000000000, .int .u64 100000000000, .int .u64 1000000000000, .int .u64 10000000000000, .int .u64 100000000000000, .int .u64 1000000000000000, .int .u64 10000000000000000, .int .u64 100000000000000000, .int .u64 1000000000000000000, .int .u64 10000000000000000000]
def tab32 : List Int := [0, 1, 28, 2, 29, 14, 24, 3, 30, 22, 20, 15, 25, 17, 4, 8, 31, 27, 13, 23, 21, 19, 16, 7, 26, 12, 18, 6, 11, 5, 10, 9]
def tab64 : List Int := [0, 1, 56, 2, 57, 49, 28, 3, 61, 58, 42, 50, 38, 29, 17, 4, 62, 47, 59, 36, 45, 43, 51, 22, 53, 39, 33, 30, 24, 18, 12, 5, 63, 55, 48, 27, 60, 41, 37, 16, 46, 35, 44, 21, 52, 32, 23, 11, 54, 26, 40, 15, 34, 20, 31, 10, 25, 14, 19, 9, 13, 8, 7, 6]
def wordVals : Array Value := #[.string ⟨#[116, 121, 112, 101]⟩, .string ⟨#[115, 104, 97, 114, 101, 115]⟩, .string ⟨#[100, 105, 114, 101, 99, 116]⟩, .string ⟨#[115, 113, 117, 97, 114, 101, 115]⟩, .string ⟨#[112, 111, 119, 101, 114]⟩]
def laidHeap5 (h : Array Obj) : Array Obj := lay 0 turnA (lay 1 wordVals (lay 3 pow10Vals (lay 6 (tab32.map (Value.int .u8)).toArray (lay 7 (tab64.map (Value.int .u8)).toArray h))))
noncomputable def laidWorld5 (os : Os) : World := { World.holding Tryz.prog os ⟨#[], #[], []⟩ with heap := laidHeap5 (World.holding Tryz.prog os ⟨#[], #[], []⟩).heap }
section
variable {H : Type} {enc : TypeId × Value → H}
theorem args_stay {W W' : World} {sp : Nat → Bool} (hb : Below W.heap.size W W') : ∀ {ts : List TypeId} {vs : List Value} {ds : List (DataW H)} {ps : List MemPlace}, (∀ t ∈ ts, Tryz.prog.readableRec t = true ∧ t < Tryz.prog.types.size) →
    DataW.TrodAll enc Tryz.prog W 0 (fun _ => true) true ts vs ds ps → (∀ p ∈ ps, p.block < W.heap.size) → (∀ p ∈ ps, sp p.block = true) → DataW.TrodAll enc Tryz.prog W' 0 sp true ts vs ds ps
  | [], [], [], _, _, h, _, _ => h
  | t :: _, _ :: _, _ :: _, _, hT, ⟨p, q, h1, h2, e⟩, hl, hs => ⟨p, q, WideElems.Trod_stays laidOutA (hT t (List.mem_cons.2 (.inl rfl))).1 (hT t (List.mem_cons.2 (.inl rfl))).2 h1
      (fun x hx => hb.same (hl x (by rw [e]; exact List.mem_append_left _ hx))) (fun x hx => hs x (by rw [e]; exact List.mem_append_left _ hx)),
      args_stay hb (fun t ht => hT t (List.mem_cons.2 (.inr ht))) h2 (fun x hx => hl x (by rw [e]; exact List.mem_append_right _ hx)) (fun x hx => hs x (by rw [e]; exact List.mem_append_right _ hx)), e⟩
set_option maxRecDepth 100000 in
/-- What a law leaves: true, and its arguments as they were. -/
theorem law_post {f : Func} {s : ChangeSpec} {apart fresh handsOn again : Bool} {W W' : World} {args : Array Value} {ds gs : List (DataW H)} {before : List MemPlace}
    (hW : DataW.Whole enc Tryz.prog f.params.toList s.vars apart W args.toList ds gs before) (hv : s.vars = []) (hr : f.resultTypes = #[4]) (hT : ∀ t ∈ f.params.toList, Tryz.prog.readableRec t = true ∧ t < Tryz.prog.types.size)
    (hfn : s.fn H (ds ++ gs) = { results := [.lit (.bool true)], args := ds }) (hb : Below W.heap.size W W') :
    s.post enc Tryz.prog f apart fresh handsOn again W args (.bool true) W' := by
  have hlt : ∀ p ∈ before, p.block < W.heap.size := fun p hp => hW.lt p hp
  have hW1 := hW
  obtain ⟨p, q, hA, hV, rfl, hfz, hnd⟩ := hW1
  rw [hv] at hV
  obtain ⟨rfl, rfl⟩ := trodVars_none hV
  refine post_of_below (pa := p ++ []) (pv := []) hW (fun b sp hd => ?_) (fun sp hsp => ?_) (fun sp hsp => ?_) (by simp) hb (ok_one hr rfl (okWide_bool_mk Tryz.underlying4 _))
  · rw [hfn, hr]
    exact trodAll_mk1 (shut_bool Tryz.underlying4 _)
  · rw [hfn, List.append_nil]
    exact args_stay hb hT hA (fun x hx => hlt x (by simpa using hx)) (fun x hx => hsp x (by simpa using hx))
  · rw [hv, hfn]
    exact rfl
end
end Go.Proofs.YtmafmebcgmegeaaGreatDoor

namespace Go.Proofs.YtmafmebcgmegeaaGreatDoor
open Go.ChangeShapes Go.WideShapes Go.ChangeAt Go.RowKit
theorem at_of_take1 {cs : List Value} {k : Nat} {v : Value} (h : (cs.drop k).take 1 = [v]) : cs[k]? = some v := by
  have := congrArg (fun l => l[0]?) h
  simpa [List.getElem?_take, List.getElem?_drop] using this
theorem at_of_drop {cs : List Value} {k n j : Nat} {v : Value} (h : ((cs.drop k).take n)[j]? = some v) : cs[k + j]? = some v := by
  rw [List.getElem?_take] at h
  split at h
  · rwa [List.getElem?_drop] at h
  · cases h
section
variable {H : Type} {enc : TypeId × Value → H}
theorem cellsStr : Tryz.prog.cellsOf 9 = 1 := by kernel_rfl
theorem cellsInts : Tryz.prog.cellsOf 22 = 1 := by kernel_rfl
theorem cellsEight : Tryz.prog.cellsOf 23 = 8 := by kernel_rfl
theorem cellsSets : Tryz.prog.cellsOf 24 = 1 := by kernel_rfl
theorem cellsSet : Tryz.prog.cellsOf 145 = 2 := by kernel_rfl
theorem bytesSet : Tryz.prog.bytesOf 145 = 32 := by kernel_rfl
theorem cellsTy : Tryz.prog.cellsOf 26 = 13 := by kernel_rfl
theorem cellsFx : Tryz.prog.cellsOf 140 = 5 := by kernel_rfl
/-- A slice of integers among the cells. -/
theorem open_intsRow {W : World} {fuel : Nat} {cs : List Value} {x : DataW H × List MemPlace} (h : DataW.trod enc Tryz.prog W 0 (fun _ => true) true fuel 22 cs = some x) :
    ∃ A n c zs, cs = [.slice A n c] ∧ IntsAt W A n zs := by
  rcases open_ints Tryz.underlying22 Tryz.underlying3 cellsInt h with ⟨hcs, _⟩ | ⟨a, len, cap, zs, hcs, _, hl, hm, hz, hx, hcell, hw⟩
  · exact ⟨none, 0, 0, [], hcs, rfl, fun h => by omega⟩
  · simp only [if_true] at hz
    refine ⟨some a, len, cap, zs.take len, hcs, by rw [List.length_take]; omega, fun h0 => ?_⟩
    obtain ⟨b, off, spot⟩ := a
    have hspot : spot = none := by simpa [Addr.add] using World.cell?_spot (hcell 0 (by omega))
    subst hspot
    refine ⟨b, off, rfl, fun i hi => ?_⟩
    have := hcell i (by omega)
    rw [add_plain] at this
    rw [this]
    simp [List.getD_eq_getElem?_getD, hi]
theorem open_setRow {W : World} {fuel : Nat} {cs : List Value} {x : DataW H × List MemPlace} (h : DataW.trod enc Tryz.prog W 0 (fun _ => true) true fuel 145 cs = some x) :
    ∃ (p : Int) (A : Option Addr) (n c : Nat) (zs : List Int), cs[0]? = some (.int .i64 p) ∧ cs[1]? = some (.slice A n c) ∧ IntsAt W A n zs := by
  obtain ⟨y0, y1, n, _, _, t0, t1⟩ := trod_struct2 Tryz.underlying145 h
  obtain ⟨p, q0, _⟩ := DataW.trod_int Tryz.underlying3 t0
  obtain ⟨A, m, c, zs, q1, hz⟩ := open_intsRow t1
  change List.take (Tryz.prog.cellsOf 3) (List.drop 0 cs) = _ at q0
  rw [cellsInt] at q0
  change List.take (Tryz.prog.cellsOf 22) (List.drop 1 cs) = _ at q1
  rw [cellsInts] at q1
  exact ⟨p, A, m, c, zs, at_of_take1 q0, at_of_take1 q1, hz⟩
theorem open_setsRow {W : World} {fuel : Nat} {cs : List Value} {x : DataW H × List MemPlace} (h : DataW.trod enc Tryz.prog W 0 (fun _ => true) true fuel 24 cs = some x) (hsz : ∀ el sp, x.1 = .slice el sp → (el.length + sp.length) * Tryz.prog.bytesOf 145 ≤ reachBytes) :
    ∃ A n c s, cs = [.slice A n c] ∧ SetsO W A n s ∧ n ≤ 140737488351232 := by
  rcases Go.Deep.open_slice Tryz.underlying24 h with ⟨hcs, _⟩ | ⟨a, len, cap, m, k, D, Pl, hcs, _, hl, hm, hmm, hx, hcell⟩
  · exact ⟨none, 0, 0, [], hcs, ⟨rfl, fun h => by omega⟩, by omega⟩
  · simp only [if_true] at hmm
    have hb := hsz _ _ (congrArg Prod.fst hx)
    rw [bytesSet] at hb
    simp only [List.length_map, List.length_range] at hb
    have hr : reachBytes = 140737488351232 := rfl
    have each : ∀ i, i < len → ∃ s : Int × List Int, W.cell? (a.add (i * 2)) = some (.int .i64 s.1) ∧ ∃ A n c, W.cell? (a.add (i * 2 + 1)) = some (.slice A n c) ∧ IntsAt W A n s.2 := fun i hi => by
      obtain ⟨cs', h1, h2⟩ := hcell i (by omega)
      rw [cellsSet] at h1
      obtain ⟨_, _, hc⟩ := World.cells?_some h1
      obtain ⟨p, A, n, c, zs, e0, e1, hz⟩ := open_setRow h2
      refine ⟨(p, zs), ?_, A, n, c, ?_, hz⟩
      · have := hc 0 (by omega)
        rw [Go.Deep.add_add, Nat.add_zero] at this
        rw [this]; exact e0
      · have := hc 1 (by omega)
        rw [Go.Deep.add_add] at this
        rw [this]; exact e1
    haveI : Inhabited (Int × List Int) := ⟨(0, [])⟩
    obtain ⟨q, hq⟩ := Go.Deep.choose_lt each
    have hget : ∀ i, i < len → ((List.range len).map q).getD i (0, []) = q i := fun i hi => by simp [List.getD_eq_getElem?_getD, hi]
    refine ⟨some a, len, cap, (List.range len).map q, hcs, ⟨by simp, fun h0 => ?_⟩, by omega⟩
    obtain ⟨b, off, spot⟩ := a
    have hspot : spot = none := by simpa [Addr.add] using World.cell?_spot (hq 0 h0).1
    subst hspot
    refine ⟨b, off, rfl, by simp, fun i hi => ?_⟩
    obtain ⟨e0, A, n, c, e1, hz⟩ := hq i hi
    rw [add_plain] at e0 e1
    refine ⟨A, n, c, ?_, ?_, ?_⟩
    · unfold Bell.ePow; rw [e0, hget i hi]
    · rw [Nat.add_assoc, e1]
    · rw [hget i hi]; exact hz
/-- The cells of a type. -/
theorem open_tyRow {W : World} {fuel : Nat} {cs : List Value} {x : DataW H × List MemPlace} (h : DataW.trod enc Tryz.prog W 0 (fun _ => true) true fuel 26 cs = some x)
    (hsz : ∀ y0 y1 y2 y3 y4 el sp, x.1 = .agg [y0, y1, y2, y3, y4, .slice el sp] → (el.length + sp.length) * Tryz.prog.bytesOf 145 ≤ reachBytes) :
    ∃ nm sh T sa sn sc qa qn qc ga gn gc, cs = (tyV nm sa sn sc T qa qn qc ga gn gc).toList ∧ T.direct.length = 8 ∧ RTy W cs.toArray nm sh T sa sn sc qa qn qc ga gn gc ∧ gn ≤ 140737488351232 := by
  obtain ⟨xs, n, _, hx, hl, hlen, hf⟩ := DataW.trod_struct Tryz.underlying26 h
  rw [cellsTy] at hl
  have hx6 : xs.length = 6 := hlen
  have e0 := hf 0 _ rfl
  have e1 := hf 1 _ rfl
  have e2 := hf 2 _ rfl
  have e3 := hf 3 _ rfl
  have e4 := hf 4 _ rfl
  have e5 := hf 5 _ rfl
  obtain ⟨x0, x1, x2, x3, x4, x5, rfl⟩ : ∃ x0 x1 x2 x3 x4 x5, xs = [x0, x1, x2, x3, x4, x5] := by
    match xs, hx6 with
    | [x0, x1, x2, x3, x4, x5], _ => exact ⟨x0, x1, x2, x3, x4, x5, rfl⟩
  simp only [List.getElem?_cons_zero, List.getElem?_cons_succ] at e0 e1 e2 e3 e4 e5
  obtain ⟨nm, q0, _, _⟩ := DataW.trod_string Tryz.underlying9 e0
  obtain ⟨sa, sn, sc, sh, q1, hsh⟩ := open_intsRow e1
  obtain ⟨ys, m, _, _, _, hyl, hg⟩ := DataW.trod_array Tryz.underlying23 e2
  obtain ⟨side, q3, _⟩ := DataW.trod_int Tryz.underlying3 e3
  obtain ⟨qa, qn, qc, sq, q4, hsq⟩ := open_intsRow e4
  obtain ⟨ga, gn, gc, s, q5, hs, hgn⟩ := open_setsRow e5 (fun el sp he => hsz x0.1 x1.1 x2.1 x3.1 x4.1 el sp (by rw [hx]; simp [he]))
  have each : ∀ i, i < 8 → ∃ z : Int, cs[2 + i]? = some (.int .i64 z) := fun i hi => by
    have g := hg i hi
    rw [List.getElem?_eq_getElem (by omega)] at g
    obtain ⟨z, q, _⟩ := DataW.trod_int Tryz.underlying3 g
    change List.take (Tryz.prog.cellsOf 3) (List.drop (i * Tryz.prog.cellsOf 3) (List.take (Tryz.prog.cellsOf 23) (List.drop 2 cs))) = _ at q
    rw [cellsInt, cellsEight, Nat.mul_one] at q
    have := at_of_take1 q
    rw [List.getElem?_take, if_pos hi, List.getElem?_drop] at this
    exact ⟨z, this⟩
  obtain ⟨d, hd⟩ := Go.Deep.choose_lt each
  change List.take (Tryz.prog.cellsOf 9) (List.drop 0 cs) = _ at q0
  rw [cellsStr] at q0
  change List.take (Tryz.prog.cellsOf 22) (List.drop 1 cs) = _ at q1
  rw [cellsInts] at q1
  change List.take (Tryz.prog.cellsOf 3) (List.drop 10 cs) = _ at q3
  rw [cellsInt] at q3
  change List.take (Tryz.prog.cellsOf 22) (List.drop 11 cs) = _ at q4
  rw [cellsInts] at q4
  change List.take (Tryz.prog.cellsOf 24) (List.drop 12 cs) = _ at q5
  rw [cellsSets] at q5
  have hcs : cs = (tyV nm sa sn sc ⟨[d 0, d 1, d 2, d 3, d 4, d 5, d 6, d 7], side, sq, s⟩ qa qn qc ga gn gc).toList := by
    apply List.ext_getElem?
    intro i
    match i with
    | 0 => exact at_of_take1 q0
    | 1 => exact at_of_take1 q1
    | 2 => exact hd 0 (by omega)
    | 3 => exact hd 1 (by omega)
    | 4 => exact hd 2 (by omega)
    | 5 => exact hd 3 (by omega)
    | 6 => exact hd 4 (by omega)
    | 7 => exact hd 5 (by omega)
    | 8 => exact hd 6 (by omega)
    | 9 => exact hd 7 (by omega)
    | 10 => exact at_of_take1 q3
    | 11 => exact at_of_take1 q4
    | 12 => exact at_of_take1 q5
    | i + 13 => rw [List.getElem?_eq_none (by omega)]; rfl
  exact ⟨nm, sh, ⟨[d 0, d 1, d 2, d 3, d 4, d 5, d 6, d 7], side, sq, s⟩, sa, sn, sc, qa, qn, qc, ga, gn, gc, hcs, rfl, ⟨by rw [hcs], hsh, hsq, hs⟩, hgn⟩
theorem open_fxRow {W : World} {fuel : Nat} {cs : List Value} {x : DataW H × List MemPlace} (h : DataW.trod enc Tryz.prog W 0 (fun _ => true) true fuel 140 cs = some x) :
    ∃ P : Bell.Fx, cs[0]? = some (.int .i64 P.t) ∧ cs[1]? = some (.int .i64 P.x) ∧ cs[2]? = some (.int .i64 P.y) ∧ cs[3]? = some (.int .i64 P.z) ∧ cs[4]? = some (.int .i64 P.p) := by
  obtain ⟨y0, y1, y2, n, _, _, t0, t1, t2⟩ := Go.Deep.trod_struct3 Tryz.underlying140 h
  obtain ⟨t, q0, _⟩ := DataW.trod_int Tryz.underlying3 t0
  obtain ⟨p, q4, _⟩ := DataW.trod_int Tryz.underlying3 t2
  obtain ⟨u0, u1, u2, n2, _, _, v0, v1, v2⟩ := Go.Deep.trod_struct3 Tryz.underlying28 t1
  obtain ⟨a, r0, _⟩ := DataW.trod_int Tryz.underlying3 v0
  obtain ⟨b, r1, _⟩ := DataW.trod_int Tryz.underlying3 v1
  obtain ⟨c, r2, _⟩ := DataW.trod_int Tryz.underlying3 v2
  change List.take (Tryz.prog.cellsOf 3) (List.drop 0 cs) = _ at q0
  change List.take (Tryz.prog.cellsOf 3) (List.drop 4 cs) = _ at q4
  change List.take (Tryz.prog.cellsOf 3) (List.drop 0 (List.take (Tryz.prog.cellsOf 28) (List.drop 1 cs))) = _ at r0
  change List.take (Tryz.prog.cellsOf 3) (List.drop 1 (List.take (Tryz.prog.cellsOf 28) (List.drop 1 cs))) = _ at r1
  change List.take (Tryz.prog.cellsOf 3) (List.drop 2 (List.take (Tryz.prog.cellsOf 28) (List.drop 1 cs))) = _ at r2
  rw [cellsInt] at q0 q4 r0 r1 r2
  exact ⟨⟨t, a, b, c, p⟩, at_of_take1 q0, at_of_drop (k := 1) (j := 0) (at_of_take1 r0), at_of_drop (k := 1) (j := 1) (at_of_take1 r1), at_of_drop (k := 1) (j := 2) (at_of_take1 r2), at_of_take1 q4⟩
theorem open_track {W : World} {v : Value} {d : DataW H} {ps : List MemPlace} (h : DataW.Trod enc Tryz.prog W 0 (fun _ => true) true 62 v d ps) (hv : ∃ a l c, v = .slice a l c) :
    ∃ A n c l, v = .slice A n c ∧ TrAt W A n l := by
  obtain ⟨fuel, hn⟩ := h
  rcases Go.Deep.open_slice Tryz.underlying62 hn with ⟨hcs, _⟩ | ⟨a, len, cap, m, k, D, Pl, hcs, _, hl, hm, hmm, hx, hcell⟩
  · obtain rfl := cells_slice hv hcs
    exact ⟨none, 0, 0, [], rfl, rfl, fun h => by omega⟩
  · obtain rfl := cells_slice hv hcs
    simp only [if_true] at hmm
    have each : ∀ i, i < len → ∃ P : Bell.Fx, W.cell? (a.add (i * 5)) = some (.int .i64 P.t) ∧ W.cell? (a.add (i * 5 + 1)) = some (.int .i64 P.x) ∧ W.cell? (a.add (i * 5 + 2)) = some (.int .i64 P.y) ∧ W.cell? (a.add (i * 5 + 3)) = some (.int .i64 P.z) ∧ W.cell? (a.add (i * 5 + 4)) = some (.int .i64 P.p) := fun i hi => by
      obtain ⟨cs', h1, h2⟩ := hcell i (by omega)
      rw [cellsFx] at h1
      obtain ⟨_, _, hc⟩ := World.cells?_some h1
      obtain ⟨P, e0, e1, e2, e3, e4⟩ := open_fxRow h2
      refine ⟨P, ?_, ?_, ?_, ?_, ?_⟩
      · have := hc 0 (by omega); rw [Go.Deep.add_add, Nat.add_zero] at this; rw [this]; exact e0
      · have := hc 1 (by omega); rw [Go.Deep.add_add] at this; rw [this]; exact e1
      · have := hc 2 (by omega); rw [Go.Deep.add_add] at this; rw [this]; exact e2
      · have := hc 3 (by omega); rw [Go.Deep.add_add] at this; rw [this]; exact e3
      · have := hc 4 (by omega); rw [Go.Deep.add_add] at this; rw [this]; exact e4
    haveI : Inhabited Bell.Fx := ⟨⟨0, 0, 0, 0, 0⟩⟩
    obtain ⟨q, hq⟩ := Go.Deep.choose_lt each
    have hget : ∀ i, i < len → Bell.fxAt ((List.range len).map q) i = q i := fun i hi => by simp [Bell.fxAt, List.getD_eq_getElem?_getD, hi]
    refine ⟨some a, len, cap, (List.range len).map q, rfl, by simp, fun h0 => ?_⟩
    obtain ⟨b, off, spot⟩ := a
    have hspot : spot = none := by simpa [Addr.add] using World.cell?_spot (hq 0 h0).1
    subst hspot
    refine ⟨b, off, rfl, by simp, fun i hi => ?_⟩
    obtain ⟨e0, e1, e2, e3, e4⟩ := hq i hi
    rw [add_plain] at e0 e1 e2 e3 e4
    unfold FixAt
    rw [hget i hi]
    exact ⟨e0, by rw [Nat.add_assoc]; exact e1, by rw [Nat.add_assoc]; exact e2, by rw [Nat.add_assoc]; exact e3, by rw [Nat.add_assoc]; exact e4⟩
end
def rowDS : TypeDesc → Bool
  | .struct _ => true
  | .array _ _ => true
  | _ => false
theorem open_row_of {P : Program} {W : World} {r : Reach} {base : Nat} {t : TypeId} {v : Value} (n : Nat) {d : TypeDesc} (hu : P.underlying t = some d) (hd : rowDS d = true) (hC : P.cellsOf t = n) (ts : List TypeId) (hn : ts.length = n)
    (hts : P.cellTypes P.depth t = some ts) (hv : Value.okWide P W r base t v) :
    ∃ cs, v = .agg cs ∧ cs.size = n ∧ ∀ (i : Nat) (u : TypeId) (k : IntKind), ts[i]? = some u → P.underlying u = some (.int k) → ∃ z : Int, cs[i]? = some (.int k z) ∧ k.has z := by
  have hcs : ∃ cs, v = .agg cs ∧ cs.size = P.cellsOf t ∧ Row.okWide P W r base t cs := by
    unfold Value.okWide at hv
    rw [hu] at hv
    cases d <;> first | exact hv | (simp [rowDS] at hd)
  obtain ⟨cs, rfl, hsz, ts', h1, _, h2⟩ := hcs
  rw [hts] at h1
  cases h1
  rw [hC] at hsz
  refine ⟨cs, rfl, hsz, fun i u k hi hk => ?_⟩
  have hi0 : i < ts.length := by
    rcases Nat.lt_or_ge i ts.length with h | h
    · exact h
    · rw [List.getElem?_eq_none h] at hi; cases hi
  have hi' : i < cs.size := by omega
  obtain ⟨u', hu', hc⟩ := h2 i _ (Array.getElem?_eq_getElem hi')
  rw [Nat.mod_eq_of_lt hi0, hi] at hu'
  cases hu'
  have hw : Value.okWide P W r base u cs[i] := by
    unfold Value.okWide
    rw [hk]
    exact hc
  obtain ⟨z, hz⟩ := okWide_int hk hw
  refine ⟨z, by rw [Array.getElem?_eq_getElem hi', hz], ?_⟩
  rw [hz] at hc
  simp only [Cell.okWide, hk, Cell.ok] at hc
  exact hc.2
theorem sized_ty {H : Type} {ts : List TypeId} {ds : List (DataW H)} (h : (DataW.weightsEach Tryz.prog ts ds).all (· ≤ reachBytes) = true) {j : Nat} {y0 y1 y2 y3 y4 : DataW H} {el sp : List (DataW H)} (ht : ts[j]? = some 26) (hd : ds[j]? = some (.agg [y0, y1, y2, y3, y4, .slice el sp])) :
    (el.length + sp.length) * Tryz.prog.bytesOf 145 ≤ reachBytes := by
  have := List.all_eq_true.1 h _ (DataW.weights_mem_each ht hd ((el.length + sp.length) * Tryz.prog.bytesOf 145) (by simp [DataW.weights, DataW.weightsEach, Tryz.underlying26, Tryz.underlying24]))
  simpa using this
end Go.Proofs.YtmafmebcgmegeaaGreatDoor

namespace Go.Proofs.YtmafmebcgmegeaaGreatDoor
open Go.ChangeShapes Go.WideShapes Go.ChangeAt Go.RowKit
set_option maxRecDepth 100000 in
theorem open_listening {W : World} {r : Reach} {base : Nat} {v : Value} (hv : Value.okWide Tryz.prog W r base 95 v) : ∃ x y z a b : Int, v = .agg #[.int .i64 x, .int .i64 y, .int .i64 z, .int .i64 a, .int .i64 b] := by
  obtain ⟨cs, rfl, hsz, h⟩ := open_row_of 5 Tryz.underlying95 rfl (by kernel_rfl) [3, 3, 3, 3, 3] rfl (by kernel_rfl) hv
  obtain ⟨n0, h0, _⟩ := h 0 3 .i64 rfl Tryz.underlying3
  obtain ⟨n1, h1, _⟩ := h 1 3 .i64 rfl Tryz.underlying3
  obtain ⟨n2, h2, _⟩ := h 2 3 .i64 rfl Tryz.underlying3
  obtain ⟨n3, h3, _⟩ := h 3 3 .i64 rfl Tryz.underlying3
  obtain ⟨n4, h4, _⟩ := h 4 3 .i64 rfl Tryz.underlying3
  refine ⟨n0, n1, n2, n3, n4, ?_⟩
  congr 1
  apply Array.ext_getElem?
  intro i
  match i with
  | 0 => rw [h0]; rfl
  | 1 => rw [h1]; rfl
  | 2 => rw [h2]; rfl
  | 3 => rw [h3]; rfl
  | 4 => rw [h4]; rfl
  | i + 5 => rw [Array.getElem?_eq_none (by omega)]; rfl
end Go.Proofs.YtmafmebcgmegeaaGreatDoor
