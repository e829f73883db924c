/- Texts Qh Qi Qs Xa Ib9 Iu Iw Ix of the proof. -/
import Derived.Test.YtmafmebcgmegeaaGreatDoorCards
import Derived.Test.YtmafmebcgmegeaaGreatDoorTie
import Derived.ProofKit
import Derived.OpenShut
import Derived.Deep.DeepHandedRow
import Derived.Lib.LaidTab
import Derived.Stop.LaidErr
import Derived.Carry
import Derived.ChangeSlices
import Derived.Test.YtmafmebcgmegeaaGreatDoorY2
import Derived.Test.YtmafmebcgmegeaaGreatDoorY42
import Derived.Deep.Slices
import Derived.Deep.Strs
import Derived.ChangeMaps5
import Derived.ChangeArms
import Derived.ChangeSame
import Derived.Test.YtmafmebcgmegeaaGreatDoorY21
import Derived.Test.YtmafmebcgmegeaaGreatDoorY22
import Derived.Test.YtmafmebcgmegeaaGreatDoorY5
import Derived.Test.YtmafmebcgmegeaaGreatDoorY3
namespace Go.Proofs.YtmafmebcgmegeaaGreatDoor
open Go.ChangeShapes Go.WideShapes Go.ChangeAt Go.RowKit
theorem laidOutA : laidOutB Tryz.prog = true := by kernel_rfl
theorem cells_slice {v : Value} {a : Option Addr} {n c : Nat} (hv : ∃ a l c, v = .slice a l c) (h : v.cells.toList = [.slice a n c]) : v = .slice a n c := by
  obtain ⟨a', l', c', rfl⟩ := hv
  simpa [Value.cells] using h
theorem own : ownKnob Tryz.prog.godebug = none := by kernel_rfl
theorem cellsInt : Tryz.prog.cellsOf 3 = 1 := by kernel_rfl
section
variable {H : Type} {enc : TypeId × Value → H} {P : Program}
theorem post_of_below {f : Func} {s : ChangeSpec} {apart fresh handsOn again : Bool} {W W' : World} {args : Array Value} {v : Value} {ds gs : List (DataW H)} {before pa pv : List MemPlace}
    (hW : DataW.Whole enc P f.params.toList s.vars apart W args.toList ds gs before)
    (hres : ∀ (b : Nat) (sp : Nat → Bool) (hd : Bool), DataW.TrodAll enc P W' b sp hd f.resultTypes.toList (v.resultList f.resultTypes.size) (s.fn H (ds ++ gs)).results [])
    (hargs : ∀ sp : Nat → Bool, (∀ p ∈ before, sp p.block = true) → DataW.TrodAll enc P W' 0 sp true f.params.toList args.toList (s.fn H (ds ++ gs)).args pa)
    (hvars : ∀ sp : Nat → Bool, (∀ p ∈ before, sp p.block = true) → DataW.TrodVars enc P W' sp s.vars (s.fn H (ds ++ gs)).vars pv)
    (hps : before = pa ++ pv) (hb : Below W.heap.size W W')
    (hok : ∀ (j : Nat) (t : TypeId) (r : Value), f.resultTypes[j]? = some t → (v.resultList f.resultTypes.size)[j]? = some r → Value.okWide P W' .any 0 t r) :
    s.post enc P f apart fresh handsOn again W args v W' := by
  have hlt : ∀ p ∈ before, p.block < W.heap.size := fun p hp => hW.lt p hp
  have hold : ∀ p ∈ before, (fun b => decide (b < W.heap.size)) p.block = true := fun p hp => by simpa using hlt p hp
  refine ⟨ds, gs, before, [], pa, pv, hW, hres _ _ _, hargs _ hold, hvars _ hold, World.keptBut_mono (fun p hp => ⟨hp, ?_⟩) (hb.frame (· ∈ before)), fun _ => ?_⟩
  · rw [hps, List.mem_append] at hp
    exact Or.inr hp
  · obtain ⟨_, _, _, _, _, hz, hn⟩ := hW
    refine ⟨hok, _, _, ([] ++ pa) ++ pv, ⟨[] ++ pa, pv, trodAll_append (hargs _ (fun _ _ => rfl)) (hres _ _ _), hvars _ (fun _ _ => rfl), rfl, ?_, ?_⟩, ?_⟩
    · intro b off hp
      have hin : MemPlace.cell b off ∈ before := by rw [hps]; simpa using hp
      rw [hb.frozen (hlt _ hin)]
      exact hz b off hin
    · intro ha
      have := hn ha
      rw [hps] at this
      simpa using this
    · intro p hp _
      rw [hps]
      simpa using hp
end
theorem gPowType : (Tryz.prog.globals[3]?).map (·.type) = some 329 := by kernel_rfl
theorem cellsPow : Tryz.prog.cellsOf 329 = 20 := by kernel_rfl
theorem cellsU64 : Tryz.prog.cellsOf 318 = 1 := by kernel_rfl
theorem gWords : Tryz.prog.globalNamed "flyover/source.firstWords" = some 1 := by kernel_rfl
theorem gWordsType : (Tryz.prog.globals[1]?).map (·.type) = some 229 := by kernel_rfl
theorem cellsString : Tryz.prog.cellsOf 9 = 1 := by kernel_rfl
theorem gTurned : Tryz.prog.globalNamed "flyover/flyoverlaw02.turned" = some 0 := by kernel_rfl
theorem gTurnedType : (Tryz.prog.globals[0]?).map (·.type) = some 165 := by kernel_rfl
theorem cellsPoint : Tryz.prog.cellsOf 30 = 2 := by kernel_rfl
/-- The variables that the laws list. -/
abbrev laidFive : List (String × DataW Unit) := [("math/bits.deBruijn32tab", Rows.laid_math_bits_deBruijn32tab), ("math/bits.deBruijn64tab", Rows.laid_math_bits_deBruijn64tab), ("internal/strconv.uint64pow10", Rows.laid_internal_strconv_uint64pow10), ("flyover/source.firstWords", Rows.laid_flyover_source_firstWords), ("flyover/flyoverlaw02.turned", Rows.laid_flyover_flyoverlaw02_turned)]
theorem tab_laid5 {W : World} (h : laidMetH Tryz.prog laidFive W) : Tab W := by
  have h2 : laidMet Tryz.prog [("internal/strconv.uint64pow10", Rows.laid_internal_strconv_uint64pow10), ("flyover/source.firstWords", Rows.laid_flyover_source_firstWords), ("flyover/flyoverlaw02.turned", Rows.laid_flyover_flyoverlaw02_turned)] W := laidMet.tail (laidMet.tail h)
  exact Lib.tabIs_of_head (rest := [("flyover/source.firstWords", Rows.laid_flyover_source_firstWords), ("flyover/flyoverlaw02.turned", Rows.laid_flyover_flyoverlaw02_turned)]) gPow gPowType Tryz.underlying329 Tryz.underlying318 cellsU64 cellsPow h2
set_option maxRecDepth 100000 in
theorem words_laid5 {W : World} (h : laidMetH Tryz.prog laidFive W) : FirstWords W := by
  have h2 : laidMet Tryz.prog [("flyover/source.firstWords", Rows.laid_flyover_source_firstWords), ("flyover/flyoverlaw02.turned", Rows.laid_flyover_flyoverlaw02_turned)] W := laidMet.tail (laidMet.tail (laidMet.tail h))
  obtain ⟨ps, ⟨g', t', cs, fuel, p, q, hg', ht', hvar, hd, _, _⟩, _⟩ := h2
  obtain rfl := Option.some.inj (gWords.symm.trans hg')
  obtain rfl := Option.some.inj (gWordsType.symm.trans ht')
  obtain ⟨ys, m, _, hx, hl, hyl, hg⟩ := DataW.trod_array Tryz.underlying229 hd
  have hx1 := congrArg Prod.fst hx
  intro i hi
  have g := hg i hi
  rw [List.getElem?_eq_getElem (by omega)] at g
  obtain ⟨z, q, hz, _⟩ := DataW.trod_string Tryz.underlying9 g
  change List.take (Tryz.prog.cellsOf 9) (List.drop (i * Tryz.prog.cellsOf 9) cs.toList) = _ at q
  rw [cellsString, Nat.mul_one] at q
  have hc : cs[i]? = some (.string z) := by
    have := congrArg (fun l => l[0]?) q
    simpa [List.getElem?_take, List.getElem?_drop] using this
  have h3 := World.var?_cell gWords hvar i
  rw [h3, hc]
  have h4 : (ys.map (·.1))[i]? = some (DataW.lit (.string z.data.toList)) := by
    rw [List.getElem?_map, List.getElem?_eq_getElem (by omega), Option.map_some, hz]
  have h5 : (ys.map (·.1)) = [.lit (.string [116, 121, 112, 101]), .lit (.string [115, 104, 97, 114, 101, 115]), .lit (.string [100, 105, 114, 101, 99, 116]), .lit (.string [115, 113, 117, 97, 114, 101, 115]), .lit (.string [112, 111, 119, 101, 114])] := by
    have := hx1.symm
    simpa [Rows.laid_flyover_source_firstWords] using this
  rw [h5] at h4
  have key : ∀ l : List UInt8, z.data.toList = l → z = ⟨l.toArray⟩ := fun l e => by
    cases z; simp at e; rw [← e]
  match i, hi with
  | 0, _ => simp at h4; rw [key _ h4.symm]; rfl
  | 1, _ => simp at h4; rw [key _ h4.symm]; rfl
  | 2, _ => simp at h4; rw [key _ h4.symm]; rfl
  | 3, _ => simp at h4; rw [key _ h4.symm]; rfl
  | 4, _ => simp at h4; rw [key _ h4.symm]; rfl
set_option maxRecDepth 100000 in
theorem turned_laid5 {W : World} (h : laidMetH Tryz.prog laidFive W) : Turned W := by
  have h2 : laidMet Tryz.prog [("flyover/flyoverlaw02.turned", Rows.laid_flyover_flyoverlaw02_turned)] W := laidMet.tail (laidMet.tail (laidMet.tail (laidMet.tail h)))
  obtain ⟨ps, ⟨g', t', cs, fuel, p, q, hg', ht', hvar, hd, _, _⟩, _⟩ := h2
  obtain rfl := Option.some.inj (gTurned.symm.trans hg')
  obtain rfl := Option.some.inj (gTurnedType.symm.trans ht')
  obtain ⟨ys, m, _, hx, hl, hyl, hg⟩ := DataW.trod_array Tryz.underlying165 hd
  have hx1 := congrArg Prod.fst hx
  intro i hi
  have g := hg i hi
  rw [List.getElem?_eq_getElem (by omega)] at g
  obtain ⟨y0, y1, n, hy, _, t0, t1⟩ := trod_struct2 Tryz.underlying30 g
  obtain ⟨a, q0, hz0, _⟩ := DataW.trod_int Tryz.underlying3 t0
  obtain ⟨b, q1, hz1, _⟩ := DataW.trod_int Tryz.underlying3 t1
  change List.take (Tryz.prog.cellsOf 3) (List.drop 0 (List.take (Tryz.prog.cellsOf 30) (List.drop (i * Tryz.prog.cellsOf 30) cs.toList))) = _ at q0
  change List.take (Tryz.prog.cellsOf 3) (List.drop 1 (List.take (Tryz.prog.cellsOf 30) (List.drop (i * Tryz.prog.cellsOf 30) cs.toList))) = _ at q1
  rw [cellsInt, cellsPoint] at q0 q1
  have hc0 : cs[i * 2]? = some (.int .i64 a) := by
    have := congrArg (fun l => l[0]?) q0
    simpa [List.getElem?_take, List.getElem?_drop] using this
  have hc1 : cs[i * 2 + 1]? = some (.int .i64 b) := by
    have := congrArg (fun l => l[0]?) q1
    simpa [List.getElem?_take, List.getElem?_drop] using this
  rw [World.var?_cell gTurned hvar (i * 2), World.var?_cell gTurned hvar (i * 2 + 1), hc0, hc1]
  have h4 : (ys.map (·.1))[i]? = some (DataW.agg [.lit (.int .i64 a), .lit (.int .i64 b)]) := by
    rw [List.getElem?_map, List.getElem?_eq_getElem (by omega), Option.map_some, hy, hz0, hz1]
  have h5 : (ys.map (·.1)) = [.agg [.lit (.int .i64 3), .lit (.int .i64 1)], .agg [.lit (.int .i64 2), .lit (.int .i64 2)], .agg [.lit (.int .i64 0), .lit (.int .i64 5)], .agg [.lit (.int .i64 (-2)), .lit (.int .i64 2)], .agg [.lit (.int .i64 (-3)), .lit (.int .i64 0)], .agg [.lit (.int .i64 (-1)), .lit (.int .i64 (-1))], .agg [.lit (.int .i64 0), .lit (.int .i64 (-4))], .agg [.lit (.int .i64 2), .lit (.int .i64 (-2))]] := by
    have := hx1.symm
    simpa [Rows.laid_flyover_flyoverlaw02_turned] using this
  rw [h5] at h4
  match i, hi with
  | 0, _ => simp at h4; rw [← h4.1, ← h4.2]; exact ⟨rfl, rfl⟩
  | 1, _ => simp at h4; rw [← h4.1, ← h4.2]; exact ⟨rfl, rfl⟩
  | 2, _ => simp at h4; rw [← h4.1, ← h4.2]; exact ⟨rfl, rfl⟩
  | 3, _ => simp at h4; rw [← h4.1, ← h4.2]; exact ⟨rfl, rfl⟩
  | 4, _ => simp at h4; rw [← h4.1, ← h4.2]; exact ⟨rfl, rfl⟩
  | 5, _ => simp at h4; rw [← h4.1, ← h4.2]; exact ⟨rfl, rfl⟩
  | 6, _ => simp at h4; rw [← h4.1, ← h4.2]; exact ⟨rfl, rfl⟩
  | 7, _ => simp at h4; rw [← h4.1, ← h4.2]; exact ⟨rfl, rfl⟩
/-- A block's cells, the rest as it was. -/
def lay (g : Nat) (cs : Array Value) (h : Array Obj) : Array Obj := h.modify g fun
  | .cells _ t frozen => .cells cs t frozen
  | o => o
def pow10Vals : Array Value := #[.int .u64 1, .int .u64 10, .int .u64 100, .int .u64 1000, .int .u64 10000, .int .u64 100000, .int .u64 1000000, .int .u64 10000000, .int .u64 100000000, .int .u64 1000000000, .int .u64 10000000000, .int .u64 100000000000, .int .u64 1000000000000, .int .u64 10000000000000, .int .u64 100000000000000, .int .u64 1000000000000000, .int .u64 10000000000000000, .int .u64 100000000000000000, .int .u64 1000000000000000000, .int .u64 10000000000000000000]
def tab32 : List Int := [0, 1, 28, 2, 29, 14, 24, 3, 30, 22, 20, 15, 25, 17, 4, 8, 31, 27, 13, 23, 21, 19, 16, 7, 26, 12, 18, 6, 11, 5, 10, 9]
def tab64 : List Int := [0, 1, 56, 2, 57, 49, 28, 3, 61, 58, 42, 50, 38, 29, 17, 4, 62, 47, 59, 36, 45, 43, 51, 22, 53, 39, 33, 30, 24, 18, 12, 5, 63, 55, 48, 27, 60, 41, 37, 16, 46, 35, 44, 21, 52, 32, 23, 11, 54, 26, 40, 15, 34, 20, 31, 10, 25, 14, 19, 9, 13, 8, 7, 6]
def wordVals : Array Value := #[.string ⟨#[116, 121, 112, 101]⟩, .string ⟨#[115, 104, 97, 114, 101, 115]⟩, .string ⟨#[100, 105, 114, 101, 99, 116]⟩, .string ⟨#[115, 113, 117, 97, 114, 101, 115]⟩, .string ⟨#[112, 111, 119, 101, 114]⟩]
def laidHeap5 (h : Array Obj) : Array Obj := lay 0 turnA (lay 1 wordVals (lay 3 pow10Vals (lay 6 (tab32.map (Value.int .u8)).toArray (lay 7 (tab64.map (Value.int .u8)).toArray h))))
noncomputable def laidWorld5 (os : Os) : World := { World.holding Tryz.prog os ⟨#[], #[], []⟩ with heap := laidHeap5 (World.holding Tryz.prog os ⟨#[], #[], []⟩).heap }
section
variable {H : Type} {enc : TypeId × Value → H}
theorem args_stay {W W' : World} {sp : Nat → Bool} (hb : Below W.heap.size W W') : ∀ {ts : List TypeId} {vs : List Value} {ds : List (DataW H)} {ps : List MemPlace}, (∀ t ∈ ts, Tryz.prog.readableRec t = true ∧ t < Tryz.prog.types.size) →
    DataW.TrodAll enc Tryz.prog W 0 (fun _ => true) true ts vs ds ps → (∀ p ∈ ps, p.block < W.heap.size) → (∀ p ∈ ps, sp p.block = true) → DataW.TrodAll enc Tryz.prog W' 0 sp true ts vs ds ps
  | [], [], [], _, _, h, _, _ => h
  | t :: _, _ :: _, _ :: _, _, hT, ⟨p, q, h1, h2, e⟩, hl, hs => ⟨p, q, WideElems.Trod_stays laidOutA (hT t (List.mem_cons.2 (.inl rfl))).1 (hT t (List.mem_cons.2 (.inl rfl))).2 h1
      (fun x hx => hb.same (hl x (by rw [e]; exact List.mem_append_left _ hx))) (fun x hx => hs x (by rw [e]; exact List.mem_append_left _ hx)),
      args_stay hb (fun t ht => hT t (List.mem_cons.2 (.inr ht))) h2 (fun x hx => hl x (by rw [e]; exact List.mem_append_right _ hx)) (fun x hx => hs x (by rw [e]; exact List.mem_append_right _ hx)), e⟩
set_option maxRecDepth 100000 in
/-- What a law leaves: true, and its arguments as they were. -/
theorem law_post {f : Func} {s : ChangeSpec} {apart fresh handsOn again : Bool} {W W' : World} {args : Array Value} {ds gs : List (DataW H)} {before : List MemPlace}
    (hW : DataW.Whole enc Tryz.prog f.params.toList s.vars apart W args.toList ds gs before) (hv : s.vars = []) (hr : f.resultTypes = #[4]) (hT : ∀ t ∈ f.params.toList, Tryz.prog.readableRec t = true ∧ t < Tryz.prog.types.size)
    (hfn : s.fn H (ds ++ gs) = { results := [.lit (.bool true)], args := ds }) (hb : Below W.heap.size W W') :
    s.post enc Tryz.prog f apart fresh handsOn again W args (.bool true) W' := by
  have hlt : ∀ p ∈ before, p.block < W.heap.size := fun p hp => hW.lt p hp
  have hW1 := hW
  obtain ⟨p, q, hA, hV, rfl, hfz, hnd⟩ := hW1
  rw [hv] at hV
  obtain ⟨rfl, rfl⟩ := trodVars_none hV
  refine post_of_below (pa := p ++ []) (pv := []) hW (fun b sp hd => ?_) (fun sp hsp => ?_) (fun sp hsp => ?_) (by simp) hb (ok_one hr rfl (okWide_bool_mk Tryz.underlying4 _))
  · rw [hfn, hr]
    exact trodAll_mk1 (shut_bool Tryz.underlying4 _)
  · rw [hfn, List.append_nil]
    exact args_stay hb hT hA (fun x hx => hlt x (by simpa using hx)) (fun x hx => hsp x (by simpa using hx))
  · rw [hv, hfn]
    exact rfl
end
end Go.Proofs.YtmafmebcgmegeaaGreatDoor

namespace Go.Proofs.YtmafmebcgmegeaaGreatDoor
open Go.ChangeShapes Go.WideShapes Go.ChangeAt Go.RowKit
theorem at_of_take1 {cs : List Value} {k : Nat} {v : Value} (h : (cs.drop k).take 1 = [v]) : cs[k]? = some v := by
  have := congrArg (fun l => l[0]?) h
  simpa [List.getElem?_take, List.getElem?_drop] using this
section
variable {H : Type} {enc : TypeId × Value → H}
end
def rowDS : TypeDesc → Bool
  | .struct _ => true
  | .array _ _ => true
  | _ => false
theorem open_row_of {P : Program} {W : World} {r : Reach} {base : Nat} {t : TypeId} {v : Value} (n : Nat) {d : TypeDesc} (hu : P.underlying t = some d) (hd : rowDS d = true) (hC : P.cellsOf t = n) (ts : List TypeId) (hn : ts.length = n)
    (hts : P.cellTypes P.depth t = some ts) (hv : Value.okWide P W r base t v) :
    ∃ cs, v = .agg cs ∧ cs.size = n ∧ ∀ (i : Nat) (u : TypeId) (k : IntKind), ts[i]? = some u → P.underlying u = some (.int k) → ∃ z : Int, cs[i]? = some (.int k z) ∧ k.has z := by
  have hcs : ∃ cs, v = .agg cs ∧ cs.size = P.cellsOf t ∧ Row.okWide P W r base t cs := by
    unfold Value.okWide at hv
    rw [hu] at hv
    cases d <;> first | exact hv | (simp [rowDS] at hd)
  obtain ⟨cs, rfl, hsz, ts', h1, _, h2⟩ := hcs
  rw [hts] at h1
  cases h1
  rw [hC] at hsz
  refine ⟨cs, rfl, hsz, fun i u k hi hk => ?_⟩
  have hi0 : i < ts.length := by
    rcases Nat.lt_or_ge i ts.length with h | h
    · exact h
    · rw [List.getElem?_eq_none h] at hi; cases hi
  have hi' : i < cs.size := by omega
  obtain ⟨u', hu', hc⟩ := h2 i _ (Array.getElem?_eq_getElem hi')
  rw [Nat.mod_eq_of_lt hi0, hi] at hu'
  cases hu'
  have hw : Value.okWide P W r base u cs[i] := by
    unfold Value.okWide
    rw [hk]
    exact hc
  obtain ⟨z, hz⟩ := okWide_int hk hw
  refine ⟨z, by rw [Array.getElem?_eq_getElem hi', hz], ?_⟩
  rw [hz] at hc
  simp only [Cell.okWide, hk, Cell.ok] at hc
  exact hc.2
end Go.Proofs.YtmafmebcgmegeaaGreatDoor

namespace Go.Proofs.YtmafmebcgmegeaaGreatDoor
open Go.ChangeShapes Go.WideShapes Go.ChangeAt Go.RowKit
section
variable {H : Type} {enc : TypeId × Value → H}
theorem cellsStepR : Tryz.prog.cellsOf 161 = 3 := by kernel_rfl
theorem open_ptRow {W : World} {fuel : Nat} {cs : List Value} {x : DataW H × List MemPlace} (h : DataW.trod enc Tryz.prog W 0 (fun _ => true) true fuel 30 cs = some x) :
    ∃ P : Bell.Pt, cs[0]? = some (.int .i64 P.x) ∧ cs[1]? = some (.int .i64 P.y) := by
  obtain ⟨y0, y1, n, _, _, t0, t1⟩ := trod_struct2 Tryz.underlying30 h
  obtain ⟨a, q0, _⟩ := DataW.trod_int Tryz.underlying3 t0
  obtain ⟨b, q1, _⟩ := DataW.trod_int Tryz.underlying3 t1
  change List.take (Tryz.prog.cellsOf 3) (List.drop 0 cs) = _ at q0
  change List.take (Tryz.prog.cellsOf 3) (List.drop 1 cs) = _ at q1
  rw [cellsInt] at q0 q1
  exact ⟨⟨a, b⟩, at_of_take1 q0, at_of_take1 q1⟩
theorem open_stRow {W : World} {fuel : Nat} {cs : List Value} {x : DataW H × List MemPlace} (h : DataW.trod enc Tryz.prog W 0 (fun _ => true) true fuel 161 cs = some x) :
    ∃ P : Bell.Sp, cs[0]? = some (.int .i64 P.d) ∧ cs[1]? = some (.int .i64 P.h) ∧ cs[2]? = some (.int .i64 P.p) := by
  obtain ⟨y0, y1, y2, n, _, _, t0, t1, t2⟩ := Go.Deep.trod_struct3 Tryz.underlying161 h
  obtain ⟨a, q0, _⟩ := DataW.trod_int Tryz.underlying3 t0
  obtain ⟨b, q1, _⟩ := DataW.trod_int Tryz.underlying3 t1
  obtain ⟨c, q2, _⟩ := DataW.trod_int Tryz.underlying3 t2
  change List.take (Tryz.prog.cellsOf 3) (List.drop 0 cs) = _ at q0
  change List.take (Tryz.prog.cellsOf 3) (List.drop 1 cs) = _ at q1
  change List.take (Tryz.prog.cellsOf 3) (List.drop 2 cs) = _ at q2
  rw [cellsInt] at q0 q1 q2
  exact ⟨⟨a, b, c⟩, at_of_take1 q0, at_of_take1 q1, at_of_take1 q2⟩
theorem open_points {W : World} {v : Value} {d : DataW H} {ps : List MemPlace} (h : DataW.Trod enc Tryz.prog W 0 (fun _ => true) true 82 v d ps) (hv : ∃ a l c, v = .slice a l c) :
    ∃ A n c l, v = .slice A n c ∧ PtsAt W A n l := by
  obtain ⟨fuel, hn⟩ := h
  rcases Go.Deep.open_slice Tryz.underlying82 hn with ⟨hcs, _⟩ | ⟨a, len, cap, m, k, D, Pl, hcs, _, hl, hm, hmm, hx, hcell⟩
  · obtain rfl := cells_slice hv hcs
    exact ⟨none, 0, 0, [], rfl, rfl, fun h => by omega⟩
  · obtain rfl := cells_slice hv hcs
    simp only [if_true] at hmm
    have each : ∀ i, i < len → ∃ P : Bell.Pt, W.cell? (a.add (i * 2)) = some (.int .i64 P.x) ∧ W.cell? (a.add (i * 2 + 1)) = some (.int .i64 P.y) := fun i hi => by
      obtain ⟨cs', h1, h2⟩ := hcell i (by omega)
      rw [cellsPoint] at h1
      obtain ⟨_, _, hc⟩ := World.cells?_some h1
      obtain ⟨P, e0, e1⟩ := open_ptRow h2
      refine ⟨P, ?_, ?_⟩
      · have := hc 0 (by omega); rw [Go.Deep.add_add, Nat.add_zero] at this; rw [this]; exact e0
      · have := hc 1 (by omega); rw [Go.Deep.add_add] at this; rw [this]; exact e1
    haveI : Inhabited Bell.Pt := ⟨⟨0, 0⟩⟩
    obtain ⟨q, hq⟩ := Go.Deep.choose_lt each
    have hget : ∀ i, i < len → Bell.ptAt ((List.range len).map q) i = q i := fun i hi => by simp [Bell.ptAt, List.getD_eq_getElem?_getD, hi]
    refine ⟨some a, len, cap, (List.range len).map q, rfl, by simp, fun h0 => ?_⟩
    obtain ⟨b, off, spot⟩ := a
    have hspot : spot = none := by simpa [Addr.add] using World.cell?_spot (hq 0 h0).1
    subst hspot
    refine ⟨b, off, rfl, fun i hi => ?_⟩
    obtain ⟨e0, e1⟩ := hq i hi
    rw [add_plain] at e0 e1
    rw [hget i hi]
    exact ⟨e0, by rw [Nat.add_assoc]; exact e1⟩
theorem open_steps {W : World} {v : Value} {d : DataW H} {ps : List MemPlace} (h : DataW.Trod enc Tryz.prog W 0 (fun _ => true) true 83 v d ps) (hv : ∃ a l c, v = .slice a l c) :
    ∃ A n c l, v = .slice A n c ∧ SpsAt W A n l := by
  obtain ⟨fuel, hn⟩ := h
  rcases Go.Deep.open_slice Tryz.underlying83 hn with ⟨hcs, _⟩ | ⟨a, len, cap, m, k, D, Pl, hcs, _, hl, hm, hmm, hx, hcell⟩
  · obtain rfl := cells_slice hv hcs
    exact ⟨none, 0, 0, [], rfl, rfl, fun h => by omega⟩
  · obtain rfl := cells_slice hv hcs
    simp only [if_true] at hmm
    have each : ∀ i, i < len → ∃ P : Bell.Sp, W.cell? (a.add (i * 3)) = some (.int .i64 P.d) ∧ W.cell? (a.add (i * 3 + 1)) = some (.int .i64 P.h) ∧ W.cell? (a.add (i * 3 + 2)) = some (.int .i64 P.p) := fun i hi => by
      obtain ⟨cs', h1, h2⟩ := hcell i (by omega)
      rw [cellsStepR] at h1
      obtain ⟨_, _, hc⟩ := World.cells?_some h1
      obtain ⟨P, e0, e1, e2⟩ := open_stRow h2
      refine ⟨P, ?_, ?_, ?_⟩
      · have := hc 0 (by omega); rw [Go.Deep.add_add, Nat.add_zero] at this; rw [this]; exact e0
      · have := hc 1 (by omega); rw [Go.Deep.add_add] at this; rw [this]; exact e1
      · have := hc 2 (by omega); rw [Go.Deep.add_add] at this; rw [this]; exact e2
    haveI : Inhabited Bell.Sp := ⟨⟨0, 0, 0⟩⟩
    obtain ⟨q, hq⟩ := Go.Deep.choose_lt each
    have hget : ∀ i, i < len → Bell.spAt ((List.range len).map q) i = q i := fun i hi => by simp [Bell.spAt, List.getD_eq_getElem?_getD, hi]
    refine ⟨some a, len, cap, (List.range len).map q, rfl, by simp, fun h0 => ?_⟩
    obtain ⟨b, off, spot⟩ := a
    have hspot : spot = none := by simpa [Addr.add] using World.cell?_spot (hq 0 h0).1
    subst hspot
    refine ⟨b, off, rfl, fun i hi => ?_⟩
    obtain ⟨e0, e1, e2⟩ := hq i hi
    rw [add_plain] at e0 e1 e2
    rw [hget i hi]
    exact ⟨e0, by rw [Nat.add_assoc]; exact e1, by rw [Nat.add_assoc]; exact e2⟩
end
end Go.Proofs.YtmafmebcgmegeaaGreatDoor

namespace Go.Proofs.YtmafmebcgmegeaaGreatDoor
open Go.ChangeShapes Go.WideShapes Go.ChangeAt Go.RowKit
set_option maxRecDepth 100000 in
theorem open_twoU {W : World} {r : Reach} {base : Nat} {v : Value} (hv : Value.okWide Tryz.prog W r base 159 v) : ∃ a b : Int, v = .agg #[.int .u32 a, .int .u32 b] ∧ (0 ≤ a ∧ a < 4294967296) ∧ (0 ≤ b ∧ b < 4294967296) := by
  obtain ⟨cs, rfl, hsz, h⟩ := open_row_of 2 Tryz.underlying159 rfl (by kernel_rfl) [158, 158] rfl (by kernel_rfl) hv
  obtain ⟨n0, h0, b0⟩ := h 0 158 .u32 rfl Tryz.underlying158
  obtain ⟨n1, h1, b1⟩ := h 1 158 .u32 rfl Tryz.underlying158
  have c0 : 0 ≤ n0 ∧ n0 ≤ 4294967295 := ⟨b0.1, b0.2⟩
  have c1 : 0 ≤ n1 ∧ n1 ≤ 4294967295 := ⟨b1.1, b1.2⟩
  refine ⟨n0, n1, ?_, by omega, by omega⟩
  congr 1
  apply Array.ext_getElem?
  intro i
  match i with
  | 0 => rw [h0]; rfl
  | 1 => rw [h1]; rfl
  | i + 2 => rw [Array.getElem?_eq_none (by omega)]; rfl
end Go.Proofs.YtmafmebcgmegeaaGreatDoor

namespace Go.Proofs.YtmafmebcgmegeaaGreatDoor
open Go.RowKit Go.Sort
/-- A number that is 0 where a fact holds alone. -/
def GR.zero (p : Prop) : GR := ⟨fun v _ => ∃ a : Int, v = .int .i64 a ∧ (a = 0 → p), fun h _ => h⟩
end Go.Proofs.YtmafmebcgmegeaaGreatDoor
