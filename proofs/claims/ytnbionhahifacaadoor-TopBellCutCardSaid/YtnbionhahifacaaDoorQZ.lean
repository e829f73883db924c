/- The closed facts of TopBellCut. For every type of the reference, every list of points, every receiver, two cuts and a turn, TopBellCut returns true: the law's card. -/
import Derived.Test.YtnbionhahifacaaDoorJa
import Derived.Test.YtnbionhahifacaaDoorJb
import Derived.Test.YtnbionhahifacaaDoorJd
namespace Go.Proofs.YtnbionhahifacaaDoor.topBellCut
open Go.ChangeShapes Go.WideShapes Go.ChangeAt Go.RowKit

theorem s1 : Tryd.pinned.checked.prog.funcNamed Rows.topBellCutRow.func = some 3 := by kernel_rfl
set_option maxHeartbeats 8000000 in
theorem s2 : joinedFacts Tryd.pinned.checked.prog 3 Tryd.f3 (OpenSpec.ofChange Rows.topBellCutSpec).bare Rows.topBellCutRow = true := by
  unfold joinedFacts
  repeat ((with_reducible refine Bool.and_eq_true_iff.2 ⟨?_, ?_⟩); rotate_left; (as_aux_lemma => kernel_rfl))
  as_aux_lemma => kernel_rfl
theorem s3 : Tryd.f3.isInstance Tryd.pinned.checked.prog Rows.topBellCutRow.origin Rows.topBellCutRow.targs := of_decide_eq_true (by kernel_rfl)
theorem s4 : Tryd.f3.isWrapper Tryd.pinned.checked.prog Rows.topBellCutRow.wrapper Rows.topBellCutRow.mainSum := by
  unfold Func.isWrapper; first | (rw [if_pos (by decide +kernel)]; kernel_rfl) | (rw [if_neg (by decide +kernel)]; exact ⟨rfl, rfl⟩)
end Go.Proofs.YtnbionhahifacaaDoor.topBellCut
namespace Go.Proofs.YtnbionhahifacaaDoor.topBellCut
open Go.ChangeShapes Go.WideShapes Go.ChangeAt Go.RowKit

def rowD : TypeDesc → Bool
  | .struct _ => true
  | .array _ _ => true
  | _ => false
theorem open_row_of {P : Program} {W : World} {r : Reach} {base : Nat} {t : TypeId} {v : Value} (n : Nat) {d : TypeDesc} (hu : P.underlying t = some d) (hd : rowD d = true) (hC : P.cellsOf t = n) (ts : List TypeId) (hn : ts.length = n)
    (hts : P.cellTypes P.depth t = some ts) (hv : Value.okWide P W r base t v) :
    ∃ cs, v = .agg cs ∧ cs.size = n ∧ ∀ (i : Nat) (u : TypeId) (k : IntKind), ts[i]? = some u → P.underlying u = some (.int k) → ∃ z : Int, cs[i]? = some (.int k z) ∧ k.has z := by
  have hcs : ∃ cs, v = .agg cs ∧ cs.size = P.cellsOf t ∧ Row.okWide P W r base t cs := by
    unfold Value.okWide at hv
    rw [hu] at hv
    cases d <;> first | exact hv | (simp [rowD] at hd)
  obtain ⟨cs, rfl, hsz, ts', h1, _, h2⟩ := hcs
  rw [hts] at h1
  cases h1
  rw [hC] at hsz
  refine ⟨cs, rfl, hsz, fun i u k hi hk => ?_⟩
  have hi0 : i < ts.length := by
    rcases Nat.lt_or_ge i ts.length with h | h
    · exact h
    · rw [List.getElem?_eq_none h] at hi; cases hi
  have hi' : i < cs.size := by omega
  obtain ⟨u', hu', hc⟩ := h2 i _ (Array.getElem?_eq_getElem hi')
  rw [Nat.mod_eq_of_lt hi0, hi] at hu'
  cases hu'
  have hw : Value.okWide P W r base u cs[i] := by
    unfold Value.okWide
    rw [hk]
    exact hc
  obtain ⟨z, hz⟩ := okWide_int hk hw
  refine ⟨z, by rw [Array.getElem?_eq_getElem hi', hz], ?_⟩
  rw [hz] at hc
  simp only [Cell.okWide, hk, Cell.ok] at hc
  exact hc.2

set_option maxRecDepth 100000 in
theorem open_cut {W : World} {r : Reach} {base : Nat} {v : Value} (hv : Value.okWide Tryd.prog W r base 33 v) :
    ∃ x y z c0 c1 tu : Int, v = .agg #[.int .i64 x, .int .i64 y, .int .i64 z, .int .u16 c0, .int .u16 c1, .int .u8 tu] ∧ (0 ≤ c0 ∧ c0 ≤ 65535) ∧ (0 ≤ c1 ∧ c1 ≤ 65535) ∧ (0 ≤ tu ∧ tu ≤ 255) := by
  obtain ⟨cs, rfl, hsz, h⟩ := open_row_of 6 Tryd.underlying33 rfl (by kernel_rfl) [3, 3, 3, 30, 30, 5] rfl (by kernel_rfl) hv
  obtain ⟨n0, h0, b0⟩ := h 0 3 .i64 rfl Tryd.underlying3
  obtain ⟨n1, h1, b1⟩ := h 1 3 .i64 rfl Tryd.underlying3
  obtain ⟨n2, h2, b2⟩ := h 2 3 .i64 rfl Tryd.underlying3
  obtain ⟨n3, h3, b3⟩ := h 3 30 .u16 rfl Tryd.underlying30
  obtain ⟨n4, h4, b4⟩ := h 4 30 .u16 rfl Tryd.underlying30
  obtain ⟨n5, h5, b5⟩ := h 5 5 .u8 rfl Tryd.underlying5
  refine ⟨n0, n1, n2, n3, n4, n5, ?_, ⟨b3.1, b3.2⟩, ⟨b4.1, b4.2⟩, ⟨b5.1, b5.2⟩⟩
  congr 1
  apply Array.ext_getElem?
  intro i
  match i with
  | 0 => rw [h0]; rfl
  | 1 => rw [h1]; rfl
  | 2 => rw [h2]; rfl
  | 3 => rw [h3]; rfl
  | 4 => rw [h4]; rfl
  | 5 => rw [h5]; rfl
  | i + 6 => rw [Array.getElem?_eq_none (by omega)]; rfl
theorem sized_ty {H : Type} {ts : List TypeId} {ds : List (DataW H)} (h : (DataW.weightsEach Tryd.prog ts ds).all (· ≤ reachBytes) = true) {j : Nat} {y0 y1 y2 y3 y4 : DataW H} {el sp : List (DataW H)} (ht : ts[j]? = some 26) (hd : ds[j]? = some (.agg [y0, y1, y2, y3, y4, .slice el sp])) :
    (el.length + sp.length) * Tryd.prog.bytesOf 83 ≤ reachBytes := by
  have := List.all_eq_true.1 h _ (DataW.weights_mem_each ht hd ((el.length + sp.length) * Tryd.prog.bytesOf 83) (by simp [DataW.weights, DataW.weightsEach, Tryd.underlying26, Tryd.underlying24]))
  simpa using this

theorem types_ok : (Tryd.f3.params.toList.all fun t => Tryd.prog.readableRec t && decide (t < Tryd.prog.types.size)) = true := by kernel_rfl
set_option maxRecDepth 100000 in
theorem contract (H : Type) (enc : TypeId × Value → H) (W : World) (base : Nat) (args : Array Value) (ds gs : List (DataW H)) (before : List MemPlace)
    (hval : ∀ (j : Nat) t v, Tryd.f3.params[j]? = some t → args[j]? = some v → Value.okWide Tryd.prog W .any base t v)
    (hW : DataW.Whole enc Tryd.prog Tryd.f3.params.toList Rows.topBellCutSpec.vars false W args.toList ds gs before)
    (hsz : (DataW.weightsEach Tryd.prog (Tryd.f3.params.toList ++ (OpenSpec.ofChange Rows.topBellCutSpec).bare.plain.varTypes Tryd.prog) (ds ++ gs)).all (· ≤ reachBytes) = true) (hL : laidMetH Tryd.prog Rows.topBellCutRow.laid W) :
    Calls Tryd.prog 3 args W fun e W' => ∃ v, e = .returned v ∧ Rows.topBellCutSpec.post enc Tryd.prog Tryd.f3 false true false false W args v W' := by
  have hW' := hW
  obtain ⟨p, q, hA0, hV, rfl, hfz, hnd⟩ := hW
  have hA' : DataW.TrodAll enc Tryd.prog W 0 (fun _ => true) true Tryd.f3.params.toList args.toList ds p := hA0
  rw [Tryd.params3] at hA' hval hsz
  obtain ⟨v0, v1, v2, d0, d1, d2, p0, p1, p2, rfl, rfl, rfl, h0, h1, h2⟩ := trodAll_three hA'
  obtain ⟨rfl, rfl⟩ := trodVars_none hV
  obtain ⟨cs, rfl, hcs, _⟩ := open_row_of 13 Tryd.underlying26 rfl (by kernel_rfl) [9, 22, 3, 3, 3, 3, 3, 3, 3, 3, 3, 22, 24] rfl (by kernel_rfl) (hval 0 26 v0 rfl rfl)
  obtain ⟨fuel, hn⟩ := h0
  obtain ⟨nm, sh, T, sa, sn, sc, qa, qn, qc, ga, gn, gc, hc, hd8, hT, hgn⟩ := open_tyRow hn (fun y0 y1 y2 y3 y4 el sp e => sized_ty hsz (j := 0) rfl (congrArg some e))
  have hcl : (Value.agg cs).cells.toList.toArray = cs := by simp [Value.cells]
  rw [hcl] at hT
  obtain ⟨A, n, c, l, rfl, hl⟩ := open_track h1 (okWide_slice Tryd.underlying27 (hval 1 27 v1 rfl rfl))
  obtain ⟨x, y, z, c0, c1, tu, rfl, hc0, hc1, htu⟩ := open_cut (hval 2 33 v2 rfl rfl)
  clear hA0 hfz hnd
  refine (bellCut_walk A n c l ⟨x, y, z⟩ c0 c1 tu W hT hd8 hgn hl hc0 hc1 htu (steps_laid1 hL)).mono fun e W' ⟨he, hb⟩ => ?_
  subst he
  exact ⟨_, rfl, law_post hW' rfl (by kernel_rfl) (fun t ht => by have := List.all_eq_true.1 types_ok t ht; simpa using this) rfl hb⟩

theorem laid_met (os : Os) : laidMet Tryd.prog Rows.topBellCutRow.laid ((laidWorld1 os).forCall (fun _ _ => 0) ⟨#[], #[Value.agg #[.string ⟨#[]⟩, .slice none 0 0, .int .i64 0, .int .i64 0, .int .i64 0, .int .i64 0, .int .i64 0, .int .i64 0, .int .i64 0, .int .i64 0, .int .i64 0, .slice none 0 0, .slice none 0 0], Value.slice none 0 0, Value.agg #[.int .i64 0, .int .i64 0, .int .i64 0, .int .u16 0, .int .u16 0, .int .u8 0]], []⟩).memory :=
  laidMet_of_run' 8 (by kernel_rfl) (by kernel_rfl)
theorem reads (os : Os) {H : Type} (enc : TypeId × Value → H) : ∃ places, DataW.whole enc Tryd.prog ((laidWorld1 os).forCall (fun _ _ => 0) ⟨#[], #[Value.agg #[.string ⟨#[]⟩, .slice none 0 0, .int .i64 0, .int .i64 0, .int .i64 0, .int .i64 0, .int .i64 0, .int .i64 0, .int .i64 0, .int .i64 0, .int .i64 0, .slice none 0 0, .slice none 0 0], Value.slice none 0 0, Value.agg #[.int .i64 0, .int .i64 0, .int .i64 0, .int .u16 0, .int .u16 0, .int .u8 0]], []⟩).memory Tryd.f3.params.toList Rows.topBellCutSpec.vars false (#[Value.agg #[.string ⟨#[]⟩, .slice none 0 0, .int .i64 0, .int .i64 0, .int .i64 0, .int .i64 0, .int .i64 0, .int .i64 0, .int .i64 0, .int .i64 0, .int .i64 0, .slice none 0 0, .slice none 0 0], Value.slice none 0 0, Value.agg #[.int .i64 0, .int .i64 0, .int .i64 0, .int .u16 0, .int .u16 0, .int .u8 0]] : Array Value).toList 8 = some ([.agg [.lit (.string []), .nil, .agg [.lit (.int .i64 0), .lit (.int .i64 0), .lit (.int .i64 0), .lit (.int .i64 0), .lit (.int .i64 0), .lit (.int .i64 0), .lit (.int .i64 0), .lit (.int .i64 0)], .lit (.int .i64 0), .nil, .nil], .nil, .agg [.agg [.lit (.int .i64 0), .lit (.int .i64 0), .lit (.int .i64 0)], .agg [.lit (.int .u16 0), .lit (.int .u16 0)], .lit (.int .u8 0)]], [], places) :=
  ⟨[], by kernel_rfl⟩

set_option maxRecDepth 100000 in
theorem lifted (os : Os) (started : os.Started) (H : Type) (enc : TypeId × Value → H) (F : Stop.Interp) :
    ReturnsInHanded {} Tryd.checked os 3 .any ((OpenSpec.ofChange Rows.topBellCutSpec).preRow enc Tryd.prog Tryd.f3 Rows.topBellCutRow.domain false Rows.topBellCutRow.laid) (((OpenSpec.ofChange Rows.topBellCutSpec).at F).post enc Tryd.prog Tryd.f3 false true false false) := by
  obtain ⟨places, hx⟩ := reads os enc
  refine returnsInHanded_of_row (C := Tryd.checked) (s := OpenSpec.ofChange Rows.topBellCutSpec) own started (by kernel_rfl) Tryd.func3
    (witness_row_at (enc := enc) (C := Tryd.checked) false (laidWorld1 os) #[Value.agg #[.string ⟨#[]⟩, .slice none 0 0, .int .i64 0, .int .i64 0, .int .i64 0, .int .i64 0, .int .i64 0, .int .i64 0, .int .i64 0, .int .i64 0, .int .i64 0, .slice none 0 0, .slice none 0 0], Value.slice none 0 0, Value.agg #[.int .i64 0, .int .i64 0, .int .i64 0, .int .u16 0, .int .u16 0, .int .u8 0]] rfl (by kernel_rfl) (by kernel_rfl) (by kernel_rfl)
      (OpenSpec.preRow_of_cond 8 hx (by kernel_rfl) (fun k hk => by cases hk) (by kernel_rfl) (laid_met os))) ?_
  intro W base args ds gs before hval hW _ _ hsz hL _ _
  exact contract H enc W base args ds gs before hval hW hsz hL

theorem said : Rows.TopBellCutSaid :=
  OpenClaim.holds_of_cond 3 Tryd.f3 rfl rfl rfl rfl rfl rfl rfl ⟨rfl, rfl, rfl, rfl, rfl⟩ rfl rfl rfl rfl rfl s1 Tryd.func3 s2 s3 s4
    (fun os started H enc _ F => by rw [OpenClaim.pre_eq_preRow]; exact lifted os started H enc F)

theorem standins : (Tryd.f3.params.toList.all fun t => !Tryd.prog.wantsStandIn t) = true := by kernel_rfl
theorem plain (f : FuncId) (fn : Func) (hf : Tryd.pinned.checked.prog.funcNamed "flyover/flyovertop.TopBellCut" = some f) (hfn : Tryd.pinned.checked.prog.funcs[f]? = some fn) :
    false = Tryd.pinned.checked.prog.looks [] ∧ ∀ (j : Nat) t, fn.params[j]? = some t → Tryd.pinned.checked.prog.wantsStandIn t = false := by
  obtain rfl : f = 3 := Option.some.inj (s1.symm.trans hf) |>.symm
  obtain rfl : fn = Tryd.f3 := (Option.some.inj (Tryd.func3.symm.trans hfn)).symm
  refine ⟨by kernel_rfl, fun j t ht => ?_⟩
  have hm : t ∈ Tryd.f3.params.toList := by
    have := Array.mem_of_getElem? ht
    simpa using this
  have h1 := List.all_eq_true.1 standins t hm
  have h2 : Tryd.prog.wantsStandIn t = false := by simpa using h1
  exact h2

/-- The tied card. -/
theorem card : Rows.TopBellCutCardSaid :=
  Claim7.holds_tied_plain_at .later [] _ _ _ _ said (fun _ h => by cases h) (by kernel_rfl) (fun _ h => by cases h) topBellCut_row_tie rfl ⟨rfl, rfl⟩ (by kernel_rfl) rfl plain (by kernel_rfl)

end Go.Proofs.YtnbionhahifacaaDoor.topBellCut
