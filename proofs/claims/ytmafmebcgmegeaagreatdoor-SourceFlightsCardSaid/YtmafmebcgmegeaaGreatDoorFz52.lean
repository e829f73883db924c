/- For every list of types of the reference, every list of flights, every receiver, SourceFlights returns true, whatever memory holds, where the listed variables lie as the program lays them: the law's card. -/
import Derived.Test.YtmafmebcgmegeaaGreatDoorFz49
import Derived.Test.YtmafmebcgmegeaaGreatDoorFz50
import Derived.Test.YtmafmebcgmegeaaGreatDoorFz51
namespace Go.Proofs.YtmafmebcgmegeaaGreatDoor.sourceFlights
open Go.ChangeShapes Go.WideShapes Go.ChangeAt Go.RowKit
theorem s1 : Tryz.pinned.checked.prog.funcNamed Rows.sourceFlightsRow.func = some 7 := by kernel_rfl
set_option maxHeartbeats 8000000 in
theorem s2 : joinedFacts Tryz.pinned.checked.prog 7 Tryz.f7 (OpenSpec.ofChange Rows.sourceFlightsSpec).bare Rows.sourceFlightsRow = true := by
  unfold joinedFacts
  repeat ((with_reducible refine Bool.and_eq_true_iff.2 ⟨?_, ?_⟩); rotate_left; (as_aux_lemma => kernel_rfl))
  as_aux_lemma => kernel_rfl
theorem s3 : Tryz.f7.isInstance Tryz.pinned.checked.prog Rows.sourceFlightsRow.origin Rows.sourceFlightsRow.targs := of_decide_eq_true (by kernel_rfl)
theorem s4 : Tryz.f7.isWrapper Tryz.pinned.checked.prog Rows.sourceFlightsRow.wrapper Rows.sourceFlightsRow.mainSum := by
  unfold Func.isWrapper; first | (rw [if_pos (by decide +kernel)]; kernel_rfl) | (rw [if_neg (by decide +kernel)]; exact ⟨rfl, rfl⟩)
end Go.Proofs.YtmafmebcgmegeaaGreatDoor.sourceFlights

namespace Go.Proofs.YtmafmebcgmegeaaGreatDoor.sourceFlights
open Go.ChangeShapes Go.WideShapes Go.ChangeAt Go.RowKit
theorem types_ok : (Tryz.f7.params.toList.all fun t => Tryz.prog.readableRec t && decide (t < Tryz.prog.types.size)) = true := by kernel_rfl
set_option maxRecDepth 100000 in
theorem contract (H : Type) (enc : TypeId × Value → H) (W : World) (base : Nat) (args : Array Value) (ds gs : List (DataW H)) (before : List MemPlace)
    (hval : ∀ (j : Nat) t v, Tryz.f7.params[j]? = some t → args[j]? = some v → Value.okWide Tryz.prog W .any base t v)
    (hW : DataW.Whole enc Tryz.prog Tryz.f7.params.toList Rows.sourceFlightsSpec.vars false W args.toList ds gs before)
    (hsz : (DataW.weightsEach Tryz.prog (Tryz.f7.params.toList ++ (OpenSpec.ofChange Rows.sourceFlightsSpec).bare.plain.varTypes Tryz.prog) (ds ++ gs)).all (· ≤ reachBytes) = true) (hL : laidMetH Tryz.prog Rows.sourceFlightsRow.laid W) :
    Calls Tryz.prog 7 args W fun e W' => ∃ v, e = .returned v ∧ Rows.sourceFlightsSpec.post enc Tryz.prog Tryz.f7 false true false false W args v W' := by
  have hW' := hW; obtain ⟨p, q, hA0, hV, rfl, hfz, hnd⟩ := hW; have hA' : DataW.TrodAll enc Tryz.prog W 0 (fun _ => true) true Tryz.f7.params.toList args.toList ds p := hA0; rw [Tryz.params7] at hA' hval hsz; obtain ⟨v0, v1, v2, d0, d1, d2, p0, p1, p2, rfl, rfl, rfl, h0, h1, h2⟩ := trodAll_three hA'; obtain ⟨rfl, rfl⟩ := trodVars_none hV; obtain ⟨A, n, c, ts, rfl, hT, hd8, hgn, hnc, hc⟩ := open_types h0 (okWide_slice Tryz.underlying109 (hval 0 109 v0 rfl rfl)) (sized_tys hsz (j := 0) rfl rfl); obtain ⟨FA, fn, fc, fs, rfl, hF, hfc, hfc2⟩ := open_flights h1 (okWide_slice Tryz.underlying110 (hval 1 110 v1 rfl rfl)); obtain ⟨x, y, z, rfl⟩ := open_vec (hval 2 28 v2 rfl rfl); clear hA0 hfz hnd; refine (flights_walk A n c ts FA fn fc fs x y z W hT hd8 hgn hF hnc hc hfc hfc2 (turned_laid5 hL) (words_laid5 hL) (tab_laid5 hL)).mono fun e W' ⟨he, hb⟩ => ?_
  subst he; exact ⟨_, rfl, law_post hW' rfl (by kernel_rfl) (fun t ht => by have := List.all_eq_true.1 types_ok t ht; simpa using this) rfl hb⟩
theorem laid_met (os : Os) : laidMet Tryz.prog Rows.sourceFlightsRow.laid ((laidWorld5 os).forCall (fun _ _ => 0) ⟨#[], #[Value.slice none 0 0, Value.slice none 0 0, Value.agg #[.int .i64 0, .int .i64 0, .int .i64 0]], []⟩).memory :=
  laidMet_of_run' 8 (by kernel_rfl) (by kernel_rfl)
theorem reads (os : Os) {H : Type} (enc : TypeId × Value → H) : ∃ places, DataW.whole enc Tryz.prog ((laidWorld5 os).forCall (fun _ _ => 0) ⟨#[], #[Value.slice none 0 0, Value.slice none 0 0, Value.agg #[.int .i64 0, .int .i64 0, .int .i64 0]], []⟩).memory Tryz.f7.params.toList Rows.sourceFlightsSpec.vars false (#[Value.slice none 0 0, Value.slice none 0 0, Value.agg #[.int .i64 0, .int .i64 0, .int .i64 0]] : Array Value).toList 8 = some ([.nil, .nil, .agg [.lit (.int .i64 0), .lit (.int .i64 0), .lit (.int .i64 0)]], [], places) :=
  ⟨[], by kernel_rfl⟩
set_option maxRecDepth 100000 in
theorem lifted (os : Os) (started : os.Started) (H : Type) (enc : TypeId × Value → H) (F : Stop.Interp) :
    ReturnsInHanded {} Tryz.checked os 7 .any ((OpenSpec.ofChange Rows.sourceFlightsSpec).preRow enc Tryz.prog Tryz.f7 Rows.sourceFlightsRow.domain false Rows.sourceFlightsRow.laid) (((OpenSpec.ofChange Rows.sourceFlightsSpec).at F).post enc Tryz.prog Tryz.f7 false true false false) := by
  obtain ⟨places, hx⟩ := reads os enc
  refine returnsInHanded_of_row (C := Tryz.checked) (s := OpenSpec.ofChange Rows.sourceFlightsSpec) own started (by kernel_rfl) Tryz.func7
    (witness_row_at (enc := enc) (C := Tryz.checked) false (laidWorld5 os) #[Value.slice none 0 0, Value.slice none 0 0, Value.agg #[.int .i64 0, .int .i64 0, .int .i64 0]] rfl (by kernel_rfl) (by kernel_rfl) (by kernel_rfl)
      (OpenSpec.preRow_of_cond 8 hx (by kernel_rfl) (fun k hk => by cases hk) (by kernel_rfl) (laid_met os))) ?_
  intro W base args ds gs before hval hW _ _ hsz hL _ _; exact contract H enc W base args ds gs before hval hW hsz hL
theorem said : Rows.SourceFlightsSaid :=
  OpenClaim.holds_of_cond 7 Tryz.f7 rfl rfl rfl rfl rfl rfl rfl ⟨rfl, rfl, rfl, rfl, rfl⟩ rfl rfl rfl rfl rfl s1 Tryz.func7 s2 s3 s4
    (fun os started H enc _ F => by rw [OpenClaim.pre_eq_preRow]; exact lifted os started H enc F)
theorem standins : (Tryz.f7.params.toList.all fun t => !Tryz.prog.wantsStandIn t) = true := by kernel_rfl
theorem plain (f : FuncId) (fn : Func) (hf : Tryz.pinned.checked.prog.funcNamed "flyover/flyoverlaw02.SourceFlights" = some f) (hfn : Tryz.pinned.checked.prog.funcs[f]? = some fn) :
    false = Tryz.pinned.checked.prog.looks [] ∧ ∀ (j : Nat) t, fn.params[j]? = some t → Tryz.pinned.checked.prog.wantsStandIn t = false := by
  obtain rfl : f = 7 := Option.some.inj (s1.symm.trans hf) |>.symm; obtain rfl : fn = Tryz.f7 := (Option.some.inj (Tryz.func7.symm.trans hfn)).symm; refine ⟨by kernel_rfl, fun j t ht => ?_⟩
  have hm : t ∈ Tryz.f7.params.toList := by
    have := Array.mem_of_getElem? ht
    simpa using this
  have h1 := List.all_eq_true.1 standins t hm; have h2 : Tryz.prog.wantsStandIn t = false := by simpa using h1
  exact h2
theorem card : Rows.SourceFlightsCardSaid :=
  Claim7.holds_tied_plain_at .later [] _ _ _ _ said (fun _ h => by cases h) (by kernel_rfl) (fun _ h => by cases h) sourceFlights_row_tie rfl ⟨rfl, rfl⟩ (by kernel_rfl) rfl plain (by kernel_rfl)
end Go.Proofs.YtmafmebcgmegeaaGreatDoor.sourceFlights
