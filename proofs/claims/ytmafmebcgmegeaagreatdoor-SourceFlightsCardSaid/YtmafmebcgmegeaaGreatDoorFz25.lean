/- Texts Fa QH of the proof. -/
import Derived.Test.YtmafmebcgmegeaaGreatDoorFz23
import Derived.Test.YtmafmebcgmegeaaGreatDoorFz24
import Derived.Test.YtmafmebcgmegeaaGreatDoorFz13
import Derived.Test.YtmafmebcgmegeaaGreatDoorFz10
namespace Go.Proofs.YtmafmebcgmegeaaGreatDoor
open Go.RowKit Go.Sort
structure Tq where
  nm : ByteArray
  sh : List Int
  T : Bell.Ty
  sa : Option Addr
  sn : Nat
  sc : Nat
  qa : Option Addr
  qn : Nat
  qc : Nat
  ga : Option Addr
  gn : Nat
  gc : Nat
def Tq.cs (t : Tq) : Array Value := tyV t.nm t.sa t.sn t.sc t.T t.qa t.qn t.qc t.ga t.gn t.gc
def Tq.none : Tq := ⟨⟨#[]⟩, [], ⟨[], 0, [], []⟩, Option.none, 0, 0, Option.none, 0, 0, Option.none, 0, 0⟩
def TqOk (w : World) (t : Tq) : Prop := TyAny w t.cs t.nm t.sh t.T t.sa t.sn t.sc t.qa t.qn t.qc t.ga t.gn t.gc
def tqAt (ts : List Tq) (i : Nat) : Tq := ts.getD i Tq.none
def TqsAt (w : World) (A : Option Addr) (n : Nat) (ts : List Tq) : Prop :=
  ts.length = n ∧ (0 < n → ∃ b o, A = some ⟨b, o, Option.none⟩ ∧ ∀ i, i < n → (∀ j, j < 13 → w.cell? ⟨b, o + i * 13 + j, Option.none⟩ = some ((tqAt ts i).cs.getD j undef)) ∧ TqOk w (tqAt ts i))
theorem TqsAt.keep {w w' : World} {A : Option Addr} {n : Nat} {ts : List Tq} (h : TqsAt w A n ts) (hb : Below w.heap.size w w') : TqsAt w' A n ts :=
  ⟨h.1, fun hn => by
    obtain ⟨b, o, e, hc⟩ := h.2 hn
    have k : ∀ {j : Nat} {v : Value}, w.cell? ⟨b, j, Option.none⟩ = some v → w'.cell? ⟨b, j, Option.none⟩ = some v := fun {j v} hc => by
      rw [hb.cell (p := ⟨b, j, Option.none⟩) (World.block_lt_of_cell? _ _ hc)]; exact hc
    exact ⟨b, o, e, fun i hi => ⟨fun j hj => k ((hc i hi).1 j hj), TyAny.keep (hc i hi).2 hb⟩⟩⟩
def kqTo (ts : List Tq) (j : Nat) : List (ByteArray × Value) := (List.range j).map fun i => ((tqAt ts i).nm, Value.agg (tqAt ts i).cs)
theorem kqTo_succ (ts : List Tq) (j : Nat) : kqTo ts (j + 1) = kqTo ts j ++ [((tqAt ts j).nm, Value.agg (tqAt ts j).cs)] := by
  unfold kqTo; rw [List.range_succ, List.map_append]
  rfl
theorem cq_size (t : Tq) : t.cs.size = 13 := rfl
theorem cq_one (t : Tq) : t.cs.all (·.oneCell') = true := by
  simp [Tq.cs, tyV, Value.oneCell']
theorem kqTo_known {w : World} {b : Nat} {ts : List Tq} {n : Nat} (h : MapIs w b (kqTo ts n)) : KnownIs w b (kqTo ts n) :=
  ⟨h, fun x hx => by
    obtain ⟨i, _, rfl⟩ := List.mem_map.1 hx; exact ⟨_, rfl, cq_size _, cq_one _⟩⟩
def twB (ts : List Tq) (i : Nat) : Bool := (List.range i).any fun k => decide ((tqAt ts k).nm = (tqAt ts i).nm)
theorem twB_get (ts : List Tq) (j : Nat) : (twB ts j = false → mapGet (kqTo ts j) (tqAt ts j).nm = none) ∧ (twB ts j = true → ∃ vs : Array Value, mapGet (kqTo ts j) (tqAt ts j).nm = some (.agg vs) ∧ vs.size = 13 ∧ vs.all (·.oneCell') = true) := by
  refine ⟨fun h => ?_, fun h => ?_⟩
  · rw [mapGet_none]; intro x hx; obtain ⟨i, hi, rfl⟩ := List.mem_map.1 hx; have := List.any_eq_false.1 h i hi
    simpa using this
  · obtain ⟨k, hk, he⟩ := List.any_eq_true.1 h; have he' : (tqAt ts k).nm = (tqAt ts j).nm := of_decide_eq_true he
    cases hg : mapGet (kqTo ts j) (tqAt ts j).nm with
    | none =>
      rw [mapGet_none] at hg; exact absurd he' (hg _ (List.mem_map.2 ⟨k, hk, rfl⟩))
    | some v =>
      obtain ⟨x, hx, rfl⟩ := mapGet_mem hg; obtain ⟨i, _, rfl⟩ := List.mem_map.1 hx; exact ⟨_, rfl, cq_size _, cq_one _⟩
noncomputable def tqE (ts : List Tq) (i : Nat) : Int := andE (Bell.tyE (nameE (tqAt ts i).nm) (tqAt ts i).sh (tqAt ts i).T) (if twB ts i = true then 9 else 0)
noncomputable def namedE (ts : List Tq) (n : Nat) : Int := andE (atMostE n 8) (firstR (tqE ts) n)
set_option maxHeartbeats 2000000 in
set_option maxRecDepth 100000 in
theorem named_any (A : Option Addr) (n c : Nat) (ts : List Tq) (w : World) (hts : TqsAt w A n ts) :
    Calls Tryz.prog 145 #[.slice A n c] w fun e w' => ∃ v, e = .returned (.tuple #[.map v, .int .i64 (namedE ts n)]) ∧ (namedE ts n = 0 → ∃ mb, v = some mb ∧ KnownIs w' mb (kqTo ts n)) ∧ Below w.heap.size w w' := by
  have hmm := run_makeMap_hint (P := Tryz.prog) typeM_under .i64 n; have HTS := Lib.hid hts; obtain ⟨V, hV⟩ : ∃ V, V = namedE ts n := ⟨_, rfl⟩; have HV := Lib.hid hV; rw [← hV]; clear hts hV
  by_cases hn8 : 8 < n
  · have hE : Hid (atMostE n 8 = 5) := by show _ = _; unfold atMostE; rw [if_pos (by omega)]
    have hv : Hid (V = 5) := by show _ = _; rw [HV.out]; unfold namedE; rw [andE_n (by rw [hE.out]; decide), hE.out]
    clear hn8
    go_enter Tryz.func145, Tryz.ntmps145
    go_wp2_with fail
    refine (atMost_type A n c 8 w).mono ?_; rw [hE.out]; rintro e W ⟨rfl, hW⟩; obtain rfl := hW.symm; go_wp2
    (try simp only [Exit.inBlock, Exit.then])
    refine bodyPost_ret (v := .tuple #[.map none, .int .i64 5]) (by simp [results, Tryz.results145, go_sem, asAddr]) rfl ?_; exact ⟨none, by rw [hv.out], fun h => (by rw [hv.out] at h; cases h), Below.refl _ _⟩
  have hE : Hid (atMostE n 8 = 0) := by show _ = _; unfold atMostE; rw [if_neg (by omega)]
  replace HV : Hid (V = firstR (tqE ts) n) := by show _ = _; rw [HV.out]; unfold namedE; rw [andE_0 hE.out]
  have hn8' : n ≤ 8 := by omega
  clear hn8
  go_enter Tryz.func145, Tryz.ntmps145
  go_wp2_with fail
  refine (atMost_type A n c 8 w).mono ?_; rw [hE.out]; rintro e W ⟨rfl, hW⟩; obtain rfl := hW.symm
  go_upto_region 5 with fail
  generalize hX : w.alloc (.map #[] 0) = x1
  have hs1 : MapIs x1 w.heap.size (kqTo ts 0) := by rw [← hX]; exact MapIs.fresh w
  have hb1 : Below w.heap.size w x1 := by rw [← hX]; exact (Below.refl _ _).alloc (Nat.le_refl _) _
  obtain ⟨sm, hsm⟩ : ∃ g, g = w.heap.size := ⟨_, rfl⟩; rw [← hsm] at hs1 ⊢; have HSM : Hid (sm = w.heap.size) := hsm; have HS1 := Lib.hid hs1; have HB1 : Hid (Below w.heap.size w x1) := hb1; clear hX hs1 hb1 hsm hmm; go_wp2
  go_loopw [21] (fun k wr => ∃ j : Nat, j ≤ n ∧ k = .int .i64 j ∧ Hid (∀ i, i < j → tqE ts i = 0) ∧ Hid (MapIs wr sm (kqTo ts j)) ∧ Hid (OnlyMap sm x1 wr)) (fun k _ => n - (intOf k).toNat)
  case atStart => exact ⟨0, Nat.zero_le _, rfl, (fun i hi => by omega), HS1, OnlyMap.refl _ _⟩
  case round =>
    obtain ⟨j, hj, rfl, hz, hm, ho⟩ := hrel
    by_cases hlt : j < n
    · have HW : Hid (Below w.heap.size w wr) := HB1.out.trans (ho.out.below HB1.out.size (by rw [HSM.out]; exact Nat.le_refl _)); obtain ⟨b, o, rfl, hc⟩ := (HTS.out.keep HW.out).2 (by omega); obtain ⟨hcs, hok⟩ := hc j hlt; have HTE : Hid (tqE ts j = andE (Bell.tyE (nameE (tqAt ts j).nm) (tqAt ts j).sh (tqAt ts j).T) (if twB ts j = true then 9 else 0)) := rfl; have HGT := Lib.hid (twB_get ts j); have HK : Hid (kqTo ts (j + 1) = kqTo ts j ++ [((tqAt ts j).nm, Value.agg (tqAt ts j).cs)]) := kqTo_succ ts j; obtain ⟨T, hT⟩ : ∃ T, T = tqAt ts j := ⟨_, rfl⟩; rw [← hT] at hcs hok HK HTE HGT; have c0 := hcs 0 (by omega); have c1 := hcs 1 (by omega); have c2 := hcs 2 (by omega); have c3 := hcs 3 (by omega); have c4 := hcs 4 (by omega); have c5 := hcs 5 (by omega); have c6 := hcs 6 (by omega); have c7 := hcs 7 (by omega); have c8 := hcs 8 (by omega); have c9 := hcs 9 (by omega); have c10 := hcs 10 (by omega); have c11 := hcs 11 (by omega); have c12 := hcs 12 (by omega)
      simp only [Tq.cs, tyV, Array.getD_eq_getD_getElem?, List.getElem?_toArray, List.getElem?_cons_zero, List.getElem?_cons_succ, Option.getD_some, Nat.add_zero] at c0 c1 c2 c3 c4 c5 c6 c7 c8 c9 c10 c11 c12; obtain ⟨d0, h0⟩ : ∃ d, d = T.T.direct.getD 0 0 := ⟨_, rfl⟩; obtain ⟨d1, h1⟩ : ∃ d, d = T.T.direct.getD 1 0 := ⟨_, rfl⟩; obtain ⟨d2, h2⟩ : ∃ d, d = T.T.direct.getD 2 0 := ⟨_, rfl⟩; obtain ⟨d3, h3⟩ : ∃ d, d = T.T.direct.getD 3 0 := ⟨_, rfl⟩; obtain ⟨d4, h4⟩ : ∃ d, d = T.T.direct.getD 4 0 := ⟨_, rfl⟩; obtain ⟨d5, h5⟩ : ∃ d, d = T.T.direct.getD 5 0 := ⟨_, rfl⟩; obtain ⟨d6, h6⟩ : ∃ d, d = T.T.direct.getD 6 0 := ⟨_, rfl⟩; obtain ⟨d7, h7⟩ : ∃ d, d = T.T.direct.getD 7 0 := ⟨_, rfl⟩; have hcsE : T.cs = #[.string T.nm, .slice T.sa T.sn T.sc, .int .i64 d0, .int .i64 d1, .int .i64 d2, .int .i64 d3, .int .i64 d4, .int .i64 d5, .int .i64 d6, .int .i64 d7, .int .i64 T.T.side, .slice T.qa T.qn T.qc, .slice T.ga T.gn T.gc] := by rw [h0, h1, h2, h3, h4, h5, h6, h7]; rfl
      rw [← h0] at c2; rw [← h1] at c3; rw [← h2] at c4; rw [← h3] at c5; rw [← h4] at c6; rw [← h5] at c7; rw [← h6] at c8; rw [← h7] at c9
      have HOK : Hid (TyAny wr #[.string T.nm, .slice T.sa T.sn T.sc, .int .i64 d0, .int .i64 d1, .int .i64 d2, .int .i64 d3, .int .i64 d4, .int .i64 d5, .int .i64 d6, .int .i64 d7, .int .i64 T.T.side, .slice T.qa T.qn T.qc, .slice T.ga T.gn T.gc] T.nm T.sh T.T T.sa T.sn T.sc T.qa T.qn T.qc T.ga T.gn T.gc) := by
        rw [← hcsE]; exact hok
      rw [hcsE] at HK; clear hc hcs hok hT hcsE h0 h1 h2 h3 h4 h5 h6 h7
      go_upto_region 8 with fail
      obtain ⟨wa, hwa⟩ : ∃ W, W = (wr.alloc (.cells #[.string T.nm, .slice T.sa T.sn T.sc, .int .i64 d0, .int .i64 d1, .int .i64 d2, .int .i64 d3, .int .i64 d4, .int .i64 d5, .int .i64 d6, .int .i64 d7, .int .i64 T.T.side, .slice T.qa T.qn T.qc, .slice T.ga T.gn T.gc] 42)) := ⟨_, rfl⟩; rw [← hwa]; have B : Hid (Blk wa (wr.heap.size) 42 #[.string T.nm, .slice T.sa T.sn T.sc, .int .i64 d0, .int .i64 d1, .int .i64 d2, .int .i64 d3, .int .i64 d4, .int .i64 d5, .int .i64 d6, .int .i64 d7, .int .i64 T.T.side, .slice T.qa T.qn T.qc, .slice T.ga T.gn T.gc]) := by show Blk _ _ _ _; rw [hwa]; exact Blk.new _ _ _
      have hba : Below wr.heap.size wr wa := by rw [hwa]; exact ((Below.refl _ _).alloc (Nat.le_refl _) _)
      obtain ⟨g7, hg7⟩ : ∃ g, g = wr.heap.size := ⟨_, rfl⟩; have HGwa : Hid (g7 = wr.heap.size) := hg7; rw [← hg7] at B
      try rw [← hg7]
      clear hwa hg7; have BB := B.out; have zc0 := BB.cell 0; have zf0 := BB.frozen 0; have zc1 := BB.cell 1; have zf1 := BB.frozen 1; have zc2 := BB.cell 2; have zf2 := BB.frozen 2; have zc3 := BB.cell 3; have zf3 := BB.frozen 3; have zc4 := BB.cell 4; have zf4 := BB.frozen 4; have zc5 := BB.cell 5; have zf5 := BB.frozen 5; have zc6 := BB.cell 6; have zf6 := BB.frozen 6; have zc7 := BB.cell 7; have zf7 := BB.frozen 7; have zc8 := BB.cell 8; have zf8 := BB.frozen 8; have zc9 := BB.cell 9; have zf9 := BB.frozen 9; have zc10 := BB.cell 10; have zf10 := BB.frozen 10; have zc11 := BB.cell 11; have zf11 := BB.frozen 11; have zc12 := BB.cell 12; have zf12 := BB.frozen 12; simp only [List.getElem?_toArray, List.getElem?_cons_zero, List.getElem?_cons_succ] at zc0 zc1 zc2 zc3 zc4 zc5 zc6 zc7 zc8 zc9 zc10 zc11 zc12; clear BB; clear c0 c1 c2 c3 c4 c5 c6 c7 c8 c9 c10 c11 c12; replace HOK := Lib.hid (HOK.out.keep hba)
      replace hm := Lib.hid (hm.out.keep hba); replace ho := Lib.hid (ho.out.trans (OnlyMap.of hba)); clear hba
      go_upto_region 9 with fail
      refine HOK.out.check.mono ?_; rintro e wb ⟨rfl, hb⟩; replace hm := Lib.hid (hm.out.keep hb); replace ho := Lib.hid (ho.out.trans (OnlyMap.of hb)); replace B := Lib.hid (B.out.below hb); clear hb zc0 zc1 zc2 zc3 zc4 zc5 zc6 zc7 zc8 zc9 zc10 zc11 zc12 zf0 zf1 zf2 zf3 zf4 zf5 zf6 zf7 zf8 zf9 zf10 zf11 zf12; obtain ⟨F, hF⟩ : ∃ F, F = Bell.tyE (nameE T.nm) T.sh T.T := ⟨_, rfl⟩; rw [← hF] at HTE ⊢; clear hF
      by_cases hF0 : F = 0
      case neg =>
        have hr : Hid (V = F) := by show _ = _; rw [HV.out, firstR_hit hlt hz.out (by rw [HTE.out, andE_n hF0]; exact hF0), HTE.out, andE_n hF0]
        have hF1 : Hid (F ≠ 0) := hF0; have HW2 : Hid (Below w.heap.size w wb) := HB1.out.trans (ho.out.below HB1.out.size (by rw [HSM.out]; exact Nat.le_refl _)); go_wp2
        (try simp only [Exit.inBlock, Exit.then])
        refine bodyPost_ret (v := .tuple #[.map none, .int .i64 F]) (by simp [results, Tryz.results145, go_sem, asAddr]) rfl ?_; exact ⟨none, by rw [hr.out], fun h => absurd (hr.out.symm.trans h) hF1.out, HW2.out⟩
      subst hF0
      by_cases htw : twB ts j = true
      · have hr : Hid (V = 9) := by show _ = _; rw [HV.out, firstR_hit hlt hz.out (by rw [HTE.out, andE_0 rfl, if_pos htw]; decide), HTE.out, andE_0 rfl, if_pos htw]
        obtain ⟨vs, hgv, hvs, hvo⟩ := HGT.out.2 htw; have HVI : Hid ((Tryz.prog.info? 42).map (·.size) = some vs.size) := by show _ = _; rw [hvs]; kernel_rfl
        have HVS : Hid (13 = vs.size) := hvs.symm; have HVO := Lib.hid hvo; have BB := B.out; have zc0 := BB.cell 0; have zf0 := BB.frozen 0; have zc1 := BB.cell 1; have zf1 := BB.frozen 1; have zc2 := BB.cell 2; have zf2 := BB.frozen 2; have zc3 := BB.cell 3; have zf3 := BB.frozen 3; have zc4 := BB.cell 4; have zf4 := BB.frozen 4; have zc5 := BB.cell 5; have zf5 := BB.frozen 5; have zc6 := BB.cell 6; have zf6 := BB.frozen 6; have zc7 := BB.cell 7; have zf7 := BB.frozen 7; have zc8 := BB.cell 8; have zf8 := BB.frozen 8; have zc9 := BB.cell 9; have zf9 := BB.frozen 9; have zc10 := BB.cell 10; have zf10 := BB.frozen 10; have zc11 := BB.cell 11; have zf11 := BB.frozen 11; have zc12 := BB.cell 12; have zf12 := BB.frozen 12; simp only [List.getElem?_toArray, List.getElem?_cons_zero, List.getElem?_cons_succ] at zc0 zc1 zc2 zc3 zc4 zc5 zc6 zc7 zc8 zc9 zc10 zc11 zc12; clear BB; have hlook : (Instr.lookup 219 (.map (some sm)) (.string T.nm) true).run Tryz.prog wb = .ok (.tuple #[.agg vs, .bool true]) wb := lookup_has typeM_under str_under hm.out hgv true
        have HW2 : Hid (Below w.heap.size w wb) := HB1.out.trans (ho.out.below HB1.out.size (by rw [HSM.out]; exact Nat.le_refl _)); clear hgv hvs hvo htw
        go_upto_region 12 with (refine wpList_store_row rfl 42 _ _ rfl wb.heap.size vs rfl rfl 42 _ (Blk.new wb 42 #[.string ⟨#[]⟩, .slice none 0 0, .int .i64 0, .int .i64 0, .int .i64 0, .int .i64 0, .int .i64 0, .int .i64 0, .int .i64 0, .int .i64 0, .int .i64 0, .slice none 0 0, .slice none 0 0]) (by exact HVI.out) HVS.out HVO.out ?_)
        obtain ⟨wc, hwc⟩ : ∃ W, W = (wb.alloc (.cells #[.string ⟨#[]⟩, .slice none 0 0, .int .i64 0, .int .i64 0, .int .i64 0, .int .i64 0, .int .i64 0, .int .i64 0, .int .i64 0, .int .i64 0, .int .i64 0, .slice none 0 0, .slice none 0 0] 42)).setRow wb.heap.size vs := ⟨_, rfl⟩; rw [← hwc]; have HW3 : Hid (Below w.heap.size w wc) := by show Below _ _ _; rw [hwc]; exact HW2.out.trans ((((Below.refl _ _).alloc (Nat.le_refl _) _).setRow' (Nat.le_refl _) _).mono HW2.out.size)
        clear hwc hlook; go_wp2
        (try simp only [Exit.inBlock, Exit.then])
        refine bodyPost_ret (v := .tuple #[.map none, .int .i64 9]) (by simp [results, Tryz.results145, go_sem, asAddr]) rfl ?_; exact ⟨none, by rw [hr.out], fun h => (by rw [hr.out] at h; cases h), HW3.out⟩
      have hq : Hid (∀ i, i < j + 1 → tqE ts i = 0) := fun i hi => by
        rcases Nat.lt_or_ge i j with h | h
        · exact hz.out i h
        · obtain rfl : i = j := by omega
          rw [HTE.out, andE_0 rfl, if_neg htw]
      have HL := Lib.hid (HGT.out.1 (Bool.eq_false_iff.2 htw)); clear htw; have BB := B.out; have zc0 := BB.cell 0; have zf0 := BB.frozen 0; have zc1 := BB.cell 1; have zf1 := BB.frozen 1; have zc2 := BB.cell 2; have zf2 := BB.frozen 2; have zc3 := BB.cell 3; have zf3 := BB.frozen 3; have zc4 := BB.cell 4; have zf4 := BB.frozen 4; have zc5 := BB.cell 5; have zf5 := BB.frozen 5; have zc6 := BB.cell 6; have zf6 := BB.frozen 6; have zc7 := BB.cell 7; have zf7 := BB.frozen 7; have zc8 := BB.cell 8; have zf8 := BB.frozen 8; have zc9 := BB.cell 9; have zf9 := BB.frozen 9; have zc10 := BB.cell 10; have zf10 := BB.frozen 10; have zc11 := BB.cell 11; have zf11 := BB.frozen 11; have zc12 := BB.cell 12; have zf12 := BB.frozen 12; simp only [List.getElem?_toArray, List.getElem?_cons_zero, List.getElem?_cons_succ] at zc0 zc1 zc2 zc3 zc4 zc5 zc6 zc7 zc8 zc9 zc10 zc11 zc12; clear BB; have hlook : (Instr.lookup 219 (.map (some sm)) (.string T.nm) true).run Tryz.prog wb = .ok (.tuple #[.agg #[.string ⟨#[]⟩, .slice none 0 0, .int .i64 0, .int .i64 0, .int .i64 0, .int .i64 0, .int .i64 0, .int .i64 0, .int .i64 0, .int .i64 0, .int .i64 0, .slice none 0 0, .slice none 0 0], .bool false]) wb := lookup_lacks typeM_under str_under hm.out (type_zero _) HL.out true
      go_upto_region 12 with fail
      obtain ⟨wc, hwc⟩ : ∃ W, W = (wb.alloc (.cells #[.string ⟨#[]⟩, .slice none 0 0, .int .i64 0, .int .i64 0, .int .i64 0, .int .i64 0, .int .i64 0, .int .i64 0, .int .i64 0, .int .i64 0, .int .i64 0, .slice none 0 0, .slice none 0 0] 42)) := ⟨_, rfl⟩; rw [← hwc]; have B9 : Hid (Blk wc (wb.heap.size) 42 #[.string ⟨#[]⟩, .slice none 0 0, .int .i64 0, .int .i64 0, .int .i64 0, .int .i64 0, .int .i64 0, .int .i64 0, .int .i64 0, .int .i64 0, .int .i64 0, .slice none 0 0, .slice none 0 0]) := by show Blk _ _ _ _; rw [hwc]; exact Blk.new _ _ _
      have hbc : Below wb.heap.size wb wc := by rw [hwc]; exact ((Below.refl _ _).alloc (Nat.le_refl _) _)
      obtain ⟨g9, hg9⟩ : ∃ g, g = wb.heap.size := ⟨_, rfl⟩; have HGwc : Hid (g9 = wb.heap.size) := hg9; rw [← hg9] at B9
      try rw [← hg9]
      clear hwc hg9; replace hm := Lib.hid (hm.out.keep hbc); replace ho := Lib.hid (ho.out.trans (OnlyMap.of hbc)); replace B := Lib.hid (B.out.below hbc); clear hbc hlook zc0 zc1 zc2 zc3 zc4 zc5 zc6 zc7 zc8 zc9 zc10 zc11 zc12 zf0 zf1 zf2 zf3 zf4 zf5 zf6 zf7 zf8 zf9 zf10 zf11 zf12 B9; have BB := B.out; have zc0 := BB.cell 0; have zf0 := BB.frozen 0; have zc1 := BB.cell 1; have zf1 := BB.frozen 1; have zc2 := BB.cell 2; have zf2 := BB.frozen 2; have zc3 := BB.cell 3; have zf3 := BB.frozen 3; have zc4 := BB.cell 4; have zf4 := BB.frozen 4; have zc5 := BB.cell 5; have zf5 := BB.frozen 5; have zc6 := BB.cell 6; have zf6 := BB.frozen 6; have zc7 := BB.cell 7; have zf7 := BB.frozen 7; have zc8 := BB.cell 8; have zf8 := BB.frozen 8; have zc9 := BB.cell 9; have zf9 := BB.frozen 9; have zc10 := BB.cell 10; have zf10 := BB.frozen 10; have zc11 := BB.cell 11; have zf11 := BB.frozen 11; have zc12 := BB.cell 12; have zf12 := BB.frozen 12
      simp only [List.getElem?_toArray, List.getElem?_cons_zero, List.getElem?_cons_succ] at zc0 zc1 zc2 zc3 zc4 zc5 zc6 zc7 zc8 zc9 zc10 zc11 zc12; clear BB; obtain ⟨wd, hwd⟩ : ∃ X, X = World.mapPut wc sm T.nm (.agg #[.string T.nm, .slice T.sa T.sn T.sc, .int .i64 d0, .int .i64 d1, .int .i64 d2, .int .i64 d3, .int .i64 d4, .int .i64 d5, .int .i64 d6, .int .i64 d7, .int .i64 T.T.side, .slice T.qa T.qn T.qc, .slice T.ga T.gn T.gc]) := ⟨_, rfl⟩; have hup : (Instr.mapUpdate 219 (.map (some sm)) (.string T.nm) (.agg #[.string T.nm, .slice T.sa T.sn T.sc, .int .i64 d0, .int .i64 d1, .int .i64 d2, .int .i64 d3, .int .i64 d4, .int .i64 d5, .int .i64 d6, .int .i64 d7, .int .i64 T.T.side, .slice T.qa T.qn T.qc, .slice T.ga T.gn T.gc])).run Tryz.prog wc = .ok () wd := by rw [hwd]; exact update_new typeM_under str_under hm.out HL.out _
      have hmF : Hid (MapIs wd sm (kqTo ts (j + 1))) := by
        show MapIs _ _ _
        rw [HK.out, hwd]; exact hm.out.put _ _
      have hoF : Hid (OnlyMap sm x1 wd) := by
        show OnlyMap _ _ _
        rw [hwd]; exact ho.out.trans (OnlyMap.put _ _ _ _)
      clear hwd; go_wp2; go_roundw
      case rel => exact ⟨j + 1, by omega, by go_num, hq, hmF, hoF⟩
      case measure => simp [intOf]; omega
    · obtain rfl : j = n := by omega
      have HF : Hid (Below w.heap.size w wr) := HB1.out.trans (ho.out.below HB1.out.size (by rw [HSM.out]; exact Nat.le_refl _)); have hr : Hid (V = 0) := by show _ = _; rw [HV.out]; exact firstR_miss fun i hi => hz.out i (by omega)
      go_wp2
      (try simp only [Exit.inBlock, Exit.then])
      refine bodyPost_ret (v := .tuple #[.map (some sm), .int .i64 0]) (by simp [results, Tryz.results145, go_sem, asAddr]) rfl ?_; exact ⟨some sm, by rw [hr.out], fun _ => ⟨sm, rfl, kqTo_known hm.out⟩, HF.out⟩
end Go.Proofs.YtmafmebcgmegeaaGreatDoor

namespace Go.Proofs.YtmafmebcgmegeaaGreatDoor
open Go.RowKit Go.Sort
def loudV (nf ty : ByteArray) (A : Option Addr) (n c : Nat) (V : Int) : Array Value := #[.string nf, .string ty, .slice A n c, .int .i64 V]
set_option maxHeartbeats 1000000 in
set_option maxRecDepth 100000 in
theorem exposed1_any {cs : Array Value} {nm : ByteArray} {sh : List Int} {T : Bell.Ty} {sa : Option Addr} {sn sc qb qo qn qc gb go gn gc : Nat} (nf ty : ByteArray) (b off n c : Nat) (l : List Bell.Fx) (r : Bell.Pl) (gk ga gr mb : Nat) (w : World) (hT : TyOk w cs nm sh T sa sn sc qb qo qn qc gb go gn gc)
    (hl : FixesAt w b off n l) (hg : Bell.GoodTr l) (hr : GoodPl r) (hk : w.cell? ⟨gk, 0, none⟩ = some (.map (some mb))) (hlk : ∀ W, W.heap[mb]? = w.heap[mb]? → (Instr.lookup 219 (.map (some mb)) (.string ty) false).run Tryz.prog W = .ok (.agg cs) W) (hmb : mb < w.heap.size)
    (ha : w.cell? ⟨ga, 0, none⟩ = some (.int .i64 0) ∧ w.cell? ⟨ga, 1, none⟩ = some (.int .i64 100000000)) (hrr : w.cell? ⟨gr, 0, none⟩ = some (.int .i64 r.x) ∧ w.cell? ⟨gr, 1, none⟩ = some (.int .i64 r.y) ∧ w.cell? ⟨gr, 2, none⟩ = some (.int .i64 r.z)) :
    Calls Tryz.prog 188 #[.agg #[.string nf, .string ty, .slice (some ⟨b, off, none⟩) n c], .pointer (some ⟨gk, 0, none⟩), .pointer (some ⟨ga, 0, none⟩), .pointer (some ⟨gr, 0, none⟩)] w
      fun e w' => e = .returned (.agg (loudV nf ty (some ⟨b, off, none⟩) n c (Bell.expoOf T l r 0 100000000))) ∧ Below w.heap.size w w' := by
  obtain ⟨V, hV⟩ : ∃ V, V = Bell.expoOf T l r 0 100000000 := ⟨_, rfl⟩; have HX0 := Lib.hid (fun W (hb : Below w.heap.size w W) => exposure_any b off n c l 0 100000000 r W (hT.keep hb) (hl.keep hb) hg hr (by omega) (by omega) (by omega)); rw [← hV] at HX0 ⊢; unfold plV at HX0; unfold loudV; have hkl := World.block_lt_of_cell? _ _ hk; have hal := World.block_lt_of_cell? _ _ ha.1; have hrl := World.block_lt_of_cell? _ _ hrr.1; simp only at hkl hal hrl; clear hT hl hg hr hV
  go_enter Tryz.func188, Tryz.ntmps188
  go_upto_region 1 with fail
  obtain ⟨w1, hw1⟩ : ∃ W, W = ((w.alloc (.cells #[.string nf, .string ty, .slice (some ⟨b, off, none⟩) n c] 168)).alloc (.cells #[.string ⟨#[]⟩, .string ⟨#[]⟩, .slice none 0 0, .int .i64 0] 213)) := ⟨_, rfl⟩; rw [← hw1]; have B4 : Hid (Blk w1 (w.heap.size) 168 #[.string nf, .string ty, .slice (some ⟨b, off, none⟩) n c]) := by show Blk _ _ _ _; rw [hw1]; exact (Blk.new _ _ _).alloc _
  have B5 : Hid (Blk w1 (w.heap.size + 1) 213 #[.string ⟨#[]⟩, .string ⟨#[]⟩, .slice none 0 0, .int .i64 0]) := by show Blk _ _ _ _; rw [hw1]; exact Blk.at_size _ _ (by simp)
  have hb1 : Below w.heap.size w w1 := by rw [hw1]; exact (((Below.refl _ _).alloc (Nat.le_refl _) _).alloc (by simp) _)
  obtain ⟨g4, hg4⟩ : ∃ g, g = w.heap.size := ⟨_, rfl⟩; obtain ⟨g5, hg5⟩ : ∃ g, g = w.heap.size + 1 := ⟨_, rfl⟩; have HGw1 : Hid (g4 = w.heap.size ∧ g5 = w.heap.size + 1) := ⟨hg4, hg5⟩; rw [← hg5] at B5
  try rw [← hg5]
  rw [← hg4] at B4
  try rw [← hg4]
  clear hw1 hg4 hg5; have HK : Hid (w1.cell? ⟨gk, 0, none⟩ = some (.map (some mb))) := (hb1.cell (p := ⟨gk, 0, none⟩) hkl).trans hk; have HA : Hid (w1.cell? ⟨ga, 0, none⟩ = some (.int .i64 0) ∧ w1.cell? ⟨ga, 1, none⟩ = some (.int .i64 100000000)) := ⟨(hb1.cell (p := ⟨ga, 0, none⟩) hal).trans ha.1, (hb1.cell (p := ⟨ga, 1, none⟩) hal).trans ha.2⟩; have HR : Hid (w1.cell? ⟨gr, 0, none⟩ = some (.int .i64 r.x) ∧ w1.cell? ⟨gr, 1, none⟩ = some (.int .i64 r.y) ∧ w1.cell? ⟨gr, 2, none⟩ = some (.int .i64 r.z)) := ⟨(hb1.cell (p := ⟨gr, 0, none⟩) hrl).trans hrr.1, (hb1.cell (p := ⟨gr, 1, none⟩) hrl).trans hrr.2.1, (hb1.cell (p := ⟨gr, 2, none⟩) hrl).trans hrr.2.2⟩; have HLK := Lib.hid (fun (W : World) (e : W.heap[mb]? = w1.heap[mb]?) => hlk W (e.trans (hb1.block mb hmb))); have HMB : Hid (mb < w1.heap.size) := Nat.lt_of_lt_of_le hmb hb1.size; have HX := Lib.hid (fun (W : World) (hb : Below w1.heap.size w1 W) => HX0.out W (hb1.trans (hb.mono hb1.size)))
  have HB1 := Lib.hid hb1; have hg5 : Hid (w.heap.size ≤ g5) := by show _ ≤ _; rw [HGw1.out.2]; omega
  clear hb1 hk ha hrr hlk hmb hkl hal hrl HX0; refine wp_region_grow 11 (by kernel_rfl) (by kernel_rfl) [GR.eq (.agg #[.string nf, .string ty, .slice (some ⟨b, off, none⟩) n c]), GR.eq (.map (some mb)), GR.eq (.pointer (some ⟨g4, 1, none⟩)), GR.eq (.string ty), GR.eq (.agg cs), GR.eq (.pointer (some ⟨g4, 2, none⟩)), GR.eq (.slice (some ⟨b, off, none⟩) n c), GR.eq (.agg #[.int .i64 0, .int .i64 100000000]), GR.eq (.agg #[.int .i64 r.x, .int .i64 r.y, .int .i64 r.z]), GR.eq (.int .i64 V), GR.eq (.agg #[.string nf, .string ty, .slice (some ⟨b, off, none⟩) n c, .int .i64 V])] 17 rfl (by kernel_rfl) ?_ ?_
  · refine ⟨?_, ?_, ?_, ?_, ?_, ?_, ?_, ?_, ?_, ?_, ?_, trivial⟩
    · intro a W hE hd ho; have e4 : a.tmps[4]?.getD undef = .pointer (some ⟨g4, 0, none⟩) := ho 4 (by kernel_rfl); have C := (B4.out.below hE); have k0 := C.cell 0; have k1 := C.cell 1; have k2 := C.cell 2; simp only [List.getElem?_toArray, List.getElem?_cons_zero, List.getElem?_cons_succ] at k0 k1 k2; exact gs_same (v := .agg #[.string nf, .string ty, .slice (some ⟨b, off, none⟩) n c]) (by go_simp) rfl
    · intro a W hE hd ho; have e1 : a.tmps[1]?.getD undef = .pointer (some ⟨gk, 0, none⟩) := ho 1 (by kernel_rfl); have k0 := (hE.cell (p := ⟨gk, 0, none⟩) (World.block_lt_of_cell? _ _ HK.out)).trans HK.out; exact gs_same (v := .map (some mb)) (by go_simp) rfl
    · intro a W hE hd ho; have e4 : a.tmps[4]?.getD undef = .pointer (some ⟨g4, 0, none⟩) := ho 4 (by kernel_rfl); exact gs_same (v := .pointer (some ⟨g4, 1, none⟩)) (by go_simp) rfl
    · intro a W hE hd ho; have e8 : a.tmps[8]?.getD undef = .pointer (some ⟨g4, 1, none⟩) := hd 2 8 (by kernel_rfl) (by kernel_rfl); have C := (B4.out.below hE); have k0 := C.cell 0; have k1 := C.cell 1; have k2 := C.cell 2; simp only [List.getElem?_toArray, List.getElem?_cons_zero, List.getElem?_cons_succ] at k0 k1 k2; exact gs_same (v := .string ty) (by go_simp) rfl
    · intro a W hE hd ho; have e7 : a.tmps[7]?.getD undef = .map (some mb) := hd 1 7 (by kernel_rfl) (by kernel_rfl); have e9 : a.tmps[9]?.getD undef = .string ty := hd 3 9 (by kernel_rfl) (by kernel_rfl); have hlk := HLK.out W (hE.block mb HMB.out); exact gs_same (v := .agg cs) (by go_simp) rfl
    · intro a W hE hd ho; have e4 : a.tmps[4]?.getD undef = .pointer (some ⟨g4, 0, none⟩) := ho 4 (by kernel_rfl); exact gs_same (v := .pointer (some ⟨g4, 2, none⟩)) (by go_simp) rfl
    · intro a W hE hd ho; have e11 : a.tmps[11]?.getD undef = .pointer (some ⟨g4, 2, none⟩) := hd 5 11 (by kernel_rfl) (by kernel_rfl); have C := (B4.out.below hE); have k0 := C.cell 0; have k1 := C.cell 1; have k2 := C.cell 2; simp only [List.getElem?_toArray, List.getElem?_cons_zero, List.getElem?_cons_succ] at k0 k1 k2; exact gs_same (v := .slice (some ⟨b, off, none⟩) n c) (by go_simp) rfl
    · intro a W hE hd ho; have e2 : a.tmps[2]?.getD undef = .pointer (some ⟨ga, 0, none⟩) := ho 2 (by kernel_rfl); have k0 := (hE.cell (p := ⟨ga, 0, none⟩) (World.block_lt_of_cell? _ _ HA.out.1)).trans HA.out.1; have k1 := (hE.cell (p := ⟨ga, 1, none⟩) (World.block_lt_of_cell? _ _ HA.out.2)).trans HA.out.2; exact gs_same (v := .agg #[.int .i64 0, .int .i64 100000000]) (by go_simp) rfl
    · intro a W hE hd ho; have e3 : a.tmps[3]?.getD undef = .pointer (some ⟨gr, 0, none⟩) := ho 3 (by kernel_rfl); have k0 := (hE.cell (p := ⟨gr, 0, none⟩) (World.block_lt_of_cell? _ _ HR.out.1)).trans HR.out.1; have k1 := (hE.cell (p := ⟨gr, 1, none⟩) (World.block_lt_of_cell? _ _ HR.out.2.1)).trans HR.out.2.1; have k2 := (hE.cell (p := ⟨gr, 2, none⟩) (World.block_lt_of_cell? _ _ HR.out.2.2)).trans HR.out.2.2; exact gs_same (v := .agg #[.int .i64 r.x, .int .i64 r.y, .int .i64 r.z]) (by go_simp) rfl
    · intro a W hE hd ho; have e10 : a.tmps[10]?.getD undef = .agg cs := hd 4 10 (by kernel_rfl) (by kernel_rfl); have e12 : a.tmps[12]?.getD undef = .slice (some ⟨b, off, none⟩) n c := hd 6 12 (by kernel_rfl) (by kernel_rfl); have e13 : a.tmps[13]?.getD undef = .agg #[.int .i64 0, .int .i64 100000000] := hd 7 13 (by kernel_rfl) (by kernel_rfl); have e14 : a.tmps[14]?.getD undef = .agg #[.int .i64 r.x, .int .i64 r.y, .int .i64 r.z] := hd 8 14 (by kernel_rfl) (by kernel_rfl); refine gs_call (f := 135) (args := #[.agg cs, .slice (some ⟨b, off, none⟩) n c, .agg #[.int .i64 0, .int .i64 100000000], .agg #[.int .i64 r.x, .int .i64 r.y, .int .i64 r.z]]) (by go_simp) ?_; refine (HX.out W hE).mono ?_; rintro e w' ⟨rfl, hb⟩; exact ⟨_, rfl, hb, rfl⟩
    · intro a W hE hd ho; have e6 : a.tmps[6]?.getD undef = .agg #[.string nf, .string ty, .slice (some ⟨b, off, none⟩) n c] := hd 0 6 (by kernel_rfl) (by kernel_rfl); have e15 : a.tmps[15]?.getD undef = .int .i64 V := hd 9 15 (by kernel_rfl) (by kernel_rfl); exact gs_same (v := .agg #[.string nf, .string ty, .slice (some ⟨b, off, none⟩) n c, .int .i64 V]) (by go_simp) rfl
  intro vs w2 hE hR; have y0 : vs 0 = .agg #[.string nf, .string ty, .slice (some ⟨b, off, none⟩) n c] := hR 0 (by omega); have y1 : vs 1 = .map (some mb) := hR 1 (by omega); have y2 : vs 2 = .pointer (some ⟨g4, 1, none⟩) := hR 2 (by omega); have y3 : vs 3 = .string ty := hR 3 (by omega); have y4 : vs 4 = .agg cs := hR 4 (by omega); have y5 : vs 5 = .pointer (some ⟨g4, 2, none⟩) := hR 5 (by omega); have y6 : vs 6 = .slice (some ⟨b, off, none⟩) n c := hR 6 (by omega); have y7 : vs 7 = .agg #[.int .i64 0, .int .i64 100000000] := hR 7 (by omega); have y8 : vs 8 = .agg #[.int .i64 r.x, .int .i64 r.y, .int .i64 r.z] := hR 8 (by omega); have y9 : vs 9 = .int .i64 V := hR 9 (by omega); have y10 : vs 10 = .agg #[.string nf, .string ty, .slice (some ⟨b, off, none⟩) n c, .int .i64 V] := hR 10 (by omega); simp only [List.range, List.range.loop, List.foldl_cons, List.foldl_nil, y0, y1, y2, y3, y4, y5, y6, y7, y8, y9, y10, List.drop_succ_cons, List.drop_zero]
  simp only [dstAt, List.getElem?_toArray, List.getElem?_cons_zero, List.getElem?_cons_succ, Option.bind_some, Act.put, List.setIfInBounds_toArray, List.set_cons_zero, List.set_cons_succ]; clear y0 y1 y2 y3 y4 y5 y6 y7 y8 y9 y10 hR; replace B5 := Lib.hid (B5.out.below hE); have HB2 := Lib.hid (HB1.out.trans (hE.mono HB1.out.size)); clear hE HX HMB HLK HR HA HK B4 HB1; have hlv := (B5.out.setRow #[.string nf, .string ty, .slice (some ⟨b, off, none⟩) n c, .int .i64 V]).lv Tryz.prog (T := 213) Tryz.underlying213 rfl (by kernel_rfl); have HLV := Lib.hid hlv; clear hlv
  go_wp2_with (refine wpList_store_row rfl 213 _ _ rfl g5 #[.string nf, .string ty, .slice (some ⟨b, off, none⟩) n c, .int .i64 V] rfl rfl 213 _ B5.out (by kernel_rfl) rfl (by simp [Value.oneCell']) ?_)
  refine bodyPost_ret (v := .agg #[.string nf, .string ty, .slice (some ⟨b, off, none⟩) n c, .int .i64 V]) (by simp [results, Tryz.results188, asAddr]; exact HLV.out) rfl ?_; exact ⟨rfl, HB2.out.setRow' hg5.out _⟩
end Go.Proofs.YtmafmebcgmegeaaGreatDoor
