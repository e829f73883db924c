/- Part. -/
import Derived.Test.YtmafmebcgmegeaaGreatDoorGz1
import Derived.Test.YtmafmebcgmegeaaGreatDoorGz15
import Derived.Test.YtmafmebcgmegeaaGreatDoorGz11
import Derived.Test.YtmafmebcgmegeaaGreatDoorGz2
import Derived.OwnWalk
import Derived.Laws.OwnMore
namespace Go.Proofs.YtmafmebcgmegeaaGreatDoor
open Go.RowKit Go.Sort
theorem run_makeMap_hint {P : Program} {t k e : TypeId} (ht : P.underlying t = some (.map k e)) (kd : IntKind) (n : Int) (w : World) : (Instr.makeMap t (some (.int kd n))).run P w = .ok (.map (some w.heap.size)) (w.alloc (.map #[] 0)) := by
 simp [Instr.makeMap, run_underlying ht, asInt, asIntOf, Result.andThen]
structure Tp where
 nm : ByteArray
 sh : List Int
 T : Bell.Ty
 sa : Option Addr
 sn : Nat
 sc : Nat
 qb : Nat
 qo : Nat
 qn : Nat
 qc : Nat
 gb : Nat
 go : Nat
 gn : Nat
 gc : Nat
def Tp.cs (t : Tp) : Array Value := tyV t.nm t.sa t.sn t.sc t.T (some ⟨t.qb, t.qo, none⟩) t.qn t.qc (some ⟨t.gb, t.go, none⟩) t.gn t.gc
def Tp.none : Tp := ⟨⟨#[]⟩, [], ⟨[], 0, [], []⟩, Option.none, 0, 0, 0, 0, 0, 0, 0, 0, 0, 0⟩
def TpOk (w : World) (t : Tp) : Prop := TyOk w t.cs t.nm t.sh t.T t.sa t.sn t.sc t.qb t.qo t.qn t.qc t.gb t.go t.gn t.gc
def tpAt (ts : List Tp) (i : Nat) : Tp := ts.getD i Tp.none
def TpsAt (w : World) (A : Option Addr) (n : Nat) (ts : List Tp) : Prop :=
 ts.length = n /\ (0 < n -> ∃ b o, A = some ⟨b, o, Option.none⟩ /\ ∀ i, i < n -> (∀ j, j < 13 -> w.cell? ⟨b, o + i * 13 + j, Option.none⟩ = some ((tpAt ts i).cs.getD j undef)) /\ TpOk w (tpAt ts i))
theorem TpsAt.keep {w w' : World} {A : Option Addr} {n : Nat} {ts : List Tp} (h : TpsAt w A n ts) (hb : Below w.heap.size w w') : TpsAt w' A n ts :=
 ⟨h.1, fun hn => by
  obtain ⟨b, o, e, hc⟩ := h.2 hn
  have k : ∀ {j : Nat} {v : Value}, w.cell? ⟨b, j, Option.none⟩ = some v -> w'.cell? ⟨b, j, Option.none⟩ = some v := fun {j v} hc => by
   rw [hb.cell (p := ⟨b, j, Option.none⟩) (World.block_lt_of_cell? _ _ hc)]; exact hc
  exact ⟨b, o, e, fun i hi => ⟨fun j hj => k ((hc i hi).1 j hj), TyOk.keep (hc i hi).2 hb⟩⟩⟩
def kesTo (ts : List Tp) (j : Nat) : List (ByteArray × Value) := (List.range j).map fun i => ((tpAt ts i).nm, Value.agg (tpAt ts i).cs)
theorem kesTo_succ (ts : List Tp) (j : Nat) : kesTo ts (j + 1) = kesTo ts j ++ [((tpAt ts j).nm, Value.agg (tpAt ts j).cs)] := by
 unfold kesTo; rw [List.range_succ, List.map_append]
 rfl
def Distinct (ts : List Tp) (n : Nat) : Prop := ∀ i j, i < j -> j < n -> (tpAt ts i).nm ≠ (tpAt ts j).nm
theorem kesTo_lacks {ts : List Tp} {n j : Nat} (h : Distinct ts n) (hj : j < n) : mapGet (kesTo ts j) (tpAt ts j).nm = none := by
 rw [mapGet_none]; intro x hx; obtain ⟨i, hi, rfl⟩ := List.mem_map.1 hx; exact h i j (List.mem_range.1 hi) hj
theorem cs_size (t : Tp) : t.cs.size = 13 := rfl
theorem cs_one (t : Tp) : t.cs.all (·.oneCell') = true := by
 simp [Tp.cs, tyV, Value.oneCell']
theorem kesTo_known {w : World} {b : Nat} {ts : List Tp} {n : Nat} (h : MapIs w b (kesTo ts n)) : KnownIs w b (kesTo ts n) :=
 ⟨h, fun x hx => by
  obtain ⟨i, _, rfl⟩ := List.mem_map.1 hx; exact ⟨_, rfl, cs_size _, cs_one _⟩⟩
set_option maxHeartbeats 1000000 in
set_option maxRecDepth 100000 in
theorem named_ok (A : Option Addr) (n c : Nat) (ts : List Tp) (w : World) (hts : TpsAt w A n ts) (hd : Distinct ts n) (hn8 : n <= 8) :
  Calls Tryz.prog 145 #[.slice A n c] w fun e w' => ∃ mb, e = .returned (.tuple #[.map (some mb), .int .i64 0]) /\ KnownIs w' mb (kesTo ts n) /\ Below w.heap.size w w' := by
 have hmm := run_makeMap_hint (P := Tryz.prog) typeM_under .i64 n; have hE : Hid (atMostE n 8 = 0) := by show _ = _; unfold atMostE; rw [if_neg (by omega)]
 have HTS := lh hts; have HD := lh hd; clear hts hd
 go_enter Tryz.func145, Tryz.ntmps145
 go_wp2_with fail
 refine (atMost_type A n c 8 w).mono ?_; rw [hE.out]; rintro e W ⟨rfl, hW⟩; obtain rfl := hW.symm
 go_upto_region 5 with fail
 generalize hX : w.alloc (.map #[] 0) = x1
 have hs1 : MapIs x1 w.heap.size (kesTo ts 0) := by rw [<- hX]; exact MapIs.fresh w
 have hb1 : Below w.heap.size w x1 := by rw [<- hX]; exact (Below.refl _ _).alloc (Nat.le_refl _) _
 obtain ⟨sm, hsm⟩ : ∃ g, g = w.heap.size := ⟨_, rfl⟩; rw [<- hsm] at hs1 ⊢; have HSM : Hid (sm = w.heap.size) := hsm; have HS1 := lh hs1; have HB1 : Hid (Below w.heap.size w x1) := hb1; clear hX hs1 hb1 hsm hmm; go_wp2
 go_loopw [21] (fun k wr => ∃ j : Nat, j <= n /\ k = .int .i64 j /\ Hid (MapIs wr sm (kesTo ts j)) /\ Hid (OnlyMap sm x1 wr)) (fun k _ => n - (intOf k).toNat)
 case atStart => exact ⟨0, Nat.zero_le _, rfl, HS1, OnlyMap.refl _ _⟩
 case round =>
  obtain ⟨j, hj, rfl, hm, ho⟩ := hrel
  by_cases hlt : j < n
  ·have HW : Hid (Below w.heap.size w wr) := HB1.out.trans (ho.out.below HB1.out.size (by rw [HSM.out]; exact Nat.le_refl _)); obtain ⟨b, o, rfl, hc⟩ := (HTS.out.keep HW.out).2 (by omega); obtain ⟨hcs, hok⟩ := hc j hlt; have hlk := kesTo_lacks HD.out hlt; have HK : Hid (kesTo ts (j + 1) = kesTo ts j ++ [((tpAt ts j).nm, Value.agg (tpAt ts j).cs)]) := kesTo_succ ts j; obtain ⟨T, hT⟩ : ∃ T, T = tpAt ts j := ⟨_, rfl⟩; rw [<- hT] at hcs hok hlk HK; have c0 := hcs 0 (by omega); have c1 := hcs 1 (by omega); have c2 := hcs 2 (by omega); have c3 := hcs 3 (by omega); have c4 := hcs 4 (by omega); have c5 := hcs 5 (by omega); have c6 := hcs 6 (by omega); have c7 := hcs 7 (by omega); have c8 := hcs 8 (by omega); have c9 := hcs 9 (by omega); have c10 := hcs 10 (by omega); have c11 := hcs 11 (by omega); have c12 := hcs 12 (by omega); simp only [Tp.cs, tyV, Array.getD_eq_getD_getElem?, List.getElem?_toArray, List.getElem?_cons_zero, List.getElem?_cons_succ, Option.getD_some, Nat.add_zero] at c0 c1 c2 c3 c4 c5 c6 c7 c8 c9 c10 c11 c12
   obtain ⟨d0, h0⟩ : ∃ d, d = T.T.direct.getD 0 0 := ⟨_, rfl⟩; obtain ⟨d1, h1⟩ : ∃ d, d = T.T.direct.getD 1 0 := ⟨_, rfl⟩; obtain ⟨d2, h2⟩ : ∃ d, d = T.T.direct.getD 2 0 := ⟨_, rfl⟩; obtain ⟨d3, h3⟩ : ∃ d, d = T.T.direct.getD 3 0 := ⟨_, rfl⟩; obtain ⟨d4, h4⟩ : ∃ d, d = T.T.direct.getD 4 0 := ⟨_, rfl⟩; obtain ⟨d5, h5⟩ : ∃ d, d = T.T.direct.getD 5 0 := ⟨_, rfl⟩; obtain ⟨d6, h6⟩ : ∃ d, d = T.T.direct.getD 6 0 := ⟨_, rfl⟩; obtain ⟨d7, h7⟩ : ∃ d, d = T.T.direct.getD 7 0 := ⟨_, rfl⟩; have hcsE : T.cs = #[.string T.nm, .slice T.sa T.sn T.sc, .int .i64 d0, .int .i64 d1, .int .i64 d2, .int .i64 d3, .int .i64 d4, .int .i64 d5, .int .i64 d6, .int .i64 d7, .int .i64 T.T.side, .slice (some ⟨T.qb, T.qo, none⟩) T.qn T.qc, .slice (some ⟨T.gb, T.go, none⟩) T.gn T.gc] := by rw [h0, h1, h2, h3, h4, h5, h6, h7]; rfl
   rw [<- h0] at c2; rw [<- h1] at c3; rw [<- h2] at c4; rw [<- h3] at c5; rw [<- h4] at c6; rw [<- h5] at c7; rw [<- h6] at c8; rw [<- h7] at c9
   have HOK : Hid (TyOk wr #[.string T.nm, .slice T.sa T.sn T.sc, .int .i64 d0, .int .i64 d1, .int .i64 d2, .int .i64 d3, .int .i64 d4, .int .i64 d5, .int .i64 d6, .int .i64 d7, .int .i64 T.T.side, .slice (some ⟨T.qb, T.qo, none⟩) T.qn T.qc, .slice (some ⟨T.gb, T.go, none⟩) T.gn T.gc] T.nm T.sh T.T T.sa T.sn T.sc T.qb T.qo T.qn T.qc T.gb T.go T.gn T.gc) := by
    rw [<- hcsE]; exact hok
   rw [hcsE] at HK; have HL := lh hlk; clear hc hcs hok hlk hT hcsE h0 h1 h2 h3 h4 h5 h6 h7
   go_upto_region 8 with fail
   obtain ⟨wa, hwa⟩ : ∃ W, W = (wr.alloc (.cells #[.string T.nm, .slice T.sa T.sn T.sc, .int .i64 d0, .int .i64 d1, .int .i64 d2, .int .i64 d3, .int .i64 d4, .int .i64 d5, .int .i64 d6, .int .i64 d7, .int .i64 T.T.side, .slice (some ⟨T.qb, T.qo, none⟩) T.qn T.qc, .slice (some ⟨T.gb, T.go, none⟩) T.gn T.gc] 42)) := ⟨_, rfl⟩; rw [<- hwa]; have B : Hid (Blk wa (wr.heap.size) 42 #[.string T.nm, .slice T.sa T.sn T.sc, .int .i64 d0, .int .i64 d1, .int .i64 d2, .int .i64 d3, .int .i64 d4, .int .i64 d5, .int .i64 d6, .int .i64 d7, .int .i64 T.T.side, .slice (some ⟨T.qb, T.qo, none⟩) T.qn T.qc, .slice (some ⟨T.gb, T.go, none⟩) T.gn T.gc]) := by show Blk _ _ _ _; rw [hwa]; exact Blk.new _ _ _
   have hba : Below wr.heap.size wr wa := by rw [hwa]; exact ((Below.refl _ _).alloc (Nat.le_refl _) _)
   obtain ⟨g7, hg7⟩ : ∃ g, g = wr.heap.size := ⟨_, rfl⟩; have HGwa : Hid (g7 = wr.heap.size) := hg7; rw [<- hg7] at B
   try rw [<- hg7]
   clear hwa hg7; have BB := B.out; have zc0 := BB.cell 0; have zf0 := BB.frozen 0; have zc1 := BB.cell 1; have zf1 := BB.frozen 1; have zc2 := BB.cell 2; have zf2 := BB.frozen 2; have zc3 := BB.cell 3; have zf3 := BB.frozen 3; have zc4 := BB.cell 4; have zf4 := BB.frozen 4; have zc5 := BB.cell 5; have zf5 := BB.frozen 5; have zc6 := BB.cell 6; have zf6 := BB.frozen 6; have zc7 := BB.cell 7; have zf7 := BB.frozen 7; have zc8 := BB.cell 8; have zf8 := BB.frozen 8; have zc9 := BB.cell 9; have zf9 := BB.frozen 9; have zc10 := BB.cell 10; have zf10 := BB.frozen 10; have zc11 := BB.cell 11; have zf11 := BB.frozen 11; have zc12 := BB.cell 12; have zf12 := BB.frozen 12; simp only [List.getElem?_toArray, List.getElem?_cons_zero, List.getElem?_cons_succ] at zc0 zc1 zc2 zc3 zc4 zc5 zc6 zc7 zc8 zc9 zc10 zc11 zc12; clear BB; clear c0 c1 c2 c3 c4 c5 c6 c7 c8 c9 c10 c11 c12; replace HOK := lh (HOK.out.keep hba)
   replace hm := lh (hm.out.keep hba); replace ho := lh (ho.out.trans (OnlyMap.of hba)); clear hba
   go_upto_region 9 with fail
   refine (CheckType_ok wa HOK.out).mono ?_; rintro e wb ⟨rfl, hb⟩; replace hm := lh (hm.out.keep hb); replace ho := lh (ho.out.trans (OnlyMap.of hb)); replace B := lh (B.out.below hb); clear hb zc0 zc1 zc2 zc3 zc4 zc5 zc6 zc7 zc8 zc9 zc10 zc11 zc12 zf0 zf1 zf2 zf3 zf4 zf5 zf6 zf7 zf8 zf9 zf10 zf11 zf12; have BB := B.out; have zc0 := BB.cell 0; have zf0 := BB.frozen 0; have zc1 := BB.cell 1; have zf1 := BB.frozen 1; have zc2 := BB.cell 2; have zf2 := BB.frozen 2; have zc3 := BB.cell 3; have zf3 := BB.frozen 3; have zc4 := BB.cell 4; have zf4 := BB.frozen 4; have zc5 := BB.cell 5; have zf5 := BB.frozen 5; have zc6 := BB.cell 6; have zf6 := BB.frozen 6; have zc7 := BB.cell 7; have zf7 := BB.frozen 7; have zc8 := BB.cell 8; have zf8 := BB.frozen 8; have zc9 := BB.cell 9; have zf9 := BB.frozen 9; have zc10 := BB.cell 10; have zf10 := BB.frozen 10; have zc11 := BB.cell 11; have zf11 := BB.frozen 11; have zc12 := BB.cell 12; have zf12 := BB.frozen 12
   simp only [List.getElem?_toArray, List.getElem?_cons_zero, List.getElem?_cons_succ] at zc0 zc1 zc2 zc3 zc4 zc5 zc6 zc7 zc8 zc9 zc10 zc11 zc12; clear BB; have hlook : (Instr.lookup 219 (.map (some sm)) (.string T.nm) true).run Tryz.prog wb = .ok (.tuple #[.agg #[.string ⟨#[]⟩, .slice none 0 0, .int .i64 0, .int .i64 0, .int .i64 0, .int .i64 0, .int .i64 0, .int .i64 0, .int .i64 0, .int .i64 0, .int .i64 0, .slice none 0 0, .slice none 0 0], .bool false]) wb := lookup_lacks typeM_under str_under hm.out (type_zero _) HL.out true
   go_upto_region 12 with fail
   obtain ⟨wc, hwc⟩ : ∃ W, W = (wb.alloc (.cells #[.string ⟨#[]⟩, .slice none 0 0, .int .i64 0, .int .i64 0, .int .i64 0, .int .i64 0, .int .i64 0, .int .i64 0, .int .i64 0, .int .i64 0, .int .i64 0, .slice none 0 0, .slice none 0 0] 42)) := ⟨_, rfl⟩; rw [<- hwc]; have B9 : Hid (Blk wc (wb.heap.size) 42 #[.string ⟨#[]⟩, .slice none 0 0, .int .i64 0, .int .i64 0, .int .i64 0, .int .i64 0, .int .i64 0, .int .i64 0, .int .i64 0, .int .i64 0, .int .i64 0, .slice none 0 0, .slice none 0 0]) := by show Blk _ _ _ _; rw [hwc]; exact Blk.new _ _ _
   have hbc : Below wb.heap.size wb wc := by rw [hwc]; exact ((Below.refl _ _).alloc (Nat.le_refl _) _)
   obtain ⟨g9, hg9⟩ : ∃ g, g = wb.heap.size := ⟨_, rfl⟩; have HGwc : Hid (g9 = wb.heap.size) := hg9; rw [<- hg9] at B9
   try rw [<- hg9]
   clear hwc hg9; replace hm := lh (hm.out.keep hbc); replace ho := lh (ho.out.trans (OnlyMap.of hbc)); replace B := lh (B.out.below hbc); clear hbc hlook zc0 zc1 zc2 zc3 zc4 zc5 zc6 zc7 zc8 zc9 zc10 zc11 zc12 zf0 zf1 zf2 zf3 zf4 zf5 zf6 zf7 zf8 zf9 zf10 zf11 zf12 B9; have BB := B.out; have zc0 := BB.cell 0; have zf0 := BB.frozen 0; have zc1 := BB.cell 1; have zf1 := BB.frozen 1; have zc2 := BB.cell 2; have zf2 := BB.frozen 2; have zc3 := BB.cell 3; have zf3 := BB.frozen 3; have zc4 := BB.cell 4; have zf4 := BB.frozen 4; have zc5 := BB.cell 5; have zf5 := BB.frozen 5; have zc6 := BB.cell 6; have zf6 := BB.frozen 6; have zc7 := BB.cell 7; have zf7 := BB.frozen 7; have zc8 := BB.cell 8; have zf8 := BB.frozen 8; have zc9 := BB.cell 9; have zf9 := BB.frozen 9; have zc10 := BB.cell 10; have zf10 := BB.frozen 10; have zc11 := BB.cell 11; have zf11 := BB.frozen 11; have zc12 := BB.cell 12; have zf12 := BB.frozen 12
   simp only [List.getElem?_toArray, List.getElem?_cons_zero, List.getElem?_cons_succ] at zc0 zc1 zc2 zc3 zc4 zc5 zc6 zc7 zc8 zc9 zc10 zc11 zc12; clear BB; obtain ⟨wd, hwd⟩ : ∃ X, X = World.mapPut wc sm T.nm (.agg #[.string T.nm, .slice T.sa T.sn T.sc, .int .i64 d0, .int .i64 d1, .int .i64 d2, .int .i64 d3, .int .i64 d4, .int .i64 d5, .int .i64 d6, .int .i64 d7, .int .i64 T.T.side, .slice (some ⟨T.qb, T.qo, none⟩) T.qn T.qc, .slice (some ⟨T.gb, T.go, none⟩) T.gn T.gc]) := ⟨_, rfl⟩; have hup : (Instr.mapUpdate 219 (.map (some sm)) (.string T.nm) (.agg #[.string T.nm, .slice T.sa T.sn T.sc, .int .i64 d0, .int .i64 d1, .int .i64 d2, .int .i64 d3, .int .i64 d4, .int .i64 d5, .int .i64 d6, .int .i64 d7, .int .i64 T.T.side, .slice (some ⟨T.qb, T.qo, none⟩) T.qn T.qc, .slice (some ⟨T.gb, T.go, none⟩) T.gn T.gc])).run Tryz.prog wc = .ok () wd := by rw [hwd]; exact update_new typeM_under str_under hm.out HL.out _
   have hmF : Hid (MapIs wd sm (kesTo ts (j + 1))) := by
    show MapIs _ _ _
    rw [HK.out, hwd]; exact hm.out.put _ _
   have hoF : Hid (OnlyMap sm x1 wd) := by
    show OnlyMap _ _ _
    rw [hwd]; exact ho.out.trans (OnlyMap.put _ _ _ _)
   clear hwd; go_wp2; go_roundw
   case rel => exact ⟨j + 1, by omega, by go_num, hmF, hoF⟩
   case measure => simp [intOf]; omega
  ·obtain rfl : j = n := by omega
   have HF : Hid (Below w.heap.size w wr) := HB1.out.trans (ho.out.below HB1.out.size (by rw [HSM.out]; exact Nat.le_refl _)); go_wp2
   (try simp only [Exit.inBlock, Exit.then])
   refine bodyPost_ret (v := .tuple #[.map (some sm), .int .i64 0]) (by simp [results, Tryz.results145, go_sem, asAddr]) rfl ?_; exact ⟨sm, rfl, kesTo_known hm.out, HF.out⟩
def loudV (nf ty : ByteArray) (A : Option Addr) (n c : Nat) (V : Int) : Array Value := #[.string nf, .string ty, .slice A n c, .int .i64 V]
set_option maxHeartbeats 1000000 in
set_option maxRecDepth 100000 in
theorem exposed1_any {cs : Array Value} {nm : ByteArray} {sh : List Int} {T : Bell.Ty} {sa : Option Addr} {sn sc qb qo qn qc gb go gn gc : Nat} (nf ty : ByteArray) (b off n c : Nat) (l : List Bell.Fx) (r : Bell.Pl) (gk ga gr mb : Nat) (w : World) (hT : TyOk w cs nm sh T sa sn sc qb qo qn qc gb go gn gc)
  (hl : FixesAt w b off n l) (hg : Bell.GoodTr l) (hr : GoodPl r) (hk : w.cell? ⟨gk, 0, none⟩ = some (.map (some mb))) (hlk : ∀ W, W.heap[mb]? = w.heap[mb]? -> (Instr.lookup 219 (.map (some mb)) (.string ty) false).run Tryz.prog W = .ok (.agg cs) W) (hmb : mb < w.heap.size)
  (ha : w.cell? ⟨ga, 0, none⟩ = some (.int .i64 0) /\ w.cell? ⟨ga, 1, none⟩ = some (.int .i64 100000000)) (hrr : w.cell? ⟨gr, 0, none⟩ = some (.int .i64 r.x) /\ w.cell? ⟨gr, 1, none⟩ = some (.int .i64 r.y) /\ w.cell? ⟨gr, 2, none⟩ = some (.int .i64 r.z)) :
  Calls Tryz.prog 188 #[.agg #[.string nf, .string ty, .slice (some ⟨b, off, none⟩) n c], .pointer (some ⟨gk, 0, none⟩), .pointer (some ⟨ga, 0, none⟩), .pointer (some ⟨gr, 0, none⟩)] w
   fun e w' => e = .returned (.agg (loudV nf ty (some ⟨b, off, none⟩) n c (Bell.expoOf T l r 0 100000000))) /\ Below w.heap.size w w' := by
 obtain ⟨V, hV⟩ : ∃ V, V = Bell.expoOf T l r 0 100000000 := ⟨_, rfl⟩; have HX0 := lh (fun W (hb : Below w.heap.size w W) => exposure_any b off n c l 0 100000000 r W (hT.keep hb) (hl.keep hb) hg hr (by omega) (by omega) (by omega)); rw [<- hV] at HX0 ⊢; unfold plV at HX0; unfold loudV; have hkl := World.block_lt_of_cell? _ _ hk; have hal := World.block_lt_of_cell? _ _ ha.1; have hrl := World.block_lt_of_cell? _ _ hrr.1; simp only at hkl hal hrl; clear hT hl hg hr hV
 go_enter Tryz.func188, Tryz.ntmps188
 go_upto_region 1 with fail
 obtain ⟨w1, hw1⟩ : ∃ W, W = ((w.alloc (.cells #[.string nf, .string ty, .slice (some ⟨b, off, none⟩) n c] 168)).alloc (.cells #[.string ⟨#[]⟩, .string ⟨#[]⟩, .slice none 0 0, .int .i64 0] 213)) := ⟨_, rfl⟩; rw [<- hw1]; have B4 : Hid (Blk w1 (w.heap.size) 168 #[.string nf, .string ty, .slice (some ⟨b, off, none⟩) n c]) := by show Blk _ _ _ _; rw [hw1]; exact (Blk.new _ _ _).alloc _
 have B5 : Hid (Blk w1 (w.heap.size + 1) 213 #[.string ⟨#[]⟩, .string ⟨#[]⟩, .slice none 0 0, .int .i64 0]) := by show Blk _ _ _ _; rw [hw1]; exact Blk.at_size _ _ (by simp)
 have hb1 : Below w.heap.size w w1 := by rw [hw1]; exact (((Below.refl _ _).alloc (Nat.le_refl _) _).alloc (by simp) _)
 obtain ⟨g4, hg4⟩ : ∃ g, g = w.heap.size := ⟨_, rfl⟩; obtain ⟨g5, hg5⟩ : ∃ g, g = w.heap.size + 1 := ⟨_, rfl⟩; have HGw1 : Hid (g4 = w.heap.size /\ g5 = w.heap.size + 1) := ⟨hg4, hg5⟩; rw [<- hg5] at B5
 try rw [<- hg5]
 rw [<- hg4] at B4
 try rw [<- hg4]
 clear hw1 hg4 hg5; have HK : Hid (w1.cell? ⟨gk, 0, none⟩ = some (.map (some mb))) := (hb1.cell (p := ⟨gk, 0, none⟩) hkl).trans hk; have HA : Hid (w1.cell? ⟨ga, 0, none⟩ = some (.int .i64 0) /\ w1.cell? ⟨ga, 1, none⟩ = some (.int .i64 100000000)) := ⟨(hb1.cell (p := ⟨ga, 0, none⟩) hal).trans ha.1, (hb1.cell (p := ⟨ga, 1, none⟩) hal).trans ha.2⟩; have HR : Hid (w1.cell? ⟨gr, 0, none⟩ = some (.int .i64 r.x) /\ w1.cell? ⟨gr, 1, none⟩ = some (.int .i64 r.y) /\ w1.cell? ⟨gr, 2, none⟩ = some (.int .i64 r.z)) := ⟨(hb1.cell (p := ⟨gr, 0, none⟩) hrl).trans hrr.1, (hb1.cell (p := ⟨gr, 1, none⟩) hrl).trans hrr.2.1, (hb1.cell (p := ⟨gr, 2, none⟩) hrl).trans hrr.2.2⟩; have HLK := lh (fun (W : World) (e : W.heap[mb]? = w1.heap[mb]?) => hlk W (e.trans (hb1.block mb hmb))); have HMB : Hid (mb < w1.heap.size) := Nat.lt_of_lt_of_le hmb hb1.size; have HX := lh (fun (W : World) (hb : Below w1.heap.size w1 W) => HX0.out W (hb1.trans (hb.mono hb1.size)))
 have HB1 := lh hb1; have hg5 : Hid (w.heap.size <= g5) := by show _ <= _; rw [HGw1.out.2]; omega
 clear hb1 hk ha hrr hlk hmb hkl hal hrl HX0; refine wp_region_grow 11 (by kernel_rfl) (by kernel_rfl) [GR.eq (.agg #[.string nf, .string ty, .slice (some ⟨b, off, none⟩) n c]), GR.eq (.map (some mb)), GR.eq (.pointer (some ⟨g4, 1, none⟩)), GR.eq (.string ty), GR.eq (.agg cs), GR.eq (.pointer (some ⟨g4, 2, none⟩)), GR.eq (.slice (some ⟨b, off, none⟩) n c), GR.eq (.agg #[.int .i64 0, .int .i64 100000000]), GR.eq (.agg #[.int .i64 r.x, .int .i64 r.y, .int .i64 r.z]), GR.eq (.int .i64 V), GR.eq (.agg #[.string nf, .string ty, .slice (some ⟨b, off, none⟩) n c, .int .i64 V])] 17 rfl (by kernel_rfl) ?_ ?_
 ·refine ⟨?_, ?_, ?_, ?_, ?_, ?_, ?_, ?_, ?_, ?_, ?_, trivial⟩
  ·intro a W hE hd ho; have e4 : a.tmps[4]?.getD undef = .pointer (some ⟨g4, 0, none⟩) := ho 4 (by kernel_rfl); have C := (B4.out.below hE); have k0 := C.cell 0; have k1 := C.cell 1; have k2 := C.cell 2; simp only [List.getElem?_toArray, List.getElem?_cons_zero, List.getElem?_cons_succ] at k0 k1 k2; exact gs_same (v := .agg #[.string nf, .string ty, .slice (some ⟨b, off, none⟩) n c]) (by go_simp) rfl
  ·intro a W hE hd ho; have e1 : a.tmps[1]?.getD undef = .pointer (some ⟨gk, 0, none⟩) := ho 1 (by kernel_rfl); have k0 := (hE.cell (p := ⟨gk, 0, none⟩) (World.block_lt_of_cell? _ _ HK.out)).trans HK.out; exact gs_same (v := .map (some mb)) (by go_simp) rfl
  ·intro a W hE hd ho; have e4 : a.tmps[4]?.getD undef = .pointer (some ⟨g4, 0, none⟩) := ho 4 (by kernel_rfl); exact gs_same (v := .pointer (some ⟨g4, 1, none⟩)) (by go_simp) rfl
  ·intro a W hE hd ho; have e8 : a.tmps[8]?.getD undef = .pointer (some ⟨g4, 1, none⟩) := hd 2 8 (by kernel_rfl) (by kernel_rfl); have C := (B4.out.below hE); have k0 := C.cell 0; have k1 := C.cell 1; have k2 := C.cell 2; simp only [List.getElem?_toArray, List.getElem?_cons_zero, List.getElem?_cons_succ] at k0 k1 k2; exact gs_same (v := .string ty) (by go_simp) rfl
  ·intro a W hE hd ho; have e7 : a.tmps[7]?.getD undef = .map (some mb) := hd 1 7 (by kernel_rfl) (by kernel_rfl); have e9 : a.tmps[9]?.getD undef = .string ty := hd 3 9 (by kernel_rfl) (by kernel_rfl); have hlk := HLK.out W (hE.block mb HMB.out); exact gs_same (v := .agg cs) (by go_simp) rfl
  ·intro a W hE hd ho; have e4 : a.tmps[4]?.getD undef = .pointer (some ⟨g4, 0, none⟩) := ho 4 (by kernel_rfl); exact gs_same (v := .pointer (some ⟨g4, 2, none⟩)) (by go_simp) rfl
  ·intro a W hE hd ho; have e11 : a.tmps[11]?.getD undef = .pointer (some ⟨g4, 2, none⟩) := hd 5 11 (by kernel_rfl) (by kernel_rfl); have C := (B4.out.below hE); have k0 := C.cell 0; have k1 := C.cell 1; have k2 := C.cell 2; simp only [List.getElem?_toArray, List.getElem?_cons_zero, List.getElem?_cons_succ] at k0 k1 k2; exact gs_same (v := .slice (some ⟨b, off, none⟩) n c) (by go_simp) rfl
  ·intro a W hE hd ho; have e2 : a.tmps[2]?.getD undef = .pointer (some ⟨ga, 0, none⟩) := ho 2 (by kernel_rfl); have k0 := (hE.cell (p := ⟨ga, 0, none⟩) (World.block_lt_of_cell? _ _ HA.out.1)).trans HA.out.1; have k1 := (hE.cell (p := ⟨ga, 1, none⟩) (World.block_lt_of_cell? _ _ HA.out.2)).trans HA.out.2; exact gs_same (v := .agg #[.int .i64 0, .int .i64 100000000]) (by go_simp) rfl
  ·intro a W hE hd ho; have e3 : a.tmps[3]?.getD undef = .pointer (some ⟨gr, 0, none⟩) := ho 3 (by kernel_rfl); have k0 := (hE.cell (p := ⟨gr, 0, none⟩) (World.block_lt_of_cell? _ _ HR.out.1)).trans HR.out.1; have k1 := (hE.cell (p := ⟨gr, 1, none⟩) (World.block_lt_of_cell? _ _ HR.out.2.1)).trans HR.out.2.1; have k2 := (hE.cell (p := ⟨gr, 2, none⟩) (World.block_lt_of_cell? _ _ HR.out.2.2)).trans HR.out.2.2; exact gs_same (v := .agg #[.int .i64 r.x, .int .i64 r.y, .int .i64 r.z]) (by go_simp) rfl
  ·intro a W hE hd ho; have e10 : a.tmps[10]?.getD undef = .agg cs := hd 4 10 (by kernel_rfl) (by kernel_rfl); have e12 : a.tmps[12]?.getD undef = .slice (some ⟨b, off, none⟩) n c := hd 6 12 (by kernel_rfl) (by kernel_rfl); have e13 : a.tmps[13]?.getD undef = .agg #[.int .i64 0, .int .i64 100000000] := hd 7 13 (by kernel_rfl) (by kernel_rfl); have e14 : a.tmps[14]?.getD undef = .agg #[.int .i64 r.x, .int .i64 r.y, .int .i64 r.z] := hd 8 14 (by kernel_rfl) (by kernel_rfl); refine gs_call (f := 135) (args := #[.agg cs, .slice (some ⟨b, off, none⟩) n c, .agg #[.int .i64 0, .int .i64 100000000], .agg #[.int .i64 r.x, .int .i64 r.y, .int .i64 r.z]]) (by go_simp) ?_; refine (HX.out W hE).mono ?_; rintro e w' ⟨rfl, hb⟩; exact ⟨_, rfl, hb, rfl⟩
  ·intro a W hE hd ho; have e6 : a.tmps[6]?.getD undef = .agg #[.string nf, .string ty, .slice (some ⟨b, off, none⟩) n c] := hd 0 6 (by kernel_rfl) (by kernel_rfl); have e15 : a.tmps[15]?.getD undef = .int .i64 V := hd 9 15 (by kernel_rfl) (by kernel_rfl); exact gs_same (v := .agg #[.string nf, .string ty, .slice (some ⟨b, off, none⟩) n c, .int .i64 V]) (by go_simp) rfl
 intro vs w2 hE hR; have y0 : vs 0 = .agg #[.string nf, .string ty, .slice (some ⟨b, off, none⟩) n c] := hR 0 (by omega); have y1 : vs 1 = .map (some mb) := hR 1 (by omega); have y2 : vs 2 = .pointer (some ⟨g4, 1, none⟩) := hR 2 (by omega); have y3 : vs 3 = .string ty := hR 3 (by omega); have y4 : vs 4 = .agg cs := hR 4 (by omega); have y5 : vs 5 = .pointer (some ⟨g4, 2, none⟩) := hR 5 (by omega); have y6 : vs 6 = .slice (some ⟨b, off, none⟩) n c := hR 6 (by omega); have y7 : vs 7 = .agg #[.int .i64 0, .int .i64 100000000] := hR 7 (by omega); have y8 : vs 8 = .agg #[.int .i64 r.x, .int .i64 r.y, .int .i64 r.z] := hR 8 (by omega); have y9 : vs 9 = .int .i64 V := hR 9 (by omega); have y10 : vs 10 = .agg #[.string nf, .string ty, .slice (some ⟨b, off, none⟩) n c, .int .i64 V] := hR 10 (by omega); simp only [List.range, List.range.loop, List.foldl_cons, List.foldl_nil, y0, y1, y2, y3, y4, y5, y6, y7, y8, y9, y10, List.drop_succ_cons, List.drop_zero]
 simp only [dstAt, List.getElem?_toArray, List.getElem?_cons_zero, List.getElem?_cons_succ, Option.bind_some, Act.put, List.setIfInBounds_toArray, List.set_cons_zero, List.set_cons_succ]; clear y0 y1 y2 y3 y4 y5 y6 y7 y8 y9 y10 hR; replace B5 := lh (B5.out.below hE); have HB2 := lh (HB1.out.trans (hE.mono HB1.out.size)); clear hE HX HMB HLK HR HA HK B4 HB1; have hlv := (B5.out.setRow #[.string nf, .string ty, .slice (some ⟨b, off, none⟩) n c, .int .i64 V]).lv Tryz.prog (T := 213) Tryz.underlying213 rfl (by kernel_rfl); have HLV := lh hlv; clear hlv
 go_wp2_with (refine wpList_store_row rfl 213 _ _ rfl g5 #[.string nf, .string ty, .slice (some ⟨b, off, none⟩) n c, .int .i64 V] rfl rfl 213 _ B5.out (by kernel_rfl) rfl (by simp [Value.oneCell']) ?_)
 refine bodyPost_ret (v := .agg #[.string nf, .string ty, .slice (some ⟨b, off, none⟩) n c, .int .i64 V]) (by simp [results, Tryz.results188, asAddr]; exact HLV.out) rfl ?_; exact ⟨rfl, HB2.out.setRow' hg5.out _⟩
theorem infoLoud : (Tryz.prog.info? 213).map (fun i => (i.zero, i.size, i.bytes)) = some (some (.agg #[.string ⟨#[]⟩, .string ⟨#[]⟩, .slice none 0 0, .int .i64 0]), 4, 64) := by kernel_rfl
def loudRow (fs : List Fl) (V : Nat -> Int) : Nat -> List Value
 | 0 => []
 | k + 1 => loudRow fs V k ++ [.string (flAt fs k).nm, .string (flAt fs k).ty, .slice (flAt fs k).A (flAt fs k).n (flAt fs k).c, .int .i64 (V k)]
theorem loudRow_length (fs : List Fl) (V : Nat -> Int) (k : Nat) : (loudRow fs V k).length = k * 4 := by
 induction k with
 | zero => rfl
 | succ k ih => simp only [loudRow, List.length_append, ih, List.length_cons, List.length_nil]; omega
theorem loudRow_at (fs : List Fl) (V : Nat -> Int) : ∀ (n i : Nat), i < n -> (loudRow fs V n)[i * 4]? = some (.string (flAt fs i).nm) /\ (loudRow fs V n)[i * 4 + 1]? = some (.string (flAt fs i).ty) /\ (loudRow fs V n)[i * 4 + 2]? = some (.slice (flAt fs i).A (flAt fs i).n (flAt fs i).c) /\ (loudRow fs V n)[i * 4 + 3]? = some (.int .i64 (V i))
 | 0, _, h => absurd h (Nat.not_lt_zero _)
 | n + 1, i, h => by
   have hl := loudRow_length fs V n; rcases Nat.lt_or_ge i n with h' | h'
   ·obtain ⟨a, b, c, d⟩ := loudRow_at fs V n i h'; simp only [loudRow]; rw [List.getElem?_append_left (by omega), List.getElem?_append_left (by omega), List.getElem?_append_left (by omega), List.getElem?_append_left (by omega)]; exact ⟨a, b, c, d⟩
   ·obtain rfl : i = n := by omega
    simp only [loudRow]; rw [List.getElem?_append_right (by omega), List.getElem?_append_right (by omega), List.getElem?_append_right (by omega), List.getElem?_append_right (by omega), hl]
    simp
def LoudsAt (w : World) (g n : Nat) (fs : List Fl) (V : Nat -> Int) : Prop :=
 ∀ i, i < n -> w.cell? ⟨g, i * 4, none⟩ = some (.string (flAt fs i).nm) /\ w.cell? ⟨g, i * 4 + 1, none⟩ = some (.string (flAt fs i).ty) /\ w.cell? ⟨g, i * 4 + 2, none⟩ = some (.slice (flAt fs i).A (flAt fs i).n (flAt fs i).c) /\ w.cell? ⟨g, i * 4 + 3, none⟩ = some (.int .i64 (V i))
theorem LoudsAt.keep {w w' : World} {g n : Nat} {fs : List Fl} {V : Nat -> Int} (h : LoudsAt w g n fs V) (hb : Below w.heap.size w w') : LoudsAt w' g n fs V := fun i hi => by
 have k : ∀ {j : Nat} {v : Value}, w.cell? ⟨g, j, none⟩ = some v -> w'.cell? ⟨g, j, none⟩ = some v := fun {j v} hc => by
  rw [hb.cell (p := ⟨g, j, none⟩) (World.block_lt_of_cell? _ _ hc)]; exact hc
 obtain ⟨a, b, c, d⟩ := h i hi; exact ⟨k a, k b, k c, k d⟩
theorem louds_of {w : World} {base g n : Nat} {fs : List Fl} {V : Nat -> Int} (h : w.ownsRow base 213 4 (.slice (some ⟨g, 0, none⟩) n n) n (loudRow fs V n)) : LoudsAt w g n fs V := fun i hi => by
 obtain ⟨a, b, c, d⟩ := loudRow_at fs V n i hi; exact ⟨(h.cellAt _ (by omega)).trans a, (h.cellAt _ (by omega)).trans b, (h.cellAt _ (by omega)).trans c, (h.cellAt _ (by omega)).trans d⟩
theorem cells_four_at (w : World) (t : TypeId) (a b c d : Value) : ∀ (j : Nat) (u : Value), [a, b, c, d][j]? = some u -> (w.alloc (.cells #[a, b, c, d] t)).cell? ((⟨w.heap.size, 0, none⟩ : Addr).add j) = some u := fun j u h => by
 rw [addAddr, Nat.zero_add, (Blk.new w t #[a, b, c, d]).cell j]
 simpa using h
set_option maxHeartbeats 1000000 in
set_option maxRecDepth 100000 in
theorem mapped_loud (A : Option Addr) (n c : Nat) (fs : List Fl) (V : Nat -> Int) (gk ga gr : Nat) (w : World) (hfs : FlsAt w A n fs) (hn : n <= 16)
  (hcl : ∀ i, i < n -> ∀ W, Below w.heap.size w W -> Calls Tryz.prog 188 #[.agg (flV (flAt fs i)), .pointer (some ⟨gk, 0, none⟩), .pointer (some ⟨ga, 0, none⟩), .pointer (some ⟨gr, 0, none⟩)] W fun e w' => e = .returned (.agg (loudV (flAt fs i).nm (flAt fs i).ty (flAt fs i).A (flAt fs i).n (flAt fs i).c (V i))) /\ Below W.heap.size W w') :
  Calls Tryz.prog 187 #[.slice A n c, .func (.func 188) #[] #[.pointer (some ⟨gk, 0, none⟩), .pointer (some ⟨ga, 0, none⟩), .pointer (some ⟨gr, 0, none⟩)]] w
   fun e w' => e = .returned (.slice (some ⟨w.heap.size, 0, none⟩) n n) /\ LoudsAt w' w.heap.size n fs V /\ Below w.heap.size w w' := by
 obtain ⟨i0, hi, hz0, hz1, hz2⟩ := info_parts infoLoud; have HF := lh hfs; have HCL := lh hcl; clear hfs hcl
 go_enter Tryz.func187, Tryz.ntmps187
 go_wp2_with (at_make; refine wpList_make_own _ rfl _ _ 209 rfl w.heap.size 213 i0 (.agg #[.string ⟨#[]⟩, .string ⟨#[]⟩, .slice none 0 0, .int .i64 0]) 4 Tryz.underlying209 hi hz0 hz1 _ _ _ n rfl rfl rfl (by rw [hz2]; omega) (by unfold maxLen; omega) (by simp) ?_; intro w1 hown hg1)
 obtain ⟨g, hg⟩ : ∃ g, g = w.heap.size := ⟨_, rfl⟩; rw [<- hg] at hown ⊢; have HG : Hid (g = w.heap.size) := hg; have HO : Hid (w1.ownsRow g 213 4 (.slice (some ⟨g, 0, none⟩) 0 n) 0 (loudRow fs V 0)) := hown; have HB1 : Hid (Below w.heap.size w w1) := Below.grown (Below.refl _ _) hg1 (Nat.le_refl _) (fun k hk => by cases hk); clear hown hg1 hg; go_wp2
 go_loopw [5, 13] (fun v i wr => ∃ k : Nat, k <= n /\ i = .int .i64 k /\ v = .slice (some ⟨g, 0, none⟩) k n /\ Hid (wr.ownsRow g 213 4 (.slice (some ⟨g, 0, none⟩) k n) k (loudRow fs V k)) /\ Hid (Below w.heap.size w wr)) (fun _ i _ => n - (intOf i).toNat)
 case atStart => exact ⟨0, Nat.zero_le _, rfl, rfl, HO, HB1⟩
 case round =>
  clear HO HB1; obtain ⟨k, hk, rfl, rfl, hO, hB⟩ := hrel
  by_cases hlt : k < n
  ·obtain ⟨b, o, rfl, hc⟩ := (HF.out.keep hB.out).2 (by omega); obtain ⟨⟨c1, c2, c3⟩, hok⟩ := hc k hlt; have HK := lh (HCL.out k hlt); have HR : Hid (loudRow fs V (k + 1) = loudRow fs V k ++ [.string (flAt fs k).nm, .string (flAt fs k).ty, .slice (flAt fs k).A (flAt fs k).n (flAt fs k).c, .int .i64 (V k)]) := rfl; obtain ⟨f, hf⟩ : ∃ f, f = flAt fs k := ⟨_, rfl⟩; obtain ⟨x, hx⟩ : ∃ x, x = V k := ⟨_, rfl⟩; rw [<- hf] at c1 c2 c3 HK HR; rw [<- hx] at HK HR; clear hc hok hf hx HF
   go_upto_region 5 with fail
   obtain ⟨wa, hwa⟩ : ∃ W, W = (wr.alloc (.cells #[.string f.nm, .string f.ty, .slice f.A f.n f.c] 168)) := ⟨_, rfl⟩; rw [<- hwa]; have B : Hid (Blk wa (wr.heap.size) 168 #[.string f.nm, .string f.ty, .slice f.A f.n f.c]) := by show Blk _ _ _ _; rw [hwa]; exact Blk.new _ _ _
   have hba : Below wr.heap.size wr wa := by rw [hwa]; exact ((Below.refl _ _).alloc (Nat.le_refl _) _)
   obtain ⟨gx, hgx⟩ : ∃ g, g = wr.heap.size := ⟨_, rfl⟩; have HGwa : Hid (gx = wr.heap.size) := hgx; rw [<- hgx] at B
   try rw [<- hgx]
   clear hwa hgx; have BB := B.out; have zc0 := BB.cell 0; have zf0 := BB.frozen 0; have zc1 := BB.cell 1; have zf1 := BB.frozen 1; have zc2 := BB.cell 2; have zf2 := BB.frozen 2; simp only [List.getElem?_toArray, List.getElem?_cons_zero, List.getElem?_cons_succ] at zc0 zc1 zc2; clear BB; replace hB := lh (hB.out.trans (hba.mono hB.out.size)); replace hO : Hid (wa.ownsRow g 213 4 (.slice (some ⟨g, 0, none⟩) k n) k (loudRow fs V k)) := World.ownsRow.kept hO.out (row := none) ⟨hba.os, hba.tape, hba.output, hba.size, fun k hk _ => hba.block k hk⟩ (Classical.em _); clear hba c1 c2 c3 B
   go_wp2_with fail
   refine (HK.out wa hB.out).mono ?_; rintro e wb ⟨rfl, hb⟩; unfold loudV; replace hO : Hid (wb.ownsRow g 213 4 (.slice (some ⟨g, 0, none⟩) k n) k (loudRow fs V k)) := World.ownsRow.kept hO.out (row := none) ⟨hb.os, hb.tape, hb.output, hb.size, fun k hk _ => hb.block k hk⟩ (Classical.em _); replace hB := lh (hB.out.trans (hb.mono hB.out.size)); have hsz := hB.out.size; clear hb zc0 zc1 zc2 zf0 zf1 zf2 HK
   go_wp2_with (at_builtin; refine wpList_append_fits _ rfl _ _ 209 rfl g 213 i0 4 Tryz.underlying209 hi hz1 g k n (loudRow fs V k) rfl (World.ownsRow.alloc hO.out _) ⟨wb.heap.size, 0, none⟩ 1 1 [.string f.nm, .string f.ty, .slice f.A f.n f.c, .int .i64 x] rfl rfl (cells_four_at _ _ _ _ _ _) (by simp [Value.oneCell']) (by omega) ?_; intro w3 hown' hgrow)
   have R : Hid (w3.ownsRow g 213 4 (.slice (some ⟨g, 0, none⟩) (k + 1) n) (k + 1) (loudRow fs V (k + 1))) := by
    show World.ownsRow _ _ _ _ _ _ _
    rw [HR.out]; exact hown'
   have hle : Hid (w.heap.size <= g) := by show _ <= _; rw [HG.out]; exact Nat.le_refl _
   have B3 : Hid (Below w.heap.size w w3) := Below.grown (hB.out.alloc hsz _) hgrow (by simp; omega) (fun j hj => by cases hj; exact hle.out); clear hown' hgrow hO; go_wp2; go_roundw
   case rel => exact ⟨k + 1, by omega, by go_num, rfl, R, B3⟩
   case measure => simp [intOf]; omega
  ·obtain rfl : k = n := by omega
   go_wp2
   go_ret
   exact ⟨by rw [HG.out]; rfl, by rw [<- HG.out]; exact louds_of hO.out, hB.out⟩
end Go.Proofs.YtmafmebcgmegeaaGreatDoor
