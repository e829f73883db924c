/- Part. -/
import Derived.Test.YtmafmebcgmegeaaGreatDoorGz1
import Derived.Test.YtmafmebcgmegeaaGreatDoorGz36
import Derived.Test.YtmafmebcgmegeaaGreatDoorGz37
import Derived.Test.YtmafmebcgmegeaaGreatDoorGz38
namespace Go.Proofs.YtmafmebcgmegeaaGreatDoor
open Go.RowKit Go.Sort
structure BigT (nm : ByteArray) (sn qn gn : Nat) (s : Bell.Sets) : Prop where
 name : nm.size <= 100000
 shares : sn <= 100000
 squares : qn <= 100000
 sets : gn <= 100000
 each : ∀ k, k < gn -> ((s.getD k (0, [])).2).length <= 100000
set_option maxHeartbeats 4000000 in
set_option maxRecDepth 100000 in
theorem refType_big {nm : ByteArray} {sh : List Int} {T : Bell.Ty} {sa qa ga : Option Addr} {sn sc qn qc gn gc : Nat} {cs : Array Value} (w : World) (hT : RTy w cs nm sh T sa sn sc qa qn qc ga gn gc) (hd8 : T.direct.length = 8) (hS : BigT nm sn qn gn T.sets) :
  Calls Tryz.prog 20 #[.agg cs] w fun e w' => e = .returned (.int .i64 (Bell.tyE (nameE nm) sh T)) /\ Below w.heap.size w w' := by
 obtain ⟨i0, hi, hz0, hz1, hz2⟩ := info_parts infoInt; obtain ⟨N1, hN1⟩ : ∃ x, x = nameE nm := ⟨_, rfl⟩; obtain ⟨N2, hN2⟩ : ∃ x, x = Bell.shE sh := ⟨_, rfl⟩; obtain ⟨N3, hN3⟩ : ∃ x, x = firstInE (fun x => withinE x 0 2000) T.direct := ⟨_, rfl⟩; obtain ⟨N4, hN4⟩ : ∃ x, x = withinE T.side 0 1000 := ⟨_, rfl⟩; obtain ⟨N5, hN5⟩ : ∃ x, x = Bell.sqE T.squares := ⟨_, rfl⟩; obtain ⟨Z, hZ⟩ : ∃ x, x = firstE [N1, N2, N3, N4, N5, cntI gn 6] := ⟨_, rfl⟩; obtain ⟨V, hV⟩ : ∃ x, x = Bell.tyE (nameE nm) sh T := ⟨_, rfl⟩
 have HV : Hid ((Z ≠ 0 -> V = Z) /\ (Z = 0 -> V = setsFrom T.sets T.squares.length 0)) := by
  have e : Bell.firstE [nameE nm, Bell.shE sh, Bell.eachE (fun n => Bell.inR n 0 2000) T.direct, Bell.inR T.side 0 1000, Bell.sqE T.squares, Bell.cntE T.sets.length 6] = Z := by
   rw [bfirst, beach, cntE_cnt, hT.sets.1, hZ, hN1, hN2, hN3, hN4, hN5]
   rfl
  refine ⟨fun h => ?_, fun h => ?_⟩
  ·rw [hV]; unfold Bell.tyE Bell.thenE; rw [e, if_neg h]
  ·rw [hV]; unfold Bell.tyE Bell.thenE; rw [e, if_pos h]; rfl
 rw [<- hV]; have HZ := lh hZ; have HN1 := lh hN1; have HN2 := lh hN2; have HN3 := lh hN3; have HN4 := lh hN4; have HN5 := lh hN5; clear hN1 hN2 hN3 hN4 hN5 hZ hV; have HS := lh hT.sets; have HSh := lh hT.shares; have HSq := lh hT.squares; have HT := lh hS; have HD8 := lh hd8; have IT : Hid ((Tryz.prog.info? 26).map (·.size) = some cs.size) := by show _ = _; rw [hT.cells]; kernel_rfl
 have q0 := hT.c0; have q1 := hT.c1; have q10 := hT.c10; have q11 := hT.c11; have q12 := hT.c12
 have QD : Hid (∀ i, i < 8 -> cs[2 + i]? = some (.int .i64 (T.direct.getD i 0))) := fun i hi => by
  rw [hT.cells]
  match i, hi with
  | 0, _ => rfl
  | 1, _ => rfl
  | 2, _ => rfl
  | 3, _ => rfl
  | 4, _ => rfl
  | 5, _ => rfl
  | 6, _ => rfl
  | 7, _ => rfl
 have hs9 : sn <= 100000 := hS.shares; have hq9 : qn <= 100000 := hS.squares; have hg9 : gn <= 100000 := hS.sets; have hnm : nm.size <= 100000 := hS.name; clear hT hS hd8
 go_enter Tryz.func20, Tryz.ntmps20
 go_upto_region 1 with fail
 obtain ⟨w1, hw1⟩ : ∃ W, W = w.alloc (.cells cs 26) := ⟨_, rfl⟩; rw [<- hw1]; have T1 : Hid (Blk w1 w.heap.size 26 cs) := by show Blk _ _ _ _; rw [hw1]; exact Blk.new _ _ _
 have HB1 : Hid (Below w.heap.size w w1) := by show Below _ _ _; rw [hw1]; exact (Below.refl _ _).alloc (Nat.le_refl _) _
 obtain ⟨g, hg⟩ : ∃ g, g = w.heap.size := ⟨_, rfl⟩; rw [<- hg] at T1 ⊢; clear hw1 hg; have hgl : g < w1.heap.size := lt_of_block T1.out; go_wp2
 go_loopw [3, 4] (fun v i wr => ∃ k : Nat, k <= 8 /\ i = .int .i64 k /\ OwnI wr w1.heap.size v (T.direct.take k) /\ Below w1.heap.size w1 wr) (fun _ i _ => 8 - (intOf i).toNat)
 case atStart => exact ⟨0, Nat.zero_le _, rfl, own_empty w1, (Below.refl _ _).alloc (Nat.le_refl _) _⟩
 case round =>
  obtain ⟨k, hk, rfl, hown, hbw⟩ := hrel
  by_cases hlt : k < 8
  ·have hlen : (T.direct.take k).length = k := by rw [List.length_take, HD8.out]; omega
   have hown0 : wr.ownsRow w1.heap.size 3 1 u3 k ((T.direct.take k).map (Value.int .i64)) := by have := hown; unfold OwnI at this; rwa [hlen] at this
   have hsz := hbw.size; have HB := lh hbw; have cd := ((T1.out.below hbw).cell (2 + k)).trans (QD.out k hlt); obtain ⟨x, hx⟩ : ∃ x, x = T.direct.getD k 0 := ⟨_, rfl⟩; rw [<- hx] at cd
   have HT2 : Hid (T.direct.take (k + 1) = T.direct.take k ++ [x]) := by
    show _ = _
    have hkl : k < T.direct.length := by rw [HD8.out]; exact hlt
    have hgd : T.direct.getD k 0 = T.direct[k] := by simp [List.getD_eq_getElem?_getD, List.getElem?_eq_getElem hkl]
    rw [hx, hgd]; exact (List.take_append_getElem hkl).symm
   have HLEN := lh hlen; clear hown hbw hx hlen
   go_wp2_with (at_builtin; refine wpList_append_own _ rfl _ _ 22 rfl w1.heap.size 3 i0 (.int .i64 0) 1 8 Tryz.underlying22 hi hz0 hz1 hz2 rfl (by decide) _ _ _ rfl (World.ownsRow.alloc hown0 _) ⟨wr.heap.size, 0, none⟩ 1 1 [.int .i64 x] rfl rfl (cell_one_new _ _ _) (by simp [Value.oneCell']) (by unfold maxLen; omega) (by omega) (by simp; omega) ?_; intro v' w2 hown' hgrow _)
   have R : OwnI w2 w1.heap.size v' (T.direct.take (k + 1)) := by
    unfold OwnI; rw [HT2.out, List.length_append, HLEN.out, List.map_append]; exact hown'
   have B1 : Below w1.heap.size w1 w2 := Below.grown (HB.out.alloc (by omega) _) hgrow (by simp; omega) (fun j hj => (hown0.lt j hj).1); clear hown' hgrow hown0; go_wp2; go_roundw
   case rel => exact ⟨k + 1, by omega, by go_num, R, B1⟩
   case measure => simp [intOf]; omega
  ·obtain rfl : k = 8 := by omega
   rw [List.take_of_length_le (by rw [HD8.out]; omega)] at hown; rcases hown.form with ⟨_, hnil⟩ | ⟨gd, cd, hv, _⟩
   ·rw [hnil] at HD8; exact absurd HD8.out (by simp)
   rw [HD8.out] at hv; subst hv; have DI := lh hown.at_; have T2 := lh (T1.out.below hbw); have HB2 := lh (HB1.out.trans (hbw.mono HB1.out.size)); clear hown hbw hk hlt T1 HB1; go_wp2; refine wp_region_grow 24 (by kernel_rfl) (by kernel_rfl) [GR.eq (.pointer (some ⟨g, 0, none⟩)), GR.eq (.string nm), GR.isN N1, GR.eq (.pointer (some ⟨g, 1, none⟩)), GR.eq (.slice sa sn sc), GR.isN N2, GR.eq (.slice (some ⟨gd, 0, none⟩) 8 cd), GR.isN N3, GR.eq (.pointer (some ⟨g, 10, none⟩)), GR.eq (.int .i64 T.side), GR.isN N4, GR.eq (.pointer (some ⟨g, 11, none⟩)), GR.eq (.slice qa qn qc), GR.isN N5, GR.eq (.pointer (some ⟨g, 12, none⟩)), GR.eq (.slice ga gn gc), GR.eq (.int .i64 gn), GR.eq (.bool (((gn : Int) == 0))), GR.isN (if ((gn : Int) == 0) = true then 12 else 0), GR.eq (.pointer (some ⟨g, 12, none⟩)), GR.eq (.slice ga gn gc), GR.eq (.int .i64 gn), GR.eq (.bool (decide ((6 : Int) < gn))), GR.isN (if decide ((6 : Int) < (gn : Int)) = true then 5 else 0)] 62 rfl (by kernel_rfl) ?_ ?_
   ·refine ⟨?_, ?_, ?_, ?_, ?_, ?_, ?_, ?_, ?_, ?_, ?_, ?_, ?_, ?_, ?_, ?_, ?_, ?_, ?_, ?_, ?_, ?_, ?_, ?_, trivial⟩
    ·intro a W hE hd ho; have e1 : a.tmps[1]?.getD undef = .pointer (some ⟨g, 0, none⟩) := ho 1 (by kernel_rfl); exact gs_same (v := .pointer (some ⟨g, 0, none⟩)) (by go_simp) rfl
    ·intro a W hE hd ho; have e20 : a.tmps[20]?.getD undef = .pointer (some ⟨g, 0, none⟩) := hd 0 20 (by kernel_rfl) (by kernel_rfl); have c0 := ((T2.out.below hE).cell 0).trans q0; exact gs_same (v := .string nm) (by go_simp) rfl
    ·intro a W hE hd ho; have e21 : a.tmps[21]?.getD undef = .string nm := hd 1 21 (by kernel_rfl) (by kernel_rfl); refine gs_call (f := 100) (args := #[.string nm]) (by go_simp) ?_; refine (refName_full nm W (by omega)).mono ?_; rintro e w9 ⟨rfl, rfl⟩; exact ⟨_, rfl, Ext.refl _, _, rfl, HN1.out.symm⟩
    ·intro a W hE hd ho; have e1 : a.tmps[1]?.getD undef = .pointer (some ⟨g, 0, none⟩) := ho 1 (by kernel_rfl); exact gs_same (v := .pointer (some ⟨g, 1, none⟩)) (by go_simp) rfl
    ·intro a W hE hd ho; have e23 : a.tmps[23]?.getD undef = .pointer (some ⟨g, 1, none⟩) := hd 3 23 (by kernel_rfl) (by kernel_rfl); have c1 := ((T2.out.below hE).cell 1).trans q1; exact gs_same (v := .slice sa sn sc) (by go_simp) rfl
    ·intro a W hE hd ho; have e24 : a.tmps[24]?.getD undef = .slice sa sn sc := hd 4 24 (by kernel_rfl) (by kernel_rfl); refine gs_call (f := 101) (args := #[.slice sa sn sc]) (by go_simp) ?_; refine (refShares_full sa sn sc sh W (HSh.out.keep (HB2.out.trans (hE.below.mono HB2.out.size))) (by omega)).mono ?_; rintro e w9 ⟨rfl, hbl⟩; exact ⟨_, rfl, hbl, _, rfl, HN2.out.symm⟩
    ·intro a W hE hd ho; have e3 : a.tmps[3]?.getD undef = .slice (some ⟨gd, 0, none⟩) 8 cd := ho 3 (by kernel_rfl); exact gs_same (v := .slice (some ⟨gd, 0, none⟩) 8 cd) (by go_simp) rfl
    ·intro a W hE hd ho; have e26 : a.tmps[26]?.getD undef = .slice (some ⟨gd, 0, none⟩) 8 cd := hd 6 26 (by kernel_rfl) (by kernel_rfl); refine gs_call (f := 102) (args := #[.slice (some ⟨gd, 0, none⟩) 8 cd, .int .i64 0, .int .i64 2000]) (by go_simp) ?_; refine (refRanges_any _ 8 cd T.direct 0 2000 W (by omega) (DI.out.keep hE)).mono ?_; rintro e w9 ⟨rfl, rfl⟩; exact ⟨_, rfl, Ext.refl _, _, rfl, HN3.out.symm⟩
    ·intro a W hE hd ho; have e1 : a.tmps[1]?.getD undef = .pointer (some ⟨g, 0, none⟩) := ho 1 (by kernel_rfl); exact gs_same (v := .pointer (some ⟨g, 10, none⟩)) (by go_simp) rfl
    ·intro a W hE hd ho; have e28 : a.tmps[28]?.getD undef = .pointer (some ⟨g, 10, none⟩) := hd 8 28 (by kernel_rfl) (by kernel_rfl); have c10 := ((T2.out.below hE).cell 10).trans q10; exact gs_same (v := .int .i64 T.side) (by go_simp) rfl
    ·intro a W hE hd ho; have e29 : a.tmps[29]?.getD undef = .int .i64 T.side := hd 9 29 (by kernel_rfl) (by kernel_rfl); refine gs_call (f := 103) (args := #[.int .i64 T.side, .int .i64 0, .int .i64 1000]) (by go_simp) ?_; refine (refCheckRange_any T.side 0 1000 W).mono ?_; rintro e w9 ⟨rfl, rfl⟩; exact ⟨_, rfl, Ext.refl _, _, rfl, HN4.out.symm⟩
    ·intro a W hE hd ho; have e1 : a.tmps[1]?.getD undef = .pointer (some ⟨g, 0, none⟩) := ho 1 (by kernel_rfl); exact gs_same (v := .pointer (some ⟨g, 11, none⟩)) (by go_simp) rfl
    ·intro a W hE hd ho; have e31 : a.tmps[31]?.getD undef = .pointer (some ⟨g, 11, none⟩) := hd 11 31 (by kernel_rfl) (by kernel_rfl); have c11 := ((T2.out.below hE).cell 11).trans q11; exact gs_same (v := .slice qa qn qc) (by go_simp) rfl
    ·intro a W hE hd ho; have e32 : a.tmps[32]?.getD undef = .slice qa qn qc := hd 12 32 (by kernel_rfl) (by kernel_rfl); refine gs_call (f := 104) (args := #[.slice qa qn qc]) (by go_simp) ?_; refine (refSquares_full qa qn qc T.squares W (HSq.out.keep (HB2.out.trans (hE.below.mono HB2.out.size))) (by omega)).mono ?_; rintro e w9 ⟨rfl, hbl⟩; exact ⟨_, rfl, hbl, _, rfl, HN5.out.symm⟩
    ·intro a W hE hd ho; have e1 : a.tmps[1]?.getD undef = .pointer (some ⟨g, 0, none⟩) := ho 1 (by kernel_rfl); exact gs_same (v := .pointer (some ⟨g, 12, none⟩)) (by go_simp) rfl
    ·intro a W hE hd ho; have e34 : a.tmps[34]?.getD undef = .pointer (some ⟨g, 12, none⟩) := hd 14 34 (by kernel_rfl) (by kernel_rfl); have c12 := ((T2.out.below hE).cell 12).trans q12; exact gs_same (v := .slice ga gn gc) (by go_simp) rfl
    ·intro a W hE hd ho; have e35 : a.tmps[35]?.getD undef = .slice ga gn gc := hd 15 35 (by kernel_rfl) (by kernel_rfl); exact gs_same (v := .int .i64 gn) (by go_simp) rfl
    ·intro a W hE hd ho; have e36 : a.tmps[36]?.getD undef = .int .i64 gn := hd 16 36 (by kernel_rfl) (by kernel_rfl); exact gs_same (v := .bool (((gn : Int) == 0))) (by go_simp) rfl
    ·intro a W hE hd ho; have e37 : a.tmps[37]?.getD undef = .bool (((gn : Int) == 0)) := hd 17 37 (by kernel_rfl) (by kernel_rfl); refine gs_call (f := 105) (args := #[.bool (((gn : Int) == 0)), .int .i64 12]) (by go_simp) ?_; refine (refWhen_let _ _ _).mono ?_; rintro e w9 ⟨b, rfl, hb, rfl⟩; exact ⟨_, rfl, Ext.refl _, b, rfl, hb.out⟩
    ·intro a W hE hd ho; have e1 : a.tmps[1]?.getD undef = .pointer (some ⟨g, 0, none⟩) := ho 1 (by kernel_rfl); exact gs_same (v := .pointer (some ⟨g, 12, none⟩)) (by go_simp) rfl
    ·intro a W hE hd ho; have e39 : a.tmps[39]?.getD undef = .pointer (some ⟨g, 12, none⟩) := hd 19 39 (by kernel_rfl) (by kernel_rfl); have c12 := ((T2.out.below hE).cell 12).trans q12; exact gs_same (v := .slice ga gn gc) (by go_simp) rfl
    ·intro a W hE hd ho; have e40 : a.tmps[40]?.getD undef = .slice ga gn gc := hd 20 40 (by kernel_rfl) (by kernel_rfl); exact gs_same (v := .int .i64 gn) (by go_simp) rfl
    ·intro a W hE hd ho; have e41 : a.tmps[41]?.getD undef = .int .i64 gn := hd 21 41 (by kernel_rfl) (by kernel_rfl); exact gs_same (v := .bool (decide ((6 : Int) < gn))) (by go_simp) rfl
    ·intro a W hE hd ho; have e42 : a.tmps[42]?.getD undef = .bool (decide ((6 : Int) < gn)) := hd 22 42 (by kernel_rfl) (by kernel_rfl); refine gs_call (f := 105) (args := #[.bool (decide ((6 : Int) < gn)), .int .i64 5]) (by go_simp) ?_; refine (refWhen_let _ _ _).mono ?_; rintro e w9 ⟨b, rfl, hb, rfl⟩; exact ⟨_, rfl, Ext.refl _, b, rfl, hb.out⟩
   ·intro vs w5 hE hR; have y0 : vs 0 = .pointer (some ⟨g, 0, none⟩) := hR 0 (by omega); have y1 : vs 1 = .string nm := hR 1 (by omega); obtain ⟨z1, y2, hz1⟩ : ∃ b : Int, vs 2 = .int .i64 b /\ b = (N1) := hR 2 (by omega); have y3 : vs 3 = .pointer (some ⟨g, 1, none⟩) := hR 3 (by omega); have y4 : vs 4 = .slice sa sn sc := hR 4 (by omega); obtain ⟨z2, y5, hz2⟩ : ∃ b : Int, vs 5 = .int .i64 b /\ b = (N2) := hR 5 (by omega); have y6 : vs 6 = .slice (some ⟨gd, 0, none⟩) 8 cd := hR 6 (by omega); obtain ⟨z3, y7, hz3⟩ : ∃ b : Int, vs 7 = .int .i64 b /\ b = (N3) := hR 7 (by omega); have y8 : vs 8 = .pointer (some ⟨g, 10, none⟩) := hR 8 (by omega); have y9 : vs 9 = .int .i64 T.side := hR 9 (by omega); obtain ⟨z4, y10, hz4⟩ : ∃ b : Int, vs 10 = .int .i64 b /\ b = (N4) := hR 10 (by omega); have y11 : vs 11 = .pointer (some ⟨g, 11, none⟩) := hR 11 (by omega); have y12 : vs 12 = .slice qa qn qc := hR 12 (by omega)
    obtain ⟨z5, y13, hz5⟩ : ∃ b : Int, vs 13 = .int .i64 b /\ b = (N5) := hR 13 (by omega); have y14 : vs 14 = .pointer (some ⟨g, 12, none⟩) := hR 14 (by omega); have y15 : vs 15 = .slice ga gn gc := hR 15 (by omega); have y16 : vs 16 = .int .i64 gn := hR 16 (by omega); have y17 : vs 17 = .bool (((gn : Int) == 0)) := hR 17 (by omega); obtain ⟨z6, y18, hz6⟩ : ∃ b : Int, vs 18 = .int .i64 b /\ b = (if ((gn : Int) == 0) = true then 12 else 0) := hR 18 (by omega); have y19 : vs 19 = .pointer (some ⟨g, 12, none⟩) := hR 19 (by omega); have y20 : vs 20 = .slice ga gn gc := hR 20 (by omega); have y21 : vs 21 = .int .i64 gn := hR 21 (by omega); have y22 : vs 22 = .bool (decide ((6 : Int) < gn)) := hR 22 (by omega); obtain ⟨z7, y23, hz7⟩ : ∃ b : Int, vs 23 = .int .i64 b /\ b = (if decide ((6 : Int) < (gn : Int)) = true then 5 else 0) := hR 23 (by omega); simp only [List.range, List.range.loop, List.foldl_cons, List.foldl_nil, y0, y1, y2, y3, y4, y5, y6, y7, y8, y9, y10, y11, y12, y13, y14, y15, y16, y17, y18, y19, y20, y21, y22, y23, List.drop_succ_cons, List.drop_zero]
    simp only [dstAt, List.getElem?_toArray, List.getElem?_cons_zero, List.getElem?_cons_succ, Option.bind_some, Act.put, List.setIfInBounds_toArray, List.set_cons_zero, List.set_cons_succ]; clear y0 y1 y2 y3 y4 y5 y6 y7 y8 y9 y10 y11 y12 y13 y14 y15 y16 y17 y18 y19 y20 y21 y22 y23 hR; have T5 := lh (T2.out.below hE); have HB5 := lh (HB2.out.trans (hE.below.mono HB2.out.size)); have Hz1 := lh hz1; have Hz2 := lh hz2; have Hz3 := lh hz3; have Hz4 := lh hz4; have Hz5 := lh hz5; have Hz6 := lh hz6; have Hz7 := lh hz7; clear hz1 hz2 hz3 hz4 hz5 hz6 hz7 hE T2 HB2 DI
    go_wp2_with fail
    refine (refFirst7 _ _ z1 z2 z3 z4 z5 z6 z7 _ (by go_simp) (by go_simp) (by go_simp) (by go_simp) (by go_simp) (by go_simp) (by go_simp)).mono ?_; obtain ⟨F, hF⟩ : ∃ F, F = firstE [z1, z2, z3, z4, z5, z6, z7] := ⟨_, rfl⟩; rw [<- hF]
    have HFZ : Hid (F = Z) := by
     show _ = _
     rw [hF, HZ.out, Hz1.out, Hz2.out, Hz3.out, Hz4.out, Hz5.out]; have h := cnt_two (R := 0) Hz6.out Hz7.out (by omega); simp only [firstE, if_true, ite_self] at h; simp only [firstE]; rw [h]
    clear hF; rintro e w6 ⟨rfl, rfl⟩; obtain ⟨w7, hw7⟩ : ∃ W, W = w5.alloc (.cells #[.int .i64 z1, .int .i64 z2, .int .i64 z3, .int .i64 z4, .int .i64 z5, .int .i64 z6, .int .i64 z7] 3) := ⟨_, rfl⟩; rw [<- hw7]; have hb7 : Below w5.heap.size w5 w7 := by rw [hw7]; exact (Below.refl _ _).alloc (Nat.le_refl _) _
    have T7 := lh (T5.out.below hb7); have HB7 := lh (HB5.out.trans (hb7.mono HB5.out.size)); clear hw7 hb7 T5 HB5
    by_cases hf0 : F = 0
    rotate_left
    ·have h1 : (F != 0) = true := by simp [hf0]
     go_wp2
     go_ret
     have hr : V = F := by rw [HFZ.out]; exact HV.out.1 (by rw [<- HFZ.out]; exact hf0)
     first | exact ⟨ret_int hr.symm, HB7.out⟩ | exact ⟨ret_int rfl, HB7.out⟩
    have h1 : (F != 0) = false := by simp [hf0]
    have hzz : Z = 0 := by rw [<- HFZ.out]; exact hf0
    have hg7 : gn <= 7 := by
     have h1 := firstE_zero (HZ.out.symm.trans hzz) (cntI gn 6) (by simp); have h2 := (cntI_zero h1).2
     omega
    have HV2 := lh (HV.out.2 hzz); have hc6 := cntI_zero (firstE_zero (HZ.out.symm.trans hzz) (cntI gn 6) (by simp)); have k6 : 0 < gn := hc6.1; have k7 : gn <= 6 := by omega
    clear hf0 hzz hc6 Hz1 Hz2 Hz3 Hz4 Hz5 Hz6 Hz7 HFZ HN1 HN2 HN3 HN4 HN5 HZ HV; obtain ⟨gb, go, rfl, hl⟩ := HS.out.2 k6; have HL := lh hl; have HV2q : Hid (V = setsFrom T.sets qn 0) := by show _ = _; rw [HV2.out, HSq.out.1]
    clear hl HV2; go_wp2
    go_loopw [6, 7] (fun i _ wr => ∃ k : Nat, k <= gn /\ i = .int .i64 k /\ Hid (∀ j, j < k -> ((T.sets.getD j (0, [])).2).length = qn) /\ Hid (V = setsFrom T.sets qn k) /\ Hid (Below w7.heap.size w7 wr)) (fun i _ _ => gn - (intOf i).toNat)
    case atStart => exact ⟨0, Nat.zero_le _, rfl, (fun j hj => by omega), HV2q.out, Below.refl _ _⟩
    case round =>
     obtain ⟨k, hk, rfl, hok, hvk, hbw⟩ := hrel; have T8 := lh (T7.out.below hbw.out); have HB8 := lh (HB7.out.trans (hbw.out.mono HB7.out.size)); have t12 := (T8.out.cell 12).trans q12
     by_cases hlt : k < gn
     ·have HLK := lh (HL.out.keep HB8.out); obtain ⟨ea, en, ec, a1, a2, a3⟩ := HLK.out.2 k hlt; obtain ⟨fa, fn, fc, b1, b2, b3⟩ := HLK.out.2 (k - 1) (by omega); have hen : en <= 140737488351232 := by have h1 := HT.out.each k hlt; rw [a3.1] at h1; omega
      have hfn : 0 < k -> fn = qn := fun h => by have h1 := hok.out (k - 1) (by omega); rw [b3.1] at h1; exact h1
      have C := lh (refSetting_full wr gb go gn gc k (k - 1) q12 qa qn qc q11 hlt rfl (by omega) (Bell.ePow T.sets k) (Bell.ePow T.sets (k - 1)) ea fa en ec fn fc _ _ ⟨a1, a2⟩ ⟨b1, b2⟩ a3 b3 hen hfn); have HEN := lh a3.1; have HST := lh (setsFrom_step (m := qn) (s := T.sets) (k := k) (by rw [HL.out.1]; exact hlt)); clear a1 a2 a3 b1 b2 b3 hen hfn
      go_wp2_with (refine wpList_load_row rfl 26 _ rfl g rfl 26 cs (0, 0) _ T8.out Tryz.underlying26 rfl IT.out ?_)
      refine C.out.mono ?_; rintro e w9 ⟨E2, rfl, hE2, hb9⟩; have HB9 := lh (HB8.out.trans (hb9.mono HB8.out.size)); have HW9 := lh (hbw.out.trans (hb9.mono hbw.out.size)); clear hb9 C
      have hE3 : E2 = Bell.setE qn (prevP T.sets k) (prevE T.sets qn k) (Bell.ePow T.sets k, (T.sets.getD k (0, [])).2) := by
       refine setK_is hE2.out HEN.out (fun h => ?_) (fun h => ?_)
       ·subst h; exact ⟨rfl, fun i => by unfold prevE; rw [if_pos rfl]; simp [List.getD_eq_getElem?_getD, List.getElem?_replicate]; split <;> rfl⟩
       ·exact ⟨by unfold prevP; rw [if_neg (by omega)], by unfold prevE; rw [if_neg (by omega)]⟩
      have HE3 := lh hE3; clear hE3
      by_cases he2 : E2 = 0
      ·have h2 : (E2 != 0) = false := by simp [he2]
       have HVN : Hid (V = setsFrom T.sets qn (k + 1)) := by show _ = _; rw [hvk.out, HST.out, <- HE3.out, Bell.thenE, if_pos he2]
       have HLQ : Hid (((T.sets.getD k (0, [])).2).length = qn) := (Bell.setE_zero (HE3.out.symm.trans he2)).2.2.1; clear he2 hE2; go_wp2; go_roundw
       case rel =>
        refine ⟨k + 1, by omega, by go_num, fun j hj => ?_, HVN.out, HW9.out⟩
        by_cases hjk : j < k
        ·exact hok.out j hjk
        ·obtain rfl : j = k := by omega
         exact HLQ.out
       case measure => simp [intOf]; omega
      ·have h2 : (E2 != 0) = true := by simp [he2]
       go_wp2
       go_ret
       have hr : V = E2 := by rw [hvk.out, HST.out, <- HE3.out, Bell.thenE, if_neg he2]
       first | exact ⟨ret_int hr.symm, HB9.out⟩ | exact ⟨ret_int rfl, HB9.out⟩
     ·obtain rfl : k = gn := by omega
      go_wp2
      go_ret
      have hr : V = 0 := by rw [hvk.out, <- HL.out.1]; exact setsFrom_end _ _
      first | exact ⟨ret_int hr.symm, HB8.out⟩ | exact ⟨ret_int rfl, HB8.out⟩
def IntB (w : World) (v : Value) (zs : List Int) : Prop := ∃ A c, v = .slice A zs.length c /\ IntsAt w A zs.length zs /\ (0 < zs.length -> ∃ g o cs fz, A = some ⟨g, o, none⟩ /\ w.heap[g]? = some (.cells cs 3 fz))
theorem IntB.same {w w' : World} {v : Value} {zs : List Int} (h : IntB w v zs) (hk : ∀ (g : Nat) (cs : Array Value) (fz : Nat × Nat), w.heap[g]? = some (.cells cs 3 fz) -> w'.heap[g]? = w.heap[g]?) : IntB w' v zs := by
 obtain ⟨A, c, rfl, hz, ht⟩ := h; refine ⟨A, c, rfl, ⟨rfl, fun hp => ?_⟩, fun hp => ?_⟩
 ·obtain ⟨g, o, cs, fz, rfl, hg⟩ := ht hp; obtain ⟨b, off, e, hc⟩ := hz.2 hp; have e := Option.some.inj e
  injection e with e1 e2 e3
  subst e1 e2; exact ⟨g, o, rfl, fun i hi => (World.cell?_of_block (a := ⟨g, o + i, Option.none⟩) (hk g cs fz hg)).trans (hc i hi)⟩
 ·obtain ⟨g, o, cs, fz, rfl, hg⟩ := ht hp; exact ⟨g, o, cs, fz, rfl, (hk g cs fz hg).trans hg⟩
theorem intB_blk {w : World} {b g : Nat} {t : TypeId} {cs cs' : Array Value} {fz : Nat × Nat} (hb : Blk w b t cs) (ht : t ≠ 3) (hg : w.heap[g]? = some (.cells cs' 3 fz)) : g ≠ b := fun e => by
 subst e; have h2 := (show w.heap[g]? = _ from hb).symm.trans hg
 injection h2 with h2
 injection h2 with _ h3 _
 exact ht h3
theorem IntB.later {w w' : World} {v : Value} {zs : List Int} (h : IntB w v zs) (hb : Below w.heap.size w w') : IntB w' v zs := h.same fun g cs fz hg => hb.block g (by
 rcases Nat.lt_or_ge g w.heap.size with h' | h'
 ·exact h'
 ·rw [Array.getElem?_eq_none h'] at hg; cases hg)
theorem IntB.cell {w : World} {v : Value} {zs : List Int} (h : IntB w v zs) {b : Nat} {t : TypeId} {cs : Array Value} (hb : Blk w b t cs) (ht : t ≠ 3) (i : Nat) (u : Value) : IntB (w.setCell ⟨b, i, none⟩ u) v zs := h.same fun g cs' fz hg => Below.heap_setCell w ⟨b, i, none⟩ u g (intB_blk hb ht hg)
theorem IntB.in_row {w : World} {v : Value} {zs : List Int} (h : IntB w v zs) {b : Nat} {t : TypeId} {cs : Array Value} (hb : Blk w b t cs) (ht : t ≠ 3) (new : Array Value) : IntB (w.setRow b new) v zs := h.same fun g cs' fz hg => setRow_other w b g new (intB_blk hb ht hg)
theorem IntB.row {w w' : World} {base size n : Nat} {t : TypeId} {u v : Value} {xs : List Value} {zs : List Int} (h : IntB w v zs) (ho : w.ownsRow base t size u n xs) (hg : w.grownBy w' u.ownBlock) (ht : t ≠ 3) : IntB w' v zs := h.same fun g cs fz hc => hg.block g (by
 rcases Nat.lt_or_ge g w.heap.size with h' | h'
 ·exact h'
 ·rw [Array.getElem?_eq_none h'] at hc; cases hc) (fun ej => by
  obtain ⟨cur, h2⟩ := row_type ho ej; have := hc.symm.trans h2
  injection this with this
  injection this with _ h3 _
  exact ht h3.symm)
theorem OwnI.intB {w : World} {B : Nat} {v : Value} {zs : List Int} (h : OwnI w B v zs) : IntB w v zs := by
 rcases h.2 with ⟨h1, h2⟩ | ⟨g, cap, cur, h1, _, hg, _⟩
 ·have h3 : zs = [] := List.eq_nil_of_length_eq_zero h2; subst h1 h3; exact ⟨none, 0, rfl, ⟨rfl, fun h => absurd h (by simp)⟩, fun h => absurd h (by simp)⟩
 ·rw [h1] at h; exact ⟨_, cap, h1, h.at_, fun _ => ⟨g, 0, cur, _, rfl, hg⟩⟩
structure RMem (w : World) (b : Nat) (cs : Array Value) (va vq vs : Value) (sh sq : List Int) (st : Bell.Sets) (P : List (Int × Value)) : Prop where
 box : Blk w b 26 cs
 shr : IntB w va sh
 sqr : IntB w vq sq
 row : w.ownsRow b 145 2 vs st.length (stCells P)
 len : P.length = st.length
 each : ∀ j, j < st.length -> (P.getD j (0, undef)).1 = Bell.ePow st j /\ IntB w (P.getD j (0, undef)).2 ((st.getD j (0, [])).2)
theorem RMem.keep {w w' : World} {b : Nat} {cs : Array Value} {va vq vs : Value} {sh sq : List Int} {st : Bell.Sets} {P : List (Int × Value)} (h : RMem w b cs va vq vs sh sq st P) (hb : Below w.heap.size w w') : RMem w' b cs va vq vs sh sq st P :=
 ⟨h.box.below hb, h.shr.later hb, h.sqr.later hb, row_ext h.row hb, h.len, fun j hj => ⟨(h.each j hj).1, (h.each j hj).2.later hb⟩⟩
theorem RMem.put {w : World} {b : Nat} {cs : Array Value} {va vq vs : Value} {sh sq : List Int} {st : Bell.Sets} {P : List (Int × Value)} (h : RMem w b cs va vq vs sh sq st P) (i : Nat) (u : Value) : RMem (w.setCell ⟨b, i, none⟩ u) b (cs.setIfInBounds i u) va vq vs sh sq st P :=
 ⟨h.box.set_ i u, h.shr.cell h.box (by decide) i u, h.sqr.cell h.box (by decide) i u, row_cell h.row h.box (by decide) i u, h.len, fun j hj => ⟨(h.each j hj).1, (h.each j hj).2.cell h.box (by decide) i u⟩⟩
theorem RMem.in_row {w : World} {b : Nat} {cs : Array Value} {va vq vs : Value} {sh sq : List Int} {st : Bell.Sets} {P : List (Int × Value)} (h : RMem w b cs va vq vs sh sq st P) {g : Nat} {cs0 : Array Value} (hb : Blk w g 26 cs0) (hne : b ≠ g) (new : Array Value) : RMem (w.setRow g new) b cs va vq vs sh sq st P :=
 ⟨h.box.setRow_far hne new, h.shr.in_row hb (by decide) new, h.sqr.in_row hb (by decide) new, row_in_row h.row hb (by decide) new, h.len, fun j hj => ⟨(h.each j hj).1, (h.each j hj).2.in_row hb (by decide) new⟩⟩
theorem RMem.grow {w w' : World} {b : Nat} {cs : Array Value} {va vq vs v' : Value} {sh sq : List Int} {st : Bell.Sets} {P : List (Int × Value)} {p : Int} {u : Value} {ys : List Int} (h : RMem w b cs va vq vs sh sq st P) (hown : w'.ownsRow b 145 2 v' (st.length + 1) (stCells P ++ [.int .i64 p, u])) (hgrow : w.grownBy w' vs.ownBlock) (hu : IntB w u ys) :
  RMem w' b cs va vq v' sh sq (st ++ [(p, ys)]) (P ++ [(p, u)]) := by
 have rr : ∀ {v : Value} {zs : List Int}, IntB w v zs -> IntB w' v zs := fun h' => h'.row h.row hgrow (by decide)
 refine ⟨row_blk h.row hgrow h.box (by decide), rr h.shr, rr h.sqr, ?_, by simp [h.len], fun j hj => ?_⟩
 ·rw [stCells_snoc]; simpa using hown
 ·rw [List.length_append, List.length_singleton] at hj
  by_cases hlt : j < st.length
  ·have h1 := h.each j hlt
   have e1 : (P ++ [(p, u)]).getD j (0, undef) = P.getD j (0, undef) := by
    rw [List.getD_eq_getElem?_getD, List.getElem?_append_left (by rw [h.len]; exact hlt), <- List.getD_eq_getElem?_getD]
   have e2 : (st ++ [(p, ys)]).getD j (0, []) = st.getD j (0, []) := by
    rw [List.getD_eq_getElem?_getD, List.getElem?_append_left hlt, <- List.getD_eq_getElem?_getD]
   have e3 : Bell.ePow (st ++ [(p, ys)]) j = Bell.ePow st j := by unfold Bell.ePow; rw [e2]
   rw [e1, e2, e3]; exact ⟨h1.1, rr h1.2⟩
  ·obtain rfl : j = st.length := by omega
   have e1 : (P ++ [(p, u)]).getD st.length (0, undef) = (p, u) := by
    rw [<- h.len, List.getD_eq_getElem?_getD]; simp
   have e2 : (st ++ [(p, ys)]).getD st.length (0, []) = (p, ys) := by
    rw [List.getD_eq_getElem?_getD]; simp
   have e3 : Bell.ePow (st ++ [(p, ys)]) st.length = p := by unfold Bell.ePow; rw [e2]
   rw [e1, e2, e3]; exact ⟨rfl, rr hu⟩
def RPTy (w : World) (b : Nat) (nm : ByteArray) (sh : List Int) (T : Bell.Ty) : Prop :=
 T.direct.length = 8 /\ ∃ va vq vs P, RMem w b (tyW nm va T vq vs) va vq vs sh T.squares T.sets P
theorem RPTy.keep {w w' : World} {b : Nat} {nm : ByteArray} {sh : List Int} {T : Bell.Ty} (h : RPTy w b nm sh T) (hb : Below w.heap.size w w') : RPTy w' b nm sh T := by
 obtain ⟨hd, va, vq, vs, P, h⟩ := h; exact ⟨hd, va, vq, vs, P, h.keep hb⟩
theorem rm_shape {w : World} {b : Nat} {cs : Array Value} {va vq vs : Value} {sh sq : List Int} {st : Bell.Sets} {P : List (Int × Value)} (hm : RMem w b cs va vq vs sh sq st P) :
  ∃ sa sc qa qc ga gc, va = .slice sa sh.length sc /\ vq = .slice qa sq.length qc /\ vs = .slice ga st.length gc := by
 obtain ⟨sa, sc, h1, _⟩ := hm.shr; obtain ⟨qa, qc, h2, _⟩ := hm.sqr
 obtain ⟨ga, gc, h3⟩ : ∃ A c, vs = .slice A st.length c := by
  rcases hm.row.2 with ⟨h1, h2⟩ | ⟨g, c, cur, h1, _⟩
  ·rw [h2]; exact ⟨_, _, h1⟩
  ·exact ⟨_, _, h1⟩
 exact ⟨sa, sc, qa, qc, ga, gc, h1, h2, h3⟩
theorem IntB.at_ {w : World} {A : Option Addr} {n c : Nat} {zs : List Int} (h : IntB w (.slice A n c) zs) : IntsAt w A zs.length zs := by
 obtain ⟨A', c', e, hz, _⟩ := h
 injection e with e1 _ _
 subst e1; exact hz
theorem rm_rty {w : World} {b : Nat} {cs : Array Value} {sa qa ga : Option Addr} {sc qc gc : Nat} {nm : ByteArray} {sh : List Int} {T : Bell.Ty} {P : List (Int × Value)} (hm : RMem w b cs (.slice sa sh.length sc) (.slice qa T.squares.length qc) (.slice ga T.sets.length gc) sh T.squares T.sets P) (hcs : cs = tyW nm (.slice sa sh.length sc) T (.slice qa T.squares.length qc) (.slice ga T.sets.length gc)) :
  RTy w cs nm sh T sa sh.length sc qa T.squares.length qc ga T.sets.length gc := by
 refine ⟨hcs, hm.shr.at_, hm.sqr.at_, ⟨rfl, fun h0 => ?_⟩⟩; have hR := hm.row; obtain ⟨gS, rfl⟩ := own_addr hR h0; refine ⟨gS, 0, rfl, rfl, fun j hj => ?_⟩; obtain ⟨e1, A, c, hv, hz, _⟩ := hm.each j hj; have p0 := (stCells_at P j (by rw [hm.len]; exact hj)).1; have p1 := (stCells_at P j (by rw [hm.len]; exact hj)).2; refine ⟨A, _, c, ?_, ?_, hz⟩
 ·rw [Nat.zero_add, World.ownsRow.cellAt hR (j * 2) (by omega), p0, e1]
 ·rw [Nat.zero_add, World.ownsRow.cellAt hR (j * 2 + 1) (by omega), p1, hv]
theorem tyW_dir {nm : ByteArray} {va vq vs : Value} {T : Bell.Ty} (hd : T.direct.length = 8) {k : Nat} (hk : k < 8) (z : Int) : (tyW nm va T vq vs).setIfInBounds (2 + k) (.int .i64 z) = tyW nm va { T with direct := T.direct.set k z } vq vs := by
 match k, hk with
 | 0, _ => rw [dirs_list hd]; simp [tyW]
 | 1, _ => rw [dirs_list hd]; simp [tyW]
 | 2, _ => rw [dirs_list hd]; simp [tyW]
 | 3, _ => rw [dirs_list hd]; simp [tyW]
 | 4, _ => rw [dirs_list hd]; simp [tyW]
 | 5, _ => rw [dirs_list hd]; simp [tyW]
 | 6, _ => rw [dirs_list hd]; simp [tyW]
 | 7, _ => rw [dirs_list hd]; simp [tyW]
def dirTo (zs d : List Int) : Nat -> List Int
 | 0 => d
 | k + 1 => (dirTo zs d k).set k (zs.getD k 0)
theorem dirTo_len (zs d : List Int) : ∀ k, (dirTo zs d k).length = d.length
 | 0 => rfl
 | k + 1 => by rw [dirTo, List.length_set, dirTo_len zs d k]
theorem dirTo_8 {zs d : List Int} (hz : zs.length = 8) (hd : d.length = 8) : dirTo zs d 8 = zs := by
 match zs, hz, d, hd with
 | [a0, a1, a2, a3, a4, a5, a6, a7], _, [b0, b1, b2, b3, b4, b5, b6, b7], _ => rfl
def addNl (p : ByteArray) : ByteArray := ⟨(p.data.toList ++ [10]).toArray⟩
theorem nl_ended (p : ByteArray) : endedB (addNl p) = true := by unfold endedB addNl; simp
theorem nl_bare (p : ByteArray) : lineBd (addNl p) = p := by
 apply ba_eq
 unfold lineBd addNl; rw [if_pos (by simp)]
 simp
theorem nl_words (p : ByteArray) : wordsL (addNl p) = sepL 32 0 p := by unfold wordsL; rw [nl_bare]
def rightB (j : Nat) (ws : List ByteArray) : Bool :=
 ((ws.getD 0 ⟨#[]⟩).toList == (firstW (min j 4)).toList) && (if j = 0 then decide (ws.length = 3) && !((ws.getD 1 ⟨#[]⟩).toList == []) else if j = 2 then decide (ws.length = 9) else if 4 <= j then decide (1 < ws.length) else true)
theorem right_is (j : Nat) (p : ByteArray) : lineOk j (addNl p) = (rightB j (sepL 32 0 p) && allD 12 ((sepL 32 0 p).drop (formN j + 1))) := by
 unfold lineOk lineF restF; rw [nl_ended, nl_words]
 have hne : sepL 32 0 p ≠ [] := by
  intro h; have := sepL_len 32 0 p; rw [h] at this
  simp at this
 generalize sepL 32 0 p = ws at hne ⊢
 cases ws with
 | nil => exact absurd rfl hne
 | cons x tl =>
   unfold rightB; simp only [List.getD_cons_zero, List.tail_cons, Bool.true_and, List.drop_succ_cons]
   cases hx : (x.toList == (firstW (min j 4)).toList) with
   | false => simp
   | true =>
     simp only [Bool.true_and]
     by_cases h0 : j = 0
     ·subst h0; simp only [if_pos, formN]; rcases tl with _ | ⟨y, _ | ⟨z, _ | ⟨a, r⟩⟩⟩
      ·simp [fieldsOk]
      ·simp [fieldsOk, allD]
      ·simp only [fieldsOk, List.length_cons, List.length_nil, List.drop_succ_cons, List.drop_zero, List.take_succ_cons, List.take_zero, List.any_cons, List.any_nil, Bool.or_false, List.getD_cons_succ, List.getD_cons_zero]
       have e : (([] : List UInt8) == y.toList) = (y.toList == []) := by
        cases y.toList <;> rfl
       rw [e]
       simp [Bool.and_comm]
      ·simp [fieldsOk]
     ·have hf : formN j = 0 := by unfold formN; rw [if_neg h0]
      rw [hf]; simp only [if_neg h0]; have hz : fieldsOk 0 12 tl = allD 12 tl := by simp [fieldsOk]
      rw [hz]; simp only [List.drop_zero]
      by_cases h2 : j = 2
      ·simp only [if_pos h2, List.length_cons]; rw [Bool.and_comm]
       congr 1
       simp
      ·simp only [if_neg h2]
       by_cases h4 : 4 <= j
       ·simp only [if_pos h4, List.length_cons]; rw [Bool.and_comm]
        congr 1
        simp
        omega
       ·simp only [if_neg h4]; rw [Bool.and_comm]
structure RF (w0 w : World) (g2 gH : Nat) (vL : Value) (pcs : List ByteArray) : Prop where
 bl : Below w0.heap.size w0 w
 z : Blk w g2 26 #[.string ⟨#[]⟩, .slice none 0 0, .int .i64 0, .int .i64 0, .int .i64 0, .int .i64 0, .int .i64 0, .int .i64 0, .int .i64 0, .int .i64 0, .int .i64 0, .slice none 0 0, .slice none 0 0]
 hd : Blk w gH 9 #[.string ⟨#[116, 121, 112, 101]⟩, .string ⟨#[115, 104, 97, 114, 101, 115]⟩, .string ⟨#[100, 105, 114, 101, 99, 116]⟩, .string ⟨#[115, 113, 117, 97, 114, 101, 115]⟩]
 ls : OwnS w 0 vL pcs
theorem RF.keep {w0 w w' : World} {g2 gH : Nat} {vL : Value} {pcs : List ByteArray} (h : RF w0 w g2 gH vL pcs) (hb : Below w.heap.size w w') : RF w0 w' g2 gH vL pcs :=
 ⟨h.bl.trans (hb.mono h.bl.size), h.z.below hb, h.hd.below hb, row_ext h.ls hb⟩
theorem RF.cell {w0 w : World} {g2 gH g5 : Nat} {vL : Value} {pcs : List ByteArray} {cs : Array Value} (h : RF w0 w g2 gH vL pcs) (hb : Blk w g5 26 cs) (h0 : w0.heap.size <= g5) (h2 : g2 ≠ g5) (hH : gH ≠ g5) (i : Nat) (u : Value) : RF w0 (w.setCell ⟨g5, i, none⟩ u) g2 gH vL pcs :=
 ⟨h.bl.setCell (p := ⟨g5, i, none⟩) h0 _, h.z.far (p := ⟨g5, i, none⟩) h2 _, h.hd.far (p := ⟨g5, i, none⟩) hH _, row_cell h.ls hb (by decide) i u⟩
theorem RF.grow {w0 w w' : World} {g2 gH b n : Nat} {vL vs : Value} {pcs : List ByteArray} {xs : List Value} (h : RF w0 w g2 gH vL pcs) (ho : w.ownsRow b 145 2 vs n xs) (hg : w.grownBy w' vs.ownBlock) (hb : w0.heap.size <= b) : RF w0 w' g2 gH vL pcs :=
 ⟨Below.grown h.bl hg h.bl.size (fun j hj => Nat.le_trans hb (ho.lt j hj).1), row_blk ho hg h.z (by decide), row_blk ho hg h.hd (by decide), row_row ho hg h.ls (by decide)⟩
theorem intV_all {k : Nat} : ∀ {l : List ByteArray}, allD k l = true -> l.map (intV k) = valD l
 | [], _ => rfl
 | x :: l, h => by
   unfold allD at h; rw [List.all_cons, Bool.and_eq_true] at h; unfold valD; rw [List.map_cons, List.map_cons, intV_all (l := l) h.2]; unfold intV valD; rw [if_pos h.1]
end Go.Proofs.YtmafmebcgmegeaaGreatDoor
