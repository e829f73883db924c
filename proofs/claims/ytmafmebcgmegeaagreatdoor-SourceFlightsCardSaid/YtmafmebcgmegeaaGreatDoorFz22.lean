/- Texts Wa QM of the proof. -/
import Derived.Test.YtmafmebcgmegeaaGreatDoorFz19
import Derived.Test.YtmafmebcgmegeaaGreatDoorFz21
import Derived.Test.YtmafmebcgmegeaaGreatDoorFz13
import Derived.Test.YtmafmebcgmegeaaGreatDoorFz10
namespace Go.Proofs.YtmafmebcgmegeaaGreatDoor
open Go.RowKit Go.Sort
def GR.isN (N : Int) : GR := ⟨fun v _ => ∃ b : Int, v = .int .i64 b ∧ b = N, fun h _ => h⟩
theorem refName_full (s : ByteArray) (w : World) (hs : s.size ≤ 140737488351232) :
    Calls Tryz.prog 100 #[.string s] w fun e w' => e = .returned (.int .i64 (nameE s)) ∧ w' = w := by
  have HN := Lib.hid (fun W => refIsName_any s W hs)
  cases hv : nameB s
  · have hr : nameE s = 8 := by unfold nameE; rw [if_neg (by rw [hv]; decide)]
    rw [hr]; rw [hv] at HN; clear hv hr
    go_enter Tryz.func100, Tryz.ntmps100
    go_wp2_with fail
    refine (HN.out w).mono ?_; rintro e w' ⟨rfl, rfl⟩
    go_wp2_with fail
    refine (refWhen_as (b := true) (x := 8) (a := 8) _ rfl).mono ?_; rintro e w2 ⟨rfl, rfl⟩; go_wp2; go_ret; exact ⟨rfl, rfl⟩
  · have hr : nameE s = 0 := by unfold nameE; rw [if_pos hv]
    rw [hr]; rw [hv] at HN; clear hv hr
    go_enter Tryz.func100, Tryz.ntmps100
    go_wp2_with fail
    refine (HN.out w).mono ?_; rintro e w' ⟨rfl, rfl⟩
    go_wp2_with fail
    refine (refWhen_as (b := false) (x := 8) (a := 0) _ rfl).mono ?_; rintro e w2 ⟨rfl, rfl⟩; go_wp2; go_ret; exact ⟨rfl, rfl⟩
set_option maxHeartbeats 4000000 in
set_option maxRecDepth 100000 in
theorem refType_full {nm : ByteArray} {sh : List Int} {T : Bell.Ty} {sa : Option Addr} {sn sc : Nat} {qa : Option Addr} {qn qc : Nat} {ga : Option Addr} {gn gc : Nat} {cs : Array Value} (w : World) (hT : RTy w cs nm sh T sa sn sc qa qn qc ga gn gc) (hd8 : T.direct.length = 8) (hS : ShortT nm sn qn gn T.sets) :
    Calls Tryz.prog 20 #[.agg cs] w fun e w' => e = .returned (.int .i64 (Bell.tyE (nameE nm) sh T)) ∧ Below w.heap.size w w' := by
  obtain ⟨i0, hi, hz0, hz1, hz2⟩ := info_parts infoInt; obtain ⟨N1, hN1⟩ : ∃ x, x = nameE nm := ⟨_, rfl⟩; obtain ⟨N2, hN2⟩ : ∃ x, x = Bell.shE sh := ⟨_, rfl⟩; obtain ⟨N3, hN3⟩ : ∃ x, x = firstInE (fun x => withinE x 0 2000) T.direct := ⟨_, rfl⟩; obtain ⟨N4, hN4⟩ : ∃ x, x = withinE T.side 0 1000 := ⟨_, rfl⟩; obtain ⟨N5, hN5⟩ : ∃ x, x = Bell.sqE T.squares := ⟨_, rfl⟩; obtain ⟨Z, hZ⟩ : ∃ x, x = firstE [N1, N2, N3, N4, N5, cntI gn 6] := ⟨_, rfl⟩; obtain ⟨V, hV⟩ : ∃ x, x = Bell.tyE (nameE nm) sh T := ⟨_, rfl⟩
  have HV : Hid ((Z ≠ 0 → V = Z) ∧ (Z = 0 → V = setsFrom T.sets T.squares.length 0)) := by
    have e : Bell.firstE [nameE nm, Bell.shE sh, Bell.eachE (fun n => Bell.inR n 0 2000) T.direct, Bell.inR T.side 0 1000, Bell.sqE T.squares, Bell.cntE T.sets.length 6] = Z := by
      rw [bfirst, beach, cntE_cnt, hT.sets.1, hZ, hN1, hN2, hN3, hN4, hN5]
      rfl
    refine ⟨fun h => ?_, fun h => ?_⟩
    · rw [hV]; unfold Bell.tyE Bell.thenE; rw [e, if_neg h]
    · rw [hV]; unfold Bell.tyE Bell.thenE; rw [e, if_pos h]; rfl
  rw [← hV]; have HZ := Lib.hid hZ; have HN1 := Lib.hid hN1; have HN2 := Lib.hid hN2; have HN3 := Lib.hid hN3; have HN4 := Lib.hid hN4; have HN5 := Lib.hid hN5; clear hN1 hN2 hN3 hN4 hN5 hZ hV; have HS := Lib.hid hT.sets; have HSh := Lib.hid hT.shares; have HSq := Lib.hid hT.squares; have HT := Lib.hid hS; have HD8 := Lib.hid hd8; have IT : Hid ((Tryz.prog.info? 26).map (·.size) = some cs.size) := by show _ = _; rw [hT.cells]; kernel_rfl
  have q0 := hT.c0; have q1 := hT.c1; have q10 := hT.c10; have q11 := hT.c11; have q12 := hT.c12
  have QD : Hid (∀ i, i < 8 → cs[2 + i]? = some (.int .i64 (T.direct.getD i 0))) := fun i hi => by
    rw [hT.cells]
    match i, hi with
    | 0, _ => rfl
    | 1, _ => rfl
    | 2, _ => rfl
    | 3, _ => rfl
    | 4, _ => rfl
    | 5, _ => rfl
    | 6, _ => rfl
    | 7, _ => rfl
  have hs9 : sn ≤ 9 := hS.shares; have hq9 : qn ≤ 9 := hS.squares; have hg7 : gn ≤ 7 := hS.sets; have hnm : nm.size ≤ 40 := hS.name; clear hT hS hd8
  go_enter Tryz.func20, Tryz.ntmps20
  go_upto_region 1 with fail
  obtain ⟨w1, hw1⟩ : ∃ W, W = w.alloc (.cells cs 26) := ⟨_, rfl⟩; rw [← hw1]; have T1 : Hid (Blk w1 w.heap.size 26 cs) := by show Blk _ _ _ _; rw [hw1]; exact Blk.new _ _ _
  have HB1 : Hid (Below w.heap.size w w1) := by show Below _ _ _; rw [hw1]; exact (Below.refl _ _).alloc (Nat.le_refl _) _
  obtain ⟨g, hg⟩ : ∃ g, g = w.heap.size := ⟨_, rfl⟩; rw [← hg] at T1 ⊢; clear hw1 hg; have hgl : g < w1.heap.size := lt_of_block T1.out; go_wp2
  go_loopw [3, 4] (fun v i wr => ∃ k : Nat, k ≤ 8 ∧ i = .int .i64 k ∧ OwnI wr w1.heap.size v (T.direct.take k) ∧ Below w1.heap.size w1 wr) (fun _ i _ => 8 - (intOf i).toNat)
  case atStart => exact ⟨0, Nat.zero_le _, rfl, own_empty w1, (Below.refl _ _).alloc (Nat.le_refl _) _⟩
  case round =>
    obtain ⟨k, hk, rfl, hown, hbw⟩ := hrel
    by_cases hlt : k < 8
    · have hlen : (T.direct.take k).length = k := by rw [List.length_take, HD8.out]; omega
      have hown0 : wr.ownsRow w1.heap.size 3 1 u3 k ((T.direct.take k).map (Value.int .i64)) := by have := hown; unfold OwnI at this; rwa [hlen] at this
      have hsz := hbw.size; have HB := Lib.hid hbw; have cd := ((T1.out.below hbw).cell (2 + k)).trans (QD.out k hlt); obtain ⟨x, hx⟩ : ∃ x, x = T.direct.getD k 0 := ⟨_, rfl⟩; rw [← hx] at cd
      have HT2 : Hid (T.direct.take (k + 1) = T.direct.take k ++ [x]) := by
        show _ = _
        have hkl : k < T.direct.length := by rw [HD8.out]; exact hlt
        have hgd : T.direct.getD k 0 = T.direct[k] := by simp [List.getD_eq_getElem?_getD, List.getElem?_eq_getElem hkl]
        rw [hx, hgd]; exact (List.take_append_getElem hkl).symm
      have HLEN := Lib.hid hlen; clear hown hbw hx hlen
      go_wp2_with (at_builtin; refine wpList_append_own _ rfl _ _ 22 rfl w1.heap.size 3 i0 (.int .i64 0) 1 8 Tryz.underlying22 hi hz0 hz1 hz2 rfl (by decide) _ _ _ rfl (World.ownsRow.alloc hown0 _) ⟨wr.heap.size, 0, none⟩ 1 1 [.int .i64 x] rfl rfl (cell_one_new _ _ _) (by simp [Value.oneCell']) (by unfold maxLen; omega) (by omega) (by simp; omega) ?_; intro v' w2 hown' hgrow _)
      have R : OwnI w2 w1.heap.size v' (T.direct.take (k + 1)) := by
        unfold OwnI; rw [HT2.out, List.length_append, HLEN.out, List.map_append]; exact hown'
      have B1 : Below w1.heap.size w1 w2 := Below.grown (HB.out.alloc (by omega) _) hgrow (by simp; omega) (fun j hj => (hown0.lt j hj).1); clear hown' hgrow hown0; go_wp2; go_roundw
      case rel => exact ⟨k + 1, by omega, by go_num, R, B1⟩
      case measure => simp [intOf]; omega
    · obtain rfl : k = 8 := by omega
      rw [List.take_of_length_le (by rw [HD8.out]; omega)] at hown; rcases hown.form with ⟨_, hnil⟩ | ⟨gd, cd, hv, _⟩
      · rw [hnil] at HD8; exact absurd HD8.out (by simp)
      rw [HD8.out] at hv; subst hv; have DI := Lib.hid hown.at_; have T2 := Lib.hid (T1.out.below hbw); have HB2 := Lib.hid (HB1.out.trans (hbw.mono HB1.out.size)); clear hown hbw hk hlt T1 HB1; go_wp2; refine wp_region_grow 24 (by kernel_rfl) (by kernel_rfl) [GR.eq (.pointer (some ⟨g, 0, none⟩)), GR.eq (.string nm), GR.isN N1, GR.eq (.pointer (some ⟨g, 1, none⟩)), GR.eq (.slice sa sn sc), GR.isN N2, GR.eq (.slice (some ⟨gd, 0, none⟩) 8 cd), GR.isN N3, GR.eq (.pointer (some ⟨g, 10, none⟩)), GR.eq (.int .i64 T.side), GR.isN N4, GR.eq (.pointer (some ⟨g, 11, none⟩)), GR.eq (.slice qa qn qc), GR.isN N5, GR.eq (.pointer (some ⟨g, 12, none⟩)), GR.eq (.slice ga gn gc), GR.eq (.int .i64 gn), GR.eq (.bool (((gn : Int) == 0))), GR.isN (if ((gn : Int) == 0) = true then 12 else 0), GR.eq (.pointer (some ⟨g, 12, none⟩)), GR.eq (.slice ga gn gc), GR.eq (.int .i64 gn), GR.eq (.bool (decide ((6 : Int) < gn))), GR.isN (if decide ((6 : Int) < (gn : Int)) = true then 5 else 0)] 62 rfl (by kernel_rfl) ?_ ?_
      · refine ⟨?_, ?_, ?_, ?_, ?_, ?_, ?_, ?_, ?_, ?_, ?_, ?_, ?_, ?_, ?_, ?_, ?_, ?_, ?_, ?_, ?_, ?_, ?_, ?_, trivial⟩
        · intro a W hE hd ho; have e1 : a.tmps[1]?.getD undef = .pointer (some ⟨g, 0, none⟩) := ho 1 (by kernel_rfl); exact gs_same (v := .pointer (some ⟨g, 0, none⟩)) (by go_simp) rfl
        · intro a W hE hd ho; have e20 : a.tmps[20]?.getD undef = .pointer (some ⟨g, 0, none⟩) := hd 0 20 (by kernel_rfl) (by kernel_rfl); have c0 := ((T2.out.below hE).cell 0).trans q0; exact gs_same (v := .string nm) (by go_simp) rfl
        · intro a W hE hd ho; have e21 : a.tmps[21]?.getD undef = .string nm := hd 1 21 (by kernel_rfl) (by kernel_rfl); refine gs_call (f := 100) (args := #[.string nm]) (by go_simp) ?_; refine (refName_full nm W (by omega)).mono ?_; rintro e w9 ⟨rfl, rfl⟩; exact ⟨_, rfl, Ext.refl _, _, rfl, HN1.out.symm⟩
        · intro a W hE hd ho; have e1 : a.tmps[1]?.getD undef = .pointer (some ⟨g, 0, none⟩) := ho 1 (by kernel_rfl); exact gs_same (v := .pointer (some ⟨g, 1, none⟩)) (by go_simp) rfl
        · intro a W hE hd ho; have e23 : a.tmps[23]?.getD undef = .pointer (some ⟨g, 1, none⟩) := hd 3 23 (by kernel_rfl) (by kernel_rfl); have c1 := ((T2.out.below hE).cell 1).trans q1; exact gs_same (v := .slice sa sn sc) (by go_simp) rfl
        · intro a W hE hd ho; have e24 : a.tmps[24]?.getD undef = .slice sa sn sc := hd 4 24 (by kernel_rfl) (by kernel_rfl); refine gs_call (f := 101) (args := #[.slice sa sn sc]) (by go_simp) ?_; refine (refShares_full sa sn sc sh W (HSh.out.keep (HB2.out.trans (hE.below.mono HB2.out.size))) (by omega)).mono ?_; rintro e w9 ⟨rfl, hbl⟩; exact ⟨_, rfl, hbl, _, rfl, HN2.out.symm⟩
        · intro a W hE hd ho; have e3 : a.tmps[3]?.getD undef = .slice (some ⟨gd, 0, none⟩) 8 cd := ho 3 (by kernel_rfl); exact gs_same (v := .slice (some ⟨gd, 0, none⟩) 8 cd) (by go_simp) rfl
        · intro a W hE hd ho; have e26 : a.tmps[26]?.getD undef = .slice (some ⟨gd, 0, none⟩) 8 cd := hd 6 26 (by kernel_rfl) (by kernel_rfl); refine gs_call (f := 102) (args := #[.slice (some ⟨gd, 0, none⟩) 8 cd, .int .i64 0, .int .i64 2000]) (by go_simp) ?_; refine (refRanges_any _ 8 cd T.direct 0 2000 W (by omega) (DI.out.keep hE)).mono ?_; rintro e w9 ⟨rfl, rfl⟩; exact ⟨_, rfl, Ext.refl _, _, rfl, HN3.out.symm⟩
        · intro a W hE hd ho; have e1 : a.tmps[1]?.getD undef = .pointer (some ⟨g, 0, none⟩) := ho 1 (by kernel_rfl); exact gs_same (v := .pointer (some ⟨g, 10, none⟩)) (by go_simp) rfl
        · intro a W hE hd ho; have e28 : a.tmps[28]?.getD undef = .pointer (some ⟨g, 10, none⟩) := hd 8 28 (by kernel_rfl) (by kernel_rfl); have c10 := ((T2.out.below hE).cell 10).trans q10; exact gs_same (v := .int .i64 T.side) (by go_simp) rfl
        · intro a W hE hd ho; have e29 : a.tmps[29]?.getD undef = .int .i64 T.side := hd 9 29 (by kernel_rfl) (by kernel_rfl); refine gs_call (f := 103) (args := #[.int .i64 T.side, .int .i64 0, .int .i64 1000]) (by go_simp) ?_; refine (refCheckRange_any T.side 0 1000 W).mono ?_; rintro e w9 ⟨rfl, rfl⟩; exact ⟨_, rfl, Ext.refl _, _, rfl, HN4.out.symm⟩
        · intro a W hE hd ho; have e1 : a.tmps[1]?.getD undef = .pointer (some ⟨g, 0, none⟩) := ho 1 (by kernel_rfl); exact gs_same (v := .pointer (some ⟨g, 11, none⟩)) (by go_simp) rfl
        · intro a W hE hd ho; have e31 : a.tmps[31]?.getD undef = .pointer (some ⟨g, 11, none⟩) := hd 11 31 (by kernel_rfl) (by kernel_rfl); have c11 := ((T2.out.below hE).cell 11).trans q11; exact gs_same (v := .slice qa qn qc) (by go_simp) rfl
        · intro a W hE hd ho; have e32 : a.tmps[32]?.getD undef = .slice qa qn qc := hd 12 32 (by kernel_rfl) (by kernel_rfl); refine gs_call (f := 104) (args := #[.slice qa qn qc]) (by go_simp) ?_; refine (refSquares_full qa qn qc T.squares W (HSq.out.keep (HB2.out.trans (hE.below.mono HB2.out.size))) (by omega)).mono ?_; rintro e w9 ⟨rfl, hbl⟩; exact ⟨_, rfl, hbl, _, rfl, HN5.out.symm⟩
        · intro a W hE hd ho; have e1 : a.tmps[1]?.getD undef = .pointer (some ⟨g, 0, none⟩) := ho 1 (by kernel_rfl); exact gs_same (v := .pointer (some ⟨g, 12, none⟩)) (by go_simp) rfl
        · intro a W hE hd ho; have e34 : a.tmps[34]?.getD undef = .pointer (some ⟨g, 12, none⟩) := hd 14 34 (by kernel_rfl) (by kernel_rfl); have c12 := ((T2.out.below hE).cell 12).trans q12; exact gs_same (v := .slice ga gn gc) (by go_simp) rfl
        · intro a W hE hd ho; have e35 : a.tmps[35]?.getD undef = .slice ga gn gc := hd 15 35 (by kernel_rfl) (by kernel_rfl); exact gs_same (v := .int .i64 gn) (by go_simp) rfl
        · intro a W hE hd ho; have e36 : a.tmps[36]?.getD undef = .int .i64 gn := hd 16 36 (by kernel_rfl) (by kernel_rfl); exact gs_same (v := .bool (((gn : Int) == 0))) (by go_simp) rfl
        · intro a W hE hd ho; have e37 : a.tmps[37]?.getD undef = .bool (((gn : Int) == 0)) := hd 17 37 (by kernel_rfl) (by kernel_rfl); refine gs_call (f := 105) (args := #[.bool (((gn : Int) == 0)), .int .i64 12]) (by go_simp) ?_; refine (refWhen_let _ _ _).mono ?_; rintro e w9 ⟨b, rfl, hb, rfl⟩; exact ⟨_, rfl, Ext.refl _, b, rfl, hb.out⟩
        · intro a W hE hd ho; have e1 : a.tmps[1]?.getD undef = .pointer (some ⟨g, 0, none⟩) := ho 1 (by kernel_rfl); exact gs_same (v := .pointer (some ⟨g, 12, none⟩)) (by go_simp) rfl
        · intro a W hE hd ho; have e39 : a.tmps[39]?.getD undef = .pointer (some ⟨g, 12, none⟩) := hd 19 39 (by kernel_rfl) (by kernel_rfl); have c12 := ((T2.out.below hE).cell 12).trans q12; exact gs_same (v := .slice ga gn gc) (by go_simp) rfl
        · intro a W hE hd ho; have e40 : a.tmps[40]?.getD undef = .slice ga gn gc := hd 20 40 (by kernel_rfl) (by kernel_rfl); exact gs_same (v := .int .i64 gn) (by go_simp) rfl
        · intro a W hE hd ho; have e41 : a.tmps[41]?.getD undef = .int .i64 gn := hd 21 41 (by kernel_rfl) (by kernel_rfl); exact gs_same (v := .bool (decide ((6 : Int) < gn))) (by go_simp) rfl
        · intro a W hE hd ho; have e42 : a.tmps[42]?.getD undef = .bool (decide ((6 : Int) < gn)) := hd 22 42 (by kernel_rfl) (by kernel_rfl); refine gs_call (f := 105) (args := #[.bool (decide ((6 : Int) < gn)), .int .i64 5]) (by go_simp) ?_; refine (refWhen_let _ _ _).mono ?_; rintro e w9 ⟨b, rfl, hb, rfl⟩; exact ⟨_, rfl, Ext.refl _, b, rfl, hb.out⟩
      · intro vs w5 hE hR; have y0 : vs 0 = .pointer (some ⟨g, 0, none⟩) := hR 0 (by omega); have y1 : vs 1 = .string nm := hR 1 (by omega); obtain ⟨z1, y2, hz1⟩ : ∃ b : Int, vs 2 = .int .i64 b ∧ b = (N1) := hR 2 (by omega); have y3 : vs 3 = .pointer (some ⟨g, 1, none⟩) := hR 3 (by omega); have y4 : vs 4 = .slice sa sn sc := hR 4 (by omega); obtain ⟨z2, y5, hz2⟩ : ∃ b : Int, vs 5 = .int .i64 b ∧ b = (N2) := hR 5 (by omega); have y6 : vs 6 = .slice (some ⟨gd, 0, none⟩) 8 cd := hR 6 (by omega); obtain ⟨z3, y7, hz3⟩ : ∃ b : Int, vs 7 = .int .i64 b ∧ b = (N3) := hR 7 (by omega); have y8 : vs 8 = .pointer (some ⟨g, 10, none⟩) := hR 8 (by omega); have y9 : vs 9 = .int .i64 T.side := hR 9 (by omega); obtain ⟨z4, y10, hz4⟩ : ∃ b : Int, vs 10 = .int .i64 b ∧ b = (N4) := hR 10 (by omega); have y11 : vs 11 = .pointer (some ⟨g, 11, none⟩) := hR 11 (by omega); have y12 : vs 12 = .slice qa qn qc := hR 12 (by omega)
        obtain ⟨z5, y13, hz5⟩ : ∃ b : Int, vs 13 = .int .i64 b ∧ b = (N5) := hR 13 (by omega); have y14 : vs 14 = .pointer (some ⟨g, 12, none⟩) := hR 14 (by omega); have y15 : vs 15 = .slice ga gn gc := hR 15 (by omega); have y16 : vs 16 = .int .i64 gn := hR 16 (by omega); have y17 : vs 17 = .bool (((gn : Int) == 0)) := hR 17 (by omega); obtain ⟨z6, y18, hz6⟩ : ∃ b : Int, vs 18 = .int .i64 b ∧ b = (if ((gn : Int) == 0) = true then 12 else 0) := hR 18 (by omega); have y19 : vs 19 = .pointer (some ⟨g, 12, none⟩) := hR 19 (by omega); have y20 : vs 20 = .slice ga gn gc := hR 20 (by omega); have y21 : vs 21 = .int .i64 gn := hR 21 (by omega); have y22 : vs 22 = .bool (decide ((6 : Int) < gn)) := hR 22 (by omega); obtain ⟨z7, y23, hz7⟩ : ∃ b : Int, vs 23 = .int .i64 b ∧ b = (if decide ((6 : Int) < (gn : Int)) = true then 5 else 0) := hR 23 (by omega); simp only [List.range, List.range.loop, List.foldl_cons, List.foldl_nil, y0, y1, y2, y3, y4, y5, y6, y7, y8, y9, y10, y11, y12, y13, y14, y15, y16, y17, y18, y19, y20, y21, y22, y23, List.drop_succ_cons, List.drop_zero]
        simp only [dstAt, List.getElem?_toArray, List.getElem?_cons_zero, List.getElem?_cons_succ, Option.bind_some, Act.put, List.setIfInBounds_toArray, List.set_cons_zero, List.set_cons_succ]; clear y0 y1 y2 y3 y4 y5 y6 y7 y8 y9 y10 y11 y12 y13 y14 y15 y16 y17 y18 y19 y20 y21 y22 y23 hR; have T5 := Lib.hid (T2.out.below hE); have HB5 := Lib.hid (HB2.out.trans (hE.below.mono HB2.out.size)); have Hz1 := Lib.hid hz1; have Hz2 := Lib.hid hz2; have Hz3 := Lib.hid hz3; have Hz4 := Lib.hid hz4; have Hz5 := Lib.hid hz5; have Hz6 := Lib.hid hz6; have Hz7 := Lib.hid hz7; clear hz1 hz2 hz3 hz4 hz5 hz6 hz7 hE T2 HB2 DI
        go_wp2_with fail
        refine (refFirst7 _ _ z1 z2 z3 z4 z5 z6 z7 _ (by go_simp) (by go_simp) (by go_simp) (by go_simp) (by go_simp) (by go_simp) (by go_simp)).mono ?_; obtain ⟨F, hF⟩ : ∃ F, F = firstE [z1, z2, z3, z4, z5, z6, z7] := ⟨_, rfl⟩; rw [← hF]
        have HFZ : Hid (F = Z) := by
          show _ = _
          rw [hF, HZ.out, Hz1.out, Hz2.out, Hz3.out, Hz4.out, Hz5.out]; have h := cnt_two (R := 0) Hz6.out Hz7.out (by omega); simp only [firstE, if_true, ite_self] at h; simp only [firstE]; rw [h]
        clear hF; rintro e w6 ⟨rfl, rfl⟩; obtain ⟨w7, hw7⟩ : ∃ W, W = w5.alloc (.cells #[.int .i64 z1, .int .i64 z2, .int .i64 z3, .int .i64 z4, .int .i64 z5, .int .i64 z6, .int .i64 z7] 3) := ⟨_, rfl⟩; rw [← hw7]; have hb7 : Below w5.heap.size w5 w7 := by rw [hw7]; exact (Below.refl _ _).alloc (Nat.le_refl _) _
        have T7 := Lib.hid (T5.out.below hb7); have HB7 := Lib.hid (HB5.out.trans (hb7.mono HB5.out.size)); clear hw7 hb7 T5 HB5
        by_cases hf0 : F = 0
        rotate_left
        · have h1 : (F != 0) = true := by simp [hf0]
          go_wp2
          go_ret
          have hr : V = F := by rw [HFZ.out]; exact HV.out.1 (by rw [← HFZ.out]; exact hf0)
          first | exact ⟨ret_int hr.symm, HB7.out⟩ | exact ⟨ret_int rfl, HB7.out⟩
        have h1 : (F != 0) = false := by simp [hf0]
        have hzz : Z = 0 := by rw [← HFZ.out]; exact hf0
        have HV2 := Lib.hid (HV.out.2 hzz); have hc6 := cntI_zero (firstE_zero (HZ.out.symm.trans hzz) (cntI gn 6) (by simp)); have k6 : 0 < gn := hc6.1; have k7 : gn ≤ 6 := by omega
        clear hf0 hzz hc6 Hz1 Hz2 Hz3 Hz4 Hz5 Hz6 Hz7 HFZ HN1 HN2 HN3 HN4 HN5 HZ HV; obtain ⟨gb, go, rfl, hl⟩ := HS.out.2 k6; have HL := Lib.hid hl; have HV2q : Hid (V = setsFrom T.sets qn 0) := by show _ = _; rw [HV2.out, HSq.out.1]
        clear hl HV2; go_wp2
        go_loopw [6, 7] (fun i _ wr => ∃ k : Nat, k ≤ gn ∧ i = .int .i64 k ∧ Hid (∀ j, j < k → ((T.sets.getD j (0, [])).2).length = qn) ∧ Hid (V = setsFrom T.sets qn k) ∧ Hid (Below w7.heap.size w7 wr)) (fun i _ _ => gn - (intOf i).toNat)
        case atStart => exact ⟨0, Nat.zero_le _, rfl, (fun j hj => by omega), HV2q.out, Below.refl _ _⟩
        case round =>
          obtain ⟨k, hk, rfl, hok, hvk, hbw⟩ := hrel; have T8 := Lib.hid (T7.out.below hbw.out); have HB8 := Lib.hid (HB7.out.trans (hbw.out.mono HB7.out.size)); have t12 := (T8.out.cell 12).trans q12
          by_cases hlt : k < gn
          · have HLK := Lib.hid (HL.out.keep HB8.out); obtain ⟨ea, en, ec, a1, a2, a3⟩ := HLK.out.2 k hlt; obtain ⟨fa, fn, fc, b1, b2, b3⟩ := HLK.out.2 (k - 1) (by omega); have hen : en ≤ 140737488351232 := by have h1 := HT.out.each k hlt; rw [a3.1] at h1; omega
            have hfn : 0 < k → fn = qn := fun h => by have h1 := hok.out (k - 1) (by omega); rw [b3.1] at h1; exact h1
            have C := Lib.hid (refSetting_full wr gb go gn gc k (k - 1) q12 qa qn qc q11 hlt rfl (by omega) (Bell.ePow T.sets k) (Bell.ePow T.sets (k - 1)) ea fa en ec fn fc _ _ ⟨a1, a2⟩ ⟨b1, b2⟩ a3 b3 hen hfn); have HEN := Lib.hid a3.1; have HST := Lib.hid (setsFrom_step (m := qn) (s := T.sets) (k := k) (by rw [HL.out.1]; exact hlt)); clear a1 a2 a3 b1 b2 b3 hen hfn
            go_wp2_with (refine wpList_load_row rfl 26 _ rfl g rfl 26 cs (0, 0) _ T8.out Tryz.underlying26 rfl IT.out ?_)
            refine C.out.mono ?_; rintro e w9 ⟨E2, rfl, hE2, hb9⟩; have HB9 := Lib.hid (HB8.out.trans (hb9.mono HB8.out.size)); have HW9 := Lib.hid (hbw.out.trans (hb9.mono hbw.out.size)); clear hb9 C
            have hE3 : E2 = Bell.setE qn (prevP T.sets k) (prevE T.sets qn k) (Bell.ePow T.sets k, (T.sets.getD k (0, [])).2) := by
              refine setK_is hE2.out HEN.out (fun h => ?_) (fun h => ?_)
              · subst h; exact ⟨rfl, fun i => by unfold prevE; rw [if_pos rfl]; simp [List.getD_eq_getElem?_getD, List.getElem?_replicate]; split <;> rfl⟩
              · exact ⟨by unfold prevP; rw [if_neg (by omega)], by unfold prevE; rw [if_neg (by omega)]⟩
            have HE3 := Lib.hid hE3; clear hE3
            by_cases he2 : E2 = 0
            · have h2 : (E2 != 0) = false := by simp [he2]
              have HVN : Hid (V = setsFrom T.sets qn (k + 1)) := by show _ = _; rw [hvk.out, HST.out, ← HE3.out, Bell.thenE, if_pos he2]
              have HLQ : Hid (((T.sets.getD k (0, [])).2).length = qn) := (Bell.setE_zero (HE3.out.symm.trans he2)).2.2.1; clear he2 hE2; go_wp2; go_roundw
              case rel =>
                refine ⟨k + 1, by omega, by go_num, fun j hj => ?_, HVN.out, HW9.out⟩
                by_cases hjk : j < k
                · exact hok.out j hjk
                · obtain rfl : j = k := by omega
                  exact HLQ.out
              case measure => simp [intOf]; omega
            · have h2 : (E2 != 0) = true := by simp [he2]
              go_wp2
              go_ret
              have hr : V = E2 := by rw [hvk.out, HST.out, ← HE3.out, Bell.thenE, if_neg he2]
              first | exact ⟨ret_int hr.symm, HB9.out⟩ | exact ⟨ret_int rfl, HB9.out⟩
          · obtain rfl : k = gn := by omega
            go_wp2
            go_ret
            have hr : V = 0 := by rw [hvk.out, ← HL.out.1]; exact setsFrom_end _ _
            first | exact ⟨ret_int hr.symm, HB8.out⟩ | exact ⟨ret_int rfl, HB8.out⟩
end Go.Proofs.YtmafmebcgmegeaaGreatDoor

namespace Go.Proofs.YtmafmebcgmegeaaGreatDoor
open Go.RowKit Go.Sort
set_option maxHeartbeats 1000000 in
set_option maxRecDepth 100000 in
theorem Emission_ok {cs : Array Value} {nm : ByteArray} {sh : List Int} {T : Bell.Ty} {sa : Option Addr} {sn sc qb qo qn qc gb go gn gc : Nat} (p q : Int) (w : World) (hT : TyOk w cs nm sh T sa sn sc qb qo qn qc gb go gn gc) (hp : 1 ≤ p ∧ p ≤ 100) (hq : 0 ≤ q ∧ q ≤ 100000000000) :
    Calls Tryz.prog 15 #[.agg cs, .int .i64 p, .int .i64 q] w fun e w' => e = .returned (.tuple #[.int .i64 (Bell.emis T.sets (Bell.reachOf T.squares q) p), .int .i64 0]) ∧ Below w.heap.size w w' := by
  have HO := Lib.hid hT; have IT := Lib.hid hT.mem.info; have HP : Hid (withinE p 1 100 = 0 ∧ withinE q 0 100000000000 = 0) := ⟨withinE_in hp.1 hp.2, withinE_in hq.1 hq.2⟩; have HE := Lib.hid (fun W (hb : Below w.heap.size w W) => emission_any p q W (hT.mem.keep hb) hT.good hp ⟨hq.1, by omega⟩); obtain ⟨V, hV⟩ : ∃ V, V = Bell.emis T.sets (Bell.reachOf T.squares q) p := ⟨_, rfl⟩; rw [← hV] at HE ⊢; clear hT hp hq hV
  go_enter Tryz.func15, Tryz.ntmps15
  go_upto_region 1 with fail
  obtain ⟨w1, hw1⟩ : ∃ W, W = (w.alloc (.cells cs 42)) := ⟨_, rfl⟩; rw [← hw1]; have B3 : Hid (Blk w1 (w.heap.size) 42 cs) := by show Blk _ _ _ _; rw [hw1]; exact Blk.new _ _ _
  have hb1 : Below w.heap.size w w1 := by rw [hw1]; exact ((Below.refl _ _).alloc (Nat.le_refl _) _)
  obtain ⟨g3, hg3⟩ : ∃ g, g = w.heap.size := ⟨_, rfl⟩; have HGw1 : Hid (g3 = w.heap.size) := hg3; rw [← hg3] at B3
  try rw [← hg3]
  clear hw1 hg3; have HB : Hid (Below w.heap.size w w1) := hb1; clear hb1
  go_wp2_with (refine wpList_load_row rfl 42 _ rfl g3 rfl 42 cs (0, 0) _ B3.out Tryz.underlying42 rfl IT.out ?_)
  refine (CheckType_ok w1 (HO.out.keep HB.out)).mono ?_; rintro e w2 ⟨rfl, hb⟩; replace HB := Lib.hid (HB.out.trans (hb.mono HB.out.size)); replace B3 := Lib.hid (B3.out.below hb); clear hb
  go_wp2_with fail
  refine (srcPower_st p w2).mono ?_; rw [HP.out.1]; rintro e w3 ⟨rfl, rfl⟩
  go_wp2_with fail
  refine (srcSquare_st q w3).mono ?_; rw [HP.out.2]; rintro e w4 ⟨rfl, rfl⟩
  go_wp2_with fail
  obtain ⟨w5, hw5⟩ : ∃ W, W = (w4.alloc (.cells #[.int .i64 0, .int .i64 0, .int .i64 0] 37)) := ⟨_, rfl⟩; rw [← hw5]; have ES : Hid (Blk w5 (w4.heap.size) 37 #[.int .i64 0, .int .i64 0, .int .i64 0]) := by show Blk _ _ _ _; rw [hw5]; exact Blk.new _ _ _
  have hb5 : Below w4.heap.size w4 w5 := by rw [hw5]; exact ((Below.refl _ _).alloc (Nat.le_refl _) _)
  obtain ⟨ge, hge⟩ : ∃ g, g = w4.heap.size := ⟨_, rfl⟩; have HGw5 : Hid (ge = w4.heap.size) := hge; rw [← hge] at ES
  try rw [← hge]
  clear hw5 hge; replace HB := Lib.hid (HB.out.trans (hb5.mono HB.out.size)); replace B3 := Lib.hid (B3.out.below hb5); clear hb5; refine (first3 _ _ 0 0 0 _ (ES.out.cell 0) (ES.out.cell 1) (ES.out.cell 2)).mono ?_; rw [show firstE [0, 0, 0] = 0 from rfl]; rintro e w6 ⟨rfl, rfl⟩; clear ES
  go_wp2_with (refine wpList_load_row rfl 42 _ rfl g3 rfl 42 cs (0, 0) _ B3.out Tryz.underlying42 rfl IT.out ?_)
  refine (HE.out w5 HB.out).mono ?_; rintro e w7 ⟨rfl, hb⟩; replace HB := Lib.hid (HB.out.trans (hb.mono HB.out.size)); clear hb; go_wp2
  (try simp only [Exit.inBlock, Exit.then])
  refine bodyPost_ret (v := .tuple #[.int .i64 V, .int .i64 0]) (by simp [results, Tryz.results15, go_sem, asAddr]) rfl ?_; exact ⟨rfl, HB.out⟩
set_option maxHeartbeats 1000000 in
set_option maxRecDepth 100000 in
theorem Sector_ok (hx hy x y : Int) (w : World) (h1 : -200000 ≤ hx ∧ hx ≤ 200000) (h2 : -200000 ≤ hy ∧ hy ≤ 200000) (h3 : -200000 ≤ x ∧ x ≤ 200000) (h4 : -200000 ≤ y ∧ y ≤ 200000) :
    Calls Tryz.prog 17 #[.agg #[.int .i64 hx, .int .i64 hy], .agg #[.int .i64 x, .int .i64 y]] w fun e w' => e = .returned (.tuple #[.int .i64 (Bell.sectorOf hx hy x y : Nat), .int .i64 0]) ∧ Below w.heap.size w w' := by
  have HD1 : Hid (∀ W, Calls Tryz.prog 91 #[.agg #[.int .i64 hx, .int .i64 hy]] W fun e w' => e = .returned (.int .i64 0) ∧ Below W.heap.size W w') := fun W => by
    have := checkDirection_any hx hy W
    rwa [show dirE hx hy = 0 by simp [dirE, firstE, withinE_in h1.1 h1.2, withinE_in h2.1 h2.2]] at this
  have HD2 : Hid (∀ W, Calls Tryz.prog 91 #[.agg #[.int .i64 x, .int .i64 y]] W fun e w' => e = .returned (.int .i64 0) ∧ Below W.heap.size W w') := fun W => by
    have := checkDirection_any x y W
    rwa [show dirE x y = 0 by simp [dirE, firstE, withinE_in h3.1 h3.2, withinE_in h4.1 h4.2]] at this
  have HS := Lib.hid (fun W => sector_any hx hy x y W ⟨by omega, by omega⟩ ⟨by omega, by omega⟩ ⟨by omega, by omega⟩ ⟨by omega, by omega⟩); obtain ⟨S, hS⟩ : ∃ S, S = Bell.sectorOf hx hy x y := ⟨_, rfl⟩; rw [← hS] at HS ⊢; clear h1 h2 h3 h4 hS
  go_enter Tryz.func17, Tryz.ntmps17
  go_upto_region 1 with fail
  obtain ⟨w1, hw1⟩ : ∃ W, W = ((w.alloc (.cells #[.int .i64 hx, .int .i64 hy] 30)).alloc (.cells #[.int .i64 x, .int .i64 y] 30)) := ⟨_, rfl⟩; rw [← hw1]; have B2 : Hid (Blk w1 (w.heap.size) 30 #[.int .i64 hx, .int .i64 hy]) := by show Blk _ _ _ _; rw [hw1]; exact (Blk.new _ _ _).alloc _
  have B3 : Hid (Blk w1 (w.heap.size + 1) 30 #[.int .i64 x, .int .i64 y]) := by show Blk _ _ _ _; rw [hw1]; exact Blk.at_size _ _ (by simp)
  have hb1 : Below w.heap.size w w1 := by rw [hw1]; exact (((Below.refl _ _).alloc (Nat.le_refl _) _).alloc (by simp) _)
  obtain ⟨g2, hg2⟩ : ∃ g, g = w.heap.size := ⟨_, rfl⟩; obtain ⟨g3, hg3⟩ : ∃ g, g = w.heap.size + 1 := ⟨_, rfl⟩; have HGw1 : Hid (g2 = w.heap.size ∧ g3 = w.heap.size + 1) := ⟨hg2, hg3⟩; rw [← hg3] at B3
  try rw [← hg3]
  rw [← hg2] at B2
  try rw [← hg2]
  clear hw1 hg2 hg3; have HB : Hid (Below w.heap.size w w1) := hb1; clear hb1; refine wp_region_grow 4 (by kernel_rfl) (by kernel_rfl) [GR.eq (.agg #[.int .i64 hx, .int .i64 hy]), GR.eq (.int .i64 0), GR.eq (.agg #[.int .i64 x, .int .i64 y]), GR.eq (.int .i64 0)] 19 rfl (by kernel_rfl) ?_ ?_
  · refine ⟨?_, ?_, ?_, ?_, trivial⟩
    · intro a W hE hd ho; have e2 : a.tmps[2]?.getD undef = .pointer (some ⟨g2, 0, none⟩) := ho 2 (by kernel_rfl); have C := (B2.out.below hE); have k0 := C.cell 0; have k1 := C.cell 1; simp only [List.getElem?_toArray, List.getElem?_cons_zero, List.getElem?_cons_succ] at k0 k1; exact gs_same (v := .agg #[.int .i64 hx, .int .i64 hy]) (by go_simp) rfl
    · intro a W hE hd ho; have e7 : a.tmps[7]?.getD undef = .agg #[.int .i64 hx, .int .i64 hy] := hd 0 7 (by kernel_rfl) (by kernel_rfl); refine gs_call (f := 91) (args := #[.agg #[.int .i64 hx, .int .i64 hy]]) (by go_simp) ?_; refine (HD1.out W).mono ?_; rintro e w' ⟨rfl, hb⟩; exact ⟨_, rfl, hb, rfl⟩
    · intro a W hE hd ho; have e3 : a.tmps[3]?.getD undef = .pointer (some ⟨g3, 0, none⟩) := ho 3 (by kernel_rfl); have C := (B3.out.below hE); have k0 := C.cell 0; have k1 := C.cell 1; simp only [List.getElem?_toArray, List.getElem?_cons_zero, List.getElem?_cons_succ] at k0 k1; exact gs_same (v := .agg #[.int .i64 x, .int .i64 y]) (by go_simp) rfl
    · intro a W hE hd ho; have e9 : a.tmps[9]?.getD undef = .agg #[.int .i64 x, .int .i64 y] := hd 2 9 (by kernel_rfl) (by kernel_rfl); refine gs_call (f := 91) (args := #[.agg #[.int .i64 x, .int .i64 y]]) (by go_simp) ?_; refine (HD2.out W).mono ?_; rintro e w' ⟨rfl, hb⟩; exact ⟨_, rfl, hb, rfl⟩
  intro vs wq hE hR; have y0 : vs 0 = .agg #[.int .i64 hx, .int .i64 hy] := hR 0 (by omega); have y1 : vs 1 = .int .i64 0 := hR 1 (by omega); have y2 : vs 2 = .agg #[.int .i64 x, .int .i64 y] := hR 2 (by omega); have y3 : vs 3 = .int .i64 0 := hR 3 (by omega); simp only [List.range, List.range.loop, List.foldl_cons, List.foldl_nil, y0, y1, y2, y3, List.drop_succ_cons, List.drop_zero]; simp only [dstAt, List.getElem?_toArray, List.getElem?_cons_zero, List.getElem?_cons_succ, Option.bind_some, Act.put, List.setIfInBounds_toArray, List.set_cons_zero, List.set_cons_succ]; clear y0 y1 y2 y3 hR; have HE2 := hE; replace HB := Lib.hid (HB.out.trans (HE2.mono HB.out.size)); replace B2 := Lib.hid (B2.out.below HE2); replace B3 := Lib.hid (B3.out.below HE2); clear HE2; clear hE HD1 HD2
  go_wp2_with fail
  obtain ⟨w4, hw4⟩ : ∃ W, W = (wq.alloc (.cells #[.int .i64 0, .int .i64 0] 37)) := ⟨_, rfl⟩; rw [← hw4]; have ES : Hid (Blk w4 (wq.heap.size) 37 #[.int .i64 0, .int .i64 0]) := by show Blk _ _ _ _; rw [hw4]; exact Blk.new _ _ _
  have hb4 : Below wq.heap.size wq w4 := by rw [hw4]; exact ((Below.refl _ _).alloc (Nat.le_refl _) _)
  obtain ⟨ge, hge⟩ : ∃ g, g = wq.heap.size := ⟨_, rfl⟩; have HGw4 : Hid (ge = wq.heap.size) := hge; rw [← hge] at ES
  try rw [← hge]
  clear hw4 hge; replace HB := Lib.hid (HB.out.trans (hb4.mono HB.out.size)); replace B2 := Lib.hid (B2.out.below hb4); replace B3 := Lib.hid (B3.out.below hb4); clear hb4; refine (first2 _ _ 0 0 _ (ES.out.cell 0) (ES.out.cell 1)).mono ?_; rw [show firstE [0, 0] = 0 from rfl]; rintro e w5 ⟨rfl, rfl⟩; clear ES; have AA := B2.out; have BB := B3.out; have ac0 := AA.cell 0; have af0 := AA.frozen 0; have ac1 := AA.cell 1; have af1 := AA.frozen 1; simp only [List.getElem?_toArray, List.getElem?_cons_zero, List.getElem?_cons_succ] at ac0 ac1; clear AA; have bc0 := BB.cell 0; have bf0 := BB.frozen 0; have bc1 := BB.cell 1; have bf1 := BB.frozen 1; simp only [List.getElem?_toArray, List.getElem?_cons_zero, List.getElem?_cons_succ] at bc0 bc1; clear BB
  go_wp2_with fail
  refine (HS.out w4).mono ?_; rintro e w6 ⟨rfl, hb⟩; replace HB := Lib.hid (HB.out.trans (hb.mono HB.out.size)); clear hb; go_wp2
  (try simp only [Exit.inBlock, Exit.then])
  refine bodyPost_ret (v := .tuple #[.int .i64 S, .int .i64 0]) (by simp [results, Tryz.results17, go_sem, asAddr]) rfl ?_; exact ⟨rfl, HB.out⟩
end Go.Proofs.YtmafmebcgmegeaaGreatDoor
