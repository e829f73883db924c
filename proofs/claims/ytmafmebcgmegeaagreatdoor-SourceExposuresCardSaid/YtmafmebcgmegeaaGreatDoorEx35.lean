/- Texts Wa Iw Ix Qb Wb Wk of the proof. -/
import Derived.Test.YtmafmebcgmegeaaGreatDoorEx33
import Derived.Test.YtmafmebcgmegeaaGreatDoorEx34
import Derived.Test.YtmafmebcgmegeaaGreatDoorEx3
import Derived.Test.YtmafmebcgmegeaaGreatDoorEx29
import Derived.Test.YtmafmebcgmegeaaGreatDoorEx23
import Derived.Test.YtmafmebcgmegeaaGreatDoorEx24
import Derived.Test.YtmafmebcgmegeaaGreatDoorEx14
import Derived.Test.YtmafmebcgmegeaaGreatDoorEx17
namespace Go.Proofs.YtmafmebcgmegeaaGreatDoor
open Go.RowKit Go.Sort
def GR.isN (N : Int) : GR := ⟨fun v _ => ∃ b : Int, v = .int .i64 b ∧ b = N, fun h _ => h⟩
theorem refName_full (s : ByteArray) (w : World) (hs : s.size ≤ 140737488351232) :
    Calls Tryz.prog 100 #[.string s] w fun e w' => e = .returned (.int .i64 (nameE s)) ∧ w' = w := by
  have HN := Lib.hid (fun W => refIsName_any s W hs)
  cases hv : nameB s
  · have hr : nameE s = 8 := by unfold nameE; rw [if_neg (by rw [hv]; decide)]
    rw [hr]
    rw [hv] at HN
    clear hv hr
    go_enter Tryz.func100, Tryz.ntmps100
    go_wp2_with fail
    refine (HN.out w).mono ?_
    rintro e w' ⟨rfl, rfl⟩
    go_wp2_with fail
    refine (refWhen_as (b := true) (x := 8) (a := 8) _ rfl).mono ?_
    rintro e w2 ⟨rfl, rfl⟩
    go_wp2
    go_ret
    exact ⟨rfl, rfl⟩
  · have hr : nameE s = 0 := by unfold nameE; rw [if_pos hv]
    rw [hr]
    rw [hv] at HN
    clear hv hr
    go_enter Tryz.func100, Tryz.ntmps100
    go_wp2_with fail
    refine (HN.out w).mono ?_
    rintro e w' ⟨rfl, rfl⟩
    go_wp2_with fail
    refine (refWhen_as (b := false) (x := 8) (a := 0) _ rfl).mono ?_
    rintro e w2 ⟨rfl, rfl⟩
    go_wp2
    go_ret
    exact ⟨rfl, rfl⟩
set_option maxHeartbeats 4000000 in
set_option maxRecDepth 100000 in
theorem refType_full {nm : ByteArray} {sh : List Int} {T : Bell.Ty} {sa : Option Addr} {sn sc : Nat} {qa : Option Addr} {qn qc : Nat} {ga : Option Addr} {gn gc : Nat} {cs : Array Value} (w : World) (hT : RTy w cs nm sh T sa sn sc qa qn qc ga gn gc) (hd8 : T.direct.length = 8) (hS : ShortT nm sn qn gn T.sets) :
    Calls Tryz.prog 20 #[.agg cs] w fun e w' => e = .returned (.int .i64 (Bell.tyE (nameE nm) sh T)) ∧ Below w.heap.size w w' := by
  obtain ⟨i0, hi, hz0, hz1, hz2⟩ := info_parts infoInt
  obtain ⟨N1, hN1⟩ : ∃ x, x = nameE nm := ⟨_, rfl⟩
  obtain ⟨N2, hN2⟩ : ∃ x, x = Bell.shE sh := ⟨_, rfl⟩
  obtain ⟨N3, hN3⟩ : ∃ x, x = firstInE (fun x => withinE x 0 2000) T.direct := ⟨_, rfl⟩
  obtain ⟨N4, hN4⟩ : ∃ x, x = withinE T.side 0 1000 := ⟨_, rfl⟩
  obtain ⟨N5, hN5⟩ : ∃ x, x = Bell.sqE T.squares := ⟨_, rfl⟩
  obtain ⟨Z, hZ⟩ : ∃ x, x = firstE [N1, N2, N3, N4, N5, cntI gn 6] := ⟨_, rfl⟩
  obtain ⟨V, hV⟩ : ∃ x, x = Bell.tyE (nameE nm) sh T := ⟨_, rfl⟩
  have HV : Hid ((Z ≠ 0 → V = Z) ∧ (Z = 0 → V = setsFrom T.sets T.squares.length 0)) := by
    have e : Bell.firstE [nameE nm, Bell.shE sh, Bell.eachE (fun n => Bell.inR n 0 2000) T.direct, Bell.inR T.side 0 1000, Bell.sqE T.squares, Bell.cntE T.sets.length 6] = Z := by
      rw [bfirst, beach, cntE_cnt, hT.sets.1, hZ, hN1, hN2, hN3, hN4, hN5]
      rfl
    refine ⟨fun h => ?_, fun h => ?_⟩
    · rw [hV]; unfold Bell.tyE Bell.thenE; rw [e, if_neg h]
    · rw [hV]; unfold Bell.tyE Bell.thenE; rw [e, if_pos h]; rfl
  rw [← hV]
  have HZ := Lib.hid hZ
  have HN1 := Lib.hid hN1; have HN2 := Lib.hid hN2; have HN3 := Lib.hid hN3; have HN4 := Lib.hid hN4; have HN5 := Lib.hid hN5
  clear hN1 hN2 hN3 hN4 hN5 hZ hV
  have HS := Lib.hid hT.sets
  have HSh := Lib.hid hT.shares
  have HSq := Lib.hid hT.squares
  have HT := Lib.hid hS
  have HD8 := Lib.hid hd8
  have IT : Hid ((Tryz.prog.info? 26).map (·.size) = some cs.size) := by show _ = _; rw [hT.cells]; kernel_rfl
  have q0 := hT.c0
  have q1 := hT.c1
  have q10 := hT.c10
  have q11 := hT.c11
  have q12 := hT.c12
  have QD : Hid (∀ i, i < 8 → cs[2 + i]? = some (.int .i64 (T.direct.getD i 0))) := fun i hi => by
    rw [hT.cells]
    match i, hi with
    | 0, _ => rfl
    | 1, _ => rfl
    | 2, _ => rfl
    | 3, _ => rfl
    | 4, _ => rfl
    | 5, _ => rfl
    | 6, _ => rfl
    | 7, _ => rfl
  have hs9 : sn ≤ 9 := hS.shares
  have hq9 : qn ≤ 9 := hS.squares
  have hg7 : gn ≤ 7 := hS.sets
  have hnm : nm.size ≤ 40 := hS.name
  clear hT hS hd8
  go_enter Tryz.func20, Tryz.ntmps20
  go_upto_region 1 with fail
  obtain ⟨w1, hw1⟩ : ∃ W, W = w.alloc (.cells cs 26) := ⟨_, rfl⟩
  rw [← hw1]
  have T1 : Hid (Blk w1 w.heap.size 26 cs) := by show Blk _ _ _ _; rw [hw1]; exact Blk.new _ _ _
  have HB1 : Hid (Below w.heap.size w w1) := by show Below _ _ _; rw [hw1]; exact (Below.refl _ _).alloc (Nat.le_refl _) _
  obtain ⟨g, hg⟩ : ∃ g, g = w.heap.size := ⟨_, rfl⟩
  rw [← hg] at T1 ⊢
  clear hw1 hg
  have hgl : g < w1.heap.size := lt_of_block T1.out
  go_wp2
  go_loopw [3, 4] (fun v i wr => ∃ k : Nat, k ≤ 8 ∧ i = .int .i64 k ∧ OwnI wr w1.heap.size v (T.direct.take k) ∧ Below w1.heap.size w1 wr) (fun _ i _ => 8 - (intOf i).toNat)
  case atStart => exact ⟨0, Nat.zero_le _, rfl, own_empty w1, (Below.refl _ _).alloc (Nat.le_refl _) _⟩
  case round =>
    obtain ⟨k, hk, rfl, hown, hbw⟩ := hrel
    by_cases hlt : k < 8
    · have hlen : (T.direct.take k).length = k := by rw [List.length_take, HD8.out]; omega
      have hown0 : wr.ownsRow w1.heap.size 3 1 u3 k ((T.direct.take k).map (Value.int .i64)) := by have := hown; unfold OwnI at this; rwa [hlen] at this
      have hsz := hbw.size
      have HB := Lib.hid hbw
      have cd := ((T1.out.below hbw).cell (2 + k)).trans (QD.out k hlt)
      obtain ⟨x, hx⟩ : ∃ x, x = T.direct.getD k 0 := ⟨_, rfl⟩
      rw [← hx] at cd
      have HT2 : Hid (T.direct.take (k + 1) = T.direct.take k ++ [x]) := by
        show _ = _
        have hkl : k < T.direct.length := by rw [HD8.out]; exact hlt
        have hgd : T.direct.getD k 0 = T.direct[k] := by simp [List.getD_eq_getElem?_getD, List.getElem?_eq_getElem hkl]
        rw [hx, hgd]
        exact (List.take_append_getElem hkl).symm
      have HLEN := Lib.hid hlen
      clear hown hbw hx hlen
      go_wp2_with (at_builtin; refine wpList_append_own _ rfl _ _ 22 rfl w1.heap.size 3 i0 (.int .i64 0) 1 8 Tryz.underlying22 hi hz0 hz1 hz2 rfl (by decide) _ _ _ rfl (World.ownsRow.alloc hown0 _) ⟨wr.heap.size, 0, none⟩ 1 1 [.int .i64 x] rfl rfl (cell_one_new _ _ _) (by simp [Value.oneCell']) (by unfold maxLen; omega) (by omega) (by simp; omega) ?_; intro v' w2 hown' hgrow _)
      have R : OwnI w2 w1.heap.size v' (T.direct.take (k + 1)) := by
        unfold OwnI
        rw [HT2.out, List.length_append, HLEN.out, List.map_append]
        exact hown'
      have B1 : Below w1.heap.size w1 w2 := Below.grown (HB.out.alloc (by omega) _) hgrow (by simp; omega) (fun j hj => (hown0.lt j hj).1)
      clear hown' hgrow hown0
      go_wp2
      go_roundw
      case rel => exact ⟨k + 1, by omega, by go_num, R, B1⟩
      case measure => simp [intOf]; omega
    · obtain rfl : k = 8 := by omega
      rw [List.take_of_length_le (by rw [HD8.out]; omega)] at hown
      rcases hown.form with ⟨_, hnil⟩ | ⟨gd, cd, hv, _⟩
      · rw [hnil] at HD8; exact absurd HD8.out (by simp)
      rw [HD8.out] at hv
      subst hv
      have DI := Lib.hid hown.at_
      have T2 := Lib.hid (T1.out.below hbw)
      have HB2 := Lib.hid (HB1.out.trans (hbw.mono HB1.out.size))
      clear hown hbw hk hlt T1 HB1
      go_wp2
      refine wp_region_grow 24 (by kernel_rfl) (by kernel_rfl) [GR.eq (.pointer (some ⟨g, 0, none⟩)), GR.eq (.string nm), GR.isN N1, GR.eq (.pointer (some ⟨g, 1, none⟩)), GR.eq (.slice sa sn sc), GR.isN N2, GR.eq (.slice (some ⟨gd, 0, none⟩) 8 cd), GR.isN N3, GR.eq (.pointer (some ⟨g, 10, none⟩)), GR.eq (.int .i64 T.side), GR.isN N4, GR.eq (.pointer (some ⟨g, 11, none⟩)), GR.eq (.slice qa qn qc), GR.isN N5, GR.eq (.pointer (some ⟨g, 12, none⟩)), GR.eq (.slice ga gn gc), GR.eq (.int .i64 gn), GR.eq (.bool (((gn : Int) == 0))), GR.isN (if ((gn : Int) == 0) = true then 12 else 0), GR.eq (.pointer (some ⟨g, 12, none⟩)), GR.eq (.slice ga gn gc), GR.eq (.int .i64 gn), GR.eq (.bool (decide ((6 : Int) < gn))), GR.isN (if decide ((6 : Int) < (gn : Int)) = true then 5 else 0)] 62 rfl (by kernel_rfl) ?_ ?_
      · refine ⟨?_, ?_, ?_, ?_, ?_, ?_, ?_, ?_, ?_, ?_, ?_, ?_, ?_, ?_, ?_, ?_, ?_, ?_, ?_, ?_, ?_, ?_, ?_, ?_, trivial⟩
        · intro a W hE hd ho
          have e1 : a.tmps[1]?.getD undef = .pointer (some ⟨g, 0, none⟩) := ho 1 (by kernel_rfl)
          exact gs_same (v := .pointer (some ⟨g, 0, none⟩)) (by go_simp) rfl
        · intro a W hE hd ho
          have e20 : a.tmps[20]?.getD undef = .pointer (some ⟨g, 0, none⟩) := hd 0 20 (by kernel_rfl) (by kernel_rfl)
          have c0 := ((T2.out.below hE).cell 0).trans q0
          exact gs_same (v := .string nm) (by go_simp) rfl
        · intro a W hE hd ho
          have e21 : a.tmps[21]?.getD undef = .string nm := hd 1 21 (by kernel_rfl) (by kernel_rfl)
          refine gs_call (f := 100) (args := #[.string nm]) (by go_simp) ?_
          refine (refName_full nm W (by omega)).mono ?_
          rintro e w9 ⟨rfl, rfl⟩
          exact ⟨_, rfl, Ext.refl _, _, rfl, HN1.out.symm⟩
        · intro a W hE hd ho
          have e1 : a.tmps[1]?.getD undef = .pointer (some ⟨g, 0, none⟩) := ho 1 (by kernel_rfl)
          exact gs_same (v := .pointer (some ⟨g, 1, none⟩)) (by go_simp) rfl
        · intro a W hE hd ho
          have e23 : a.tmps[23]?.getD undef = .pointer (some ⟨g, 1, none⟩) := hd 3 23 (by kernel_rfl) (by kernel_rfl)
          have c1 := ((T2.out.below hE).cell 1).trans q1
          exact gs_same (v := .slice sa sn sc) (by go_simp) rfl
        · intro a W hE hd ho
          have e24 : a.tmps[24]?.getD undef = .slice sa sn sc := hd 4 24 (by kernel_rfl) (by kernel_rfl)
          refine gs_call (f := 101) (args := #[.slice sa sn sc]) (by go_simp) ?_
          refine (refShares_full sa sn sc sh W (HSh.out.keep (HB2.out.trans (hE.below.mono HB2.out.size))) (by omega)).mono ?_
          rintro e w9 ⟨rfl, hbl⟩
          exact ⟨_, rfl, hbl, _, rfl, HN2.out.symm⟩
        · intro a W hE hd ho
          have e3 : a.tmps[3]?.getD undef = .slice (some ⟨gd, 0, none⟩) 8 cd := ho 3 (by kernel_rfl)
          exact gs_same (v := .slice (some ⟨gd, 0, none⟩) 8 cd) (by go_simp) rfl
        · intro a W hE hd ho
          have e26 : a.tmps[26]?.getD undef = .slice (some ⟨gd, 0, none⟩) 8 cd := hd 6 26 (by kernel_rfl) (by kernel_rfl)
          refine gs_call (f := 102) (args := #[.slice (some ⟨gd, 0, none⟩) 8 cd, .int .i64 0, .int .i64 2000]) (by go_simp) ?_
          refine (refRanges_any _ 8 cd T.direct 0 2000 W (by omega) (DI.out.keep hE)).mono ?_
          rintro e w9 ⟨rfl, rfl⟩
          exact ⟨_, rfl, Ext.refl _, _, rfl, HN3.out.symm⟩
        · intro a W hE hd ho
          have e1 : a.tmps[1]?.getD undef = .pointer (some ⟨g, 0, none⟩) := ho 1 (by kernel_rfl)
          exact gs_same (v := .pointer (some ⟨g, 10, none⟩)) (by go_simp) rfl
        · intro a W hE hd ho
          have e28 : a.tmps[28]?.getD undef = .pointer (some ⟨g, 10, none⟩) := hd 8 28 (by kernel_rfl) (by kernel_rfl)
          have c10 := ((T2.out.below hE).cell 10).trans q10
          exact gs_same (v := .int .i64 T.side) (by go_simp) rfl
        · intro a W hE hd ho
          have e29 : a.tmps[29]?.getD undef = .int .i64 T.side := hd 9 29 (by kernel_rfl) (by kernel_rfl)
          refine gs_call (f := 103) (args := #[.int .i64 T.side, .int .i64 0, .int .i64 1000]) (by go_simp) ?_
          refine (refCheckRange_any T.side 0 1000 W).mono ?_
          rintro e w9 ⟨rfl, rfl⟩
          exact ⟨_, rfl, Ext.refl _, _, rfl, HN4.out.symm⟩
        · intro a W hE hd ho
          have e1 : a.tmps[1]?.getD undef = .pointer (some ⟨g, 0, none⟩) := ho 1 (by kernel_rfl)
          exact gs_same (v := .pointer (some ⟨g, 11, none⟩)) (by go_simp) rfl
        · intro a W hE hd ho
          have e31 : a.tmps[31]?.getD undef = .pointer (some ⟨g, 11, none⟩) := hd 11 31 (by kernel_rfl) (by kernel_rfl)
          have c11 := ((T2.out.below hE).cell 11).trans q11
          exact gs_same (v := .slice qa qn qc) (by go_simp) rfl
        · intro a W hE hd ho
          have e32 : a.tmps[32]?.getD undef = .slice qa qn qc := hd 12 32 (by kernel_rfl) (by kernel_rfl)
          refine gs_call (f := 104) (args := #[.slice qa qn qc]) (by go_simp) ?_
          refine (refSquares_full qa qn qc T.squares W (HSq.out.keep (HB2.out.trans (hE.below.mono HB2.out.size))) (by omega)).mono ?_
          rintro e w9 ⟨rfl, hbl⟩
          exact ⟨_, rfl, hbl, _, rfl, HN5.out.symm⟩
        · intro a W hE hd ho
          have e1 : a.tmps[1]?.getD undef = .pointer (some ⟨g, 0, none⟩) := ho 1 (by kernel_rfl)
          exact gs_same (v := .pointer (some ⟨g, 12, none⟩)) (by go_simp) rfl
        · intro a W hE hd ho
          have e34 : a.tmps[34]?.getD undef = .pointer (some ⟨g, 12, none⟩) := hd 14 34 (by kernel_rfl) (by kernel_rfl)
          have c12 := ((T2.out.below hE).cell 12).trans q12
          exact gs_same (v := .slice ga gn gc) (by go_simp) rfl
        · intro a W hE hd ho
          have e35 : a.tmps[35]?.getD undef = .slice ga gn gc := hd 15 35 (by kernel_rfl) (by kernel_rfl)
          exact gs_same (v := .int .i64 gn) (by go_simp) rfl
        · intro a W hE hd ho
          have e36 : a.tmps[36]?.getD undef = .int .i64 gn := hd 16 36 (by kernel_rfl) (by kernel_rfl)
          exact gs_same (v := .bool (((gn : Int) == 0))) (by go_simp) rfl
        · intro a W hE hd ho
          have e37 : a.tmps[37]?.getD undef = .bool (((gn : Int) == 0)) := hd 17 37 (by kernel_rfl) (by kernel_rfl)
          refine gs_call (f := 105) (args := #[.bool (((gn : Int) == 0)), .int .i64 12]) (by go_simp) ?_
          refine (refWhen_let _ _ _).mono ?_
          rintro e w9 ⟨b, rfl, hb, rfl⟩
          exact ⟨_, rfl, Ext.refl _, b, rfl, hb.out⟩
        · intro a W hE hd ho
          have e1 : a.tmps[1]?.getD undef = .pointer (some ⟨g, 0, none⟩) := ho 1 (by kernel_rfl)
          exact gs_same (v := .pointer (some ⟨g, 12, none⟩)) (by go_simp) rfl
        · intro a W hE hd ho
          have e39 : a.tmps[39]?.getD undef = .pointer (some ⟨g, 12, none⟩) := hd 19 39 (by kernel_rfl) (by kernel_rfl)
          have c12 := ((T2.out.below hE).cell 12).trans q12
          exact gs_same (v := .slice ga gn gc) (by go_simp) rfl
        · intro a W hE hd ho
          have e40 : a.tmps[40]?.getD undef = .slice ga gn gc := hd 20 40 (by kernel_rfl) (by kernel_rfl)
          exact gs_same (v := .int .i64 gn) (by go_simp) rfl
        · intro a W hE hd ho
          have e41 : a.tmps[41]?.getD undef = .int .i64 gn := hd 21 41 (by kernel_rfl) (by kernel_rfl)
          exact gs_same (v := .bool (decide ((6 : Int) < gn))) (by go_simp) rfl
        · intro a W hE hd ho
          have e42 : a.tmps[42]?.getD undef = .bool (decide ((6 : Int) < gn)) := hd 22 42 (by kernel_rfl) (by kernel_rfl)
          refine gs_call (f := 105) (args := #[.bool (decide ((6 : Int) < gn)), .int .i64 5]) (by go_simp) ?_
          refine (refWhen_let _ _ _).mono ?_
          rintro e w9 ⟨b, rfl, hb, rfl⟩
          exact ⟨_, rfl, Ext.refl _, b, rfl, hb.out⟩
      · intro vs w5 hE hR
        have y0 : vs 0 = .pointer (some ⟨g, 0, none⟩) := hR 0 (by omega)
        have y1 : vs 1 = .string nm := hR 1 (by omega)
        obtain ⟨z1, y2, hz1⟩ : ∃ b : Int, vs 2 = .int .i64 b ∧ b = (N1) := hR 2 (by omega)
        have y3 : vs 3 = .pointer (some ⟨g, 1, none⟩) := hR 3 (by omega)
        have y4 : vs 4 = .slice sa sn sc := hR 4 (by omega)
        obtain ⟨z2, y5, hz2⟩ : ∃ b : Int, vs 5 = .int .i64 b ∧ b = (N2) := hR 5 (by omega)
        have y6 : vs 6 = .slice (some ⟨gd, 0, none⟩) 8 cd := hR 6 (by omega)
        obtain ⟨z3, y7, hz3⟩ : ∃ b : Int, vs 7 = .int .i64 b ∧ b = (N3) := hR 7 (by omega)
        have y8 : vs 8 = .pointer (some ⟨g, 10, none⟩) := hR 8 (by omega)
        have y9 : vs 9 = .int .i64 T.side := hR 9 (by omega)
        obtain ⟨z4, y10, hz4⟩ : ∃ b : Int, vs 10 = .int .i64 b ∧ b = (N4) := hR 10 (by omega)
        have y11 : vs 11 = .pointer (some ⟨g, 11, none⟩) := hR 11 (by omega)
        have y12 : vs 12 = .slice qa qn qc := hR 12 (by omega)
        obtain ⟨z5, y13, hz5⟩ : ∃ b : Int, vs 13 = .int .i64 b ∧ b = (N5) := hR 13 (by omega)
        have y14 : vs 14 = .pointer (some ⟨g, 12, none⟩) := hR 14 (by omega)
        have y15 : vs 15 = .slice ga gn gc := hR 15 (by omega)
        have y16 : vs 16 = .int .i64 gn := hR 16 (by omega)
        have y17 : vs 17 = .bool (((gn : Int) == 0)) := hR 17 (by omega)
        obtain ⟨z6, y18, hz6⟩ : ∃ b : Int, vs 18 = .int .i64 b ∧ b = (if ((gn : Int) == 0) = true then 12 else 0) := hR 18 (by omega)
        have y19 : vs 19 = .pointer (some ⟨g, 12, none⟩) := hR 19 (by omega)
        have y20 : vs 20 = .slice ga gn gc := hR 20 (by omega)
        have y21 : vs 21 = .int .i64 gn := hR 21 (by omega)
        have y22 : vs 22 = .bool (decide ((6 : Int) < gn)) := hR 22 (by omega)
        obtain ⟨z7, y23, hz7⟩ : ∃ b : Int, vs 23 = .int .i64 b ∧ b = (if decide ((6 : Int) < (gn : Int)) = true then 5 else 0) := hR 23 (by omega)
        simp only [List.range, List.range.loop, List.foldl_cons, List.foldl_nil, y0, y1, y2, y3, y4, y5, y6, y7, y8, y9, y10, y11, y12, y13, y14, y15, y16, y17, y18, y19, y20, y21, y22, y23, List.drop_succ_cons, List.drop_zero]
        simp only [dstAt, List.getElem?_toArray, List.getElem?_cons_zero, List.getElem?_cons_succ, Option.bind_some, Act.put, List.setIfInBounds_toArray, List.set_cons_zero, List.set_cons_succ]
        clear y0 y1 y2 y3 y4 y5 y6 y7 y8 y9 y10 y11 y12 y13 y14 y15 y16 y17 y18 y19 y20 y21 y22 y23 hR
        have T5 := Lib.hid (T2.out.below hE)
        have HB5 := Lib.hid (HB2.out.trans (hE.below.mono HB2.out.size))
        have Hz1 := Lib.hid hz1
        have Hz2 := Lib.hid hz2
        have Hz3 := Lib.hid hz3
        have Hz4 := Lib.hid hz4
        have Hz5 := Lib.hid hz5
        have Hz6 := Lib.hid hz6
        have Hz7 := Lib.hid hz7
        clear hz1 hz2 hz3 hz4 hz5 hz6 hz7 hE T2 HB2 DI
        go_wp2_with fail
        refine (refFirst7 _ _ z1 z2 z3 z4 z5 z6 z7 _ (by go_simp) (by go_simp) (by go_simp) (by go_simp) (by go_simp) (by go_simp) (by go_simp)).mono ?_
        obtain ⟨F, hF⟩ : ∃ F, F = firstE [z1, z2, z3, z4, z5, z6, z7] := ⟨_, rfl⟩
        rw [← hF]
        have HFZ : Hid (F = Z) := by
          show _ = _
          rw [hF, HZ.out, Hz1.out, Hz2.out, Hz3.out, Hz4.out, Hz5.out]
          have h := cnt_two (R := 0) Hz6.out Hz7.out (by omega)
          simp only [firstE, if_true, ite_self] at h
          simp only [firstE]
          rw [h]
        clear hF
        rintro e w6 ⟨rfl, rfl⟩
        obtain ⟨w7, hw7⟩ : ∃ W, W = w5.alloc (.cells #[.int .i64 z1, .int .i64 z2, .int .i64 z3, .int .i64 z4, .int .i64 z5, .int .i64 z6, .int .i64 z7] 3) := ⟨_, rfl⟩
        rw [← hw7]
        have hb7 : Below w5.heap.size w5 w7 := by rw [hw7]; exact (Below.refl _ _).alloc (Nat.le_refl _) _
        have T7 := Lib.hid (T5.out.below hb7)
        have HB7 := Lib.hid (HB5.out.trans (hb7.mono HB5.out.size))
        clear hw7 hb7 T5 HB5
        by_cases hf0 : F = 0
        rotate_left
        · have h1 : (F != 0) = true := by simp [hf0]
          go_wp2
          go_ret
          have hr : V = F := by rw [HFZ.out]; exact HV.out.1 (by rw [← HFZ.out]; exact hf0)
          first | exact ⟨ret_int hr.symm, HB7.out⟩ | exact ⟨ret_int rfl, HB7.out⟩
        have h1 : (F != 0) = false := by simp [hf0]
        have hzz : Z = 0 := by rw [← HFZ.out]; exact hf0
        have HV2 := Lib.hid (HV.out.2 hzz)
        have hc6 := cntI_zero (firstE_zero (HZ.out.symm.trans hzz) (cntI gn 6) (by simp))
        have k6 : 0 < gn := hc6.1
        have k7 : gn ≤ 6 := by omega
        clear hf0 hzz hc6 Hz1 Hz2 Hz3 Hz4 Hz5 Hz6 Hz7 HFZ HN1 HN2 HN3 HN4 HN5 HZ HV
        obtain ⟨gb, go, rfl, hl⟩ := HS.out.2 k6
        have HL := Lib.hid hl
        have HV2q : Hid (V = setsFrom T.sets qn 0) := by show _ = _; rw [HV2.out, HSq.out.1]
        clear hl HV2
        go_wp2
        go_loopw [6, 7] (fun i _ wr => ∃ k : Nat, k ≤ gn ∧ i = .int .i64 k ∧ Hid (∀ j, j < k → ((T.sets.getD j (0, [])).2).length = qn) ∧ Hid (V = setsFrom T.sets qn k) ∧ Hid (Below w7.heap.size w7 wr)) (fun i _ _ => gn - (intOf i).toNat)
        case atStart => exact ⟨0, Nat.zero_le _, rfl, (fun j hj => by omega), HV2q.out, Below.refl _ _⟩
        case round =>
          obtain ⟨k, hk, rfl, hok, hvk, hbw⟩ := hrel
          have T8 := Lib.hid (T7.out.below hbw.out)
          have HB8 := Lib.hid (HB7.out.trans (hbw.out.mono HB7.out.size))
          have t12 := (T8.out.cell 12).trans q12
          by_cases hlt : k < gn
          · have HLK := Lib.hid (HL.out.keep HB8.out)
            obtain ⟨ea, en, ec, a1, a2, a3⟩ := HLK.out.2 k hlt
            obtain ⟨fa, fn, fc, b1, b2, b3⟩ := HLK.out.2 (k - 1) (by omega)
            have hen : en ≤ 140737488351232 := by have h1 := HT.out.each k hlt; rw [a3.1] at h1; omega
            have hfn : 0 < k → fn = qn := fun h => by have h1 := hok.out (k - 1) (by omega); rw [b3.1] at h1; exact h1
            have C := Lib.hid (refSetting_full wr gb go gn gc k (k - 1) q12 qa qn qc q11 hlt rfl (by omega) (Bell.ePow T.sets k) (Bell.ePow T.sets (k - 1)) ea fa en ec fn fc _ _ ⟨a1, a2⟩ ⟨b1, b2⟩ a3 b3 hen hfn)
            have HEN := Lib.hid a3.1
            have HST := Lib.hid (setsFrom_step (m := qn) (s := T.sets) (k := k) (by rw [HL.out.1]; exact hlt))
            clear a1 a2 a3 b1 b2 b3 hen hfn
            go_wp2_with (refine wpList_load_row rfl 26 _ rfl g rfl 26 cs (0, 0) _ T8.out Tryz.underlying26 rfl IT.out ?_)
            refine C.out.mono ?_
            rintro e w9 ⟨E2, rfl, hE2, hb9⟩
            have HB9 := Lib.hid (HB8.out.trans (hb9.mono HB8.out.size))
            have HW9 := Lib.hid (hbw.out.trans (hb9.mono hbw.out.size))
            clear hb9 C
            have hE3 : E2 = Bell.setE qn (prevP T.sets k) (prevE T.sets qn k) (Bell.ePow T.sets k, (T.sets.getD k (0, [])).2) := by
              refine setK_is hE2.out HEN.out (fun h => ?_) (fun h => ?_)
              · subst h
                exact ⟨rfl, fun i => by unfold prevE; rw [if_pos rfl]; simp [List.getD_eq_getElem?_getD, List.getElem?_replicate]; split <;> rfl⟩
              · exact ⟨by unfold prevP; rw [if_neg (by omega)], by unfold prevE; rw [if_neg (by omega)]⟩
            have HE3 := Lib.hid hE3
            clear hE3
            by_cases he2 : E2 = 0
            · have h2 : (E2 != 0) = false := by simp [he2]
              have HVN : Hid (V = setsFrom T.sets qn (k + 1)) := by show _ = _; rw [hvk.out, HST.out, ← HE3.out, Bell.thenE, if_pos he2]
              have HLQ : Hid (((T.sets.getD k (0, [])).2).length = qn) := (Bell.setE_zero (HE3.out.symm.trans he2)).2.2.1
              clear he2 hE2
              go_wp2
              go_roundw
              case rel =>
                refine ⟨k + 1, by omega, by go_num, fun j hj => ?_, HVN.out, HW9.out⟩
                by_cases hjk : j < k
                · exact hok.out j hjk
                · obtain rfl : j = k := by omega
                  exact HLQ.out
              case measure => simp [intOf]; omega
            · have h2 : (E2 != 0) = true := by simp [he2]
              go_wp2
              go_ret
              have hr : V = E2 := by rw [hvk.out, HST.out, ← HE3.out, Bell.thenE, if_neg he2]
              first | exact ⟨ret_int hr.symm, HB9.out⟩ | exact ⟨ret_int rfl, HB9.out⟩
          · obtain rfl : k = gn := by omega
            go_wp2
            go_ret
            have hr : V = 0 := by rw [hvk.out, ← HL.out.1]; exact setsFrom_end _ _
            first | exact ⟨ret_int hr.symm, HB8.out⟩ | exact ⟨ret_int rfl, HB8.out⟩
end Go.Proofs.YtmafmebcgmegeaaGreatDoor

namespace Go.Proofs.YtmafmebcgmegeaaGreatDoor
open Go.RowKit Go.Sort
theorem placeE_good {r : Bell.Pl} (h : placeE r.x r.y r.z = 0) : GoodPl r := by
  obtain ⟨a1, a2, a3, a4⟩ := placeE_zero h
  exact ⟨a1, a2, a3, a4⟩
end Go.Proofs.YtmafmebcgmegeaaGreatDoor

namespace Go.Proofs.YtmafmebcgmegeaaGreatDoor
open Go.RowKit Go.Sort
def GR.row (n : Nat) (T : TypeId) (cs : Array Value) : GR := ⟨fun v W => ∃ g, v = .slice (some ⟨g, 0, none⟩) n n ∧ Blk W g T cs, fun ⟨g, e, h⟩ hE => ⟨g, e, h.below hE⟩⟩
end Go.Proofs.YtmafmebcgmegeaaGreatDoor

namespace Go.Proofs.YtmafmebcgmegeaaGreatDoor
open Go.RowKit Go.Sort
/-- Any type that a law hands on: its cells, and sizes that fit. -/
structure TyAny (w : World) (cs : Array Value) (nm : ByteArray) (sh : List Int) (T : Bell.Ty) (sa : Option Addr) (sn sc : Nat) (qa : Option Addr) (qn qc : Nat) (ga : Option Addr) (gn gc : Nat) : Prop where
  rty : RTy w cs nm sh T sa sn sc qa qn qc ga gn gc
  d8 : T.direct.length = 8
  nsz : nm.size ≤ 140737488351232
  ssz : sn ≤ 140737488351232
  qsz : qn ≤ 140737488351232
  cap : qn ≤ qc ∧ qc ≤ 9223372036854775807
  esz : ∀ k, k < gn → ((T.sets.getD k (0, [])).2).length ≤ 140737488351232
theorem TyAny.keep {w w' : World} {cs : Array Value} {nm : ByteArray} {sh : List Int} {T : Bell.Ty} {sa : Option Addr} {sn sc : Nat} {qa : Option Addr} {qn qc : Nat} {ga : Option Addr} {gn gc : Nat} (h : TyAny w cs nm sh T sa sn sc qa qn qc ga gn gc) (hb : Below w.heap.size w w') : TyAny w' cs nm sh T sa sn sc qa qn qc ga gn gc :=
  ⟨h.rty.keep hb, h.d8, h.nsz, h.ssz, h.qsz, h.cap, h.esz⟩
theorem TyAny.info {w : World} {cs : Array Value} {nm : ByteArray} {sh : List Int} {T : Bell.Ty} {sa : Option Addr} {sn sc : Nat} {qa : Option Addr} {qn qc : Nat} {ga : Option Addr} {gn gc : Nat} (h : TyAny w cs nm sh T sa sn sc qa qn qc ga gn gc) : (Tryz.prog.info? 42).map (·.size) = some cs.size := by rw [h.rty.cells]; kernel_rfl
theorem TyAny.check {w : World} {cs : Array Value} {nm : ByteArray} {sh : List Int} {T : Bell.Ty} {sa : Option Addr} {sn sc : Nat} {qa : Option Addr} {qn qc : Nat} {ga : Option Addr} {gn gc : Nat} (h : TyAny w cs nm sh T sa sn sc qa qn qc ga gn gc) :
    Calls Tryz.prog 32 #[.agg cs] w fun e w' => e = .returned (.int .i64 (Bell.tyE (nameE nm) sh T)) ∧ Below w.heap.size w w' :=
  CheckType_any w h.rty h.d8 h.nsz h.ssz h.qsz h.cap h.esz
theorem nameE_zero {s : ByteArray} (h : nameE s = 0) : nameB s = true := by
  unfold nameE at h
  split at h
  · assumption
  · omega
theorem tyE_split {e : Int} {sh : List Int} {T : Bell.Ty} (h : Bell.tyE e sh T = 0) : e = 0 ∧ Bell.tyE 0 sh T = 0 := by
  have h1 := h
  unfold Bell.tyE at h1
  rw [Bell.thenE_zero, Bell.firstE_zero] at h1
  obtain rfl := h1.1 e (by simp)
  exact ⟨rfl, h⟩
theorem TyAny.ok {w : World} {cs : Array Value} {nm : ByteArray} {sh : List Int} {T : Bell.Ty} {sa : Option Addr} {sn sc : Nat} {qa : Option Addr} {qn qc : Nat} {ga : Option Addr} {gn gc : Nat} (h : TyAny w cs nm sh T sa sn sc qa qn qc ga gn gc) (h0 : Bell.tyE (nameE nm) sh T = 0) : ∃ qb qo gb go, qa = some ⟨qb, qo, none⟩ ∧ ga = some ⟨gb, go, none⟩ ∧ TyOk w cs nm sh T sa sn sc qb qo qn qc gb go gn gc := by
  obtain ⟨e1, e2⟩ := tyE_split h0
  have hG : GoodT sh T := ⟨h.d8, e2⟩
  obtain ⟨⟨c1, c2⟩, c3, c4⟩ := hG.cnt
  obtain ⟨qb, qo, rfl, hq⟩ := h.rty.squares.2 (by rw [← h.rty.squares.1]; exact c3)
  obtain ⟨gb, go, rfl, hs⟩ := h.rty.sets.2 (by rw [← h.rty.sets.1]; exact c1)
  exact ⟨qb, qo, gb, go, rfl, rfl, ⟨h.rty.cells, h.rty.shares, h.rty.squares, hs⟩, hG, nameE_zero e1, h.nsz, h.cap⟩
end Go.Proofs.YtmafmebcgmegeaaGreatDoor

namespace Go.Proofs.YtmafmebcgmegeaaGreatDoor
open Go.RowKit Go.Sort
def ticksE (f t : Int) : Int := if f < 0 then 14 else if t < f then 14 else if 100000000 < t then 14 else 0
theorem ticksE_zero {f t : Int} (h : ticksE f t = 0) : 0 ≤ f ∧ f ≤ t ∧ t ≤ 100000000 := by
  unfold ticksE at h
  split at h
  · omega
  split at h
  · omega
  split at h <;> omega
theorem checkTicks_any (f t : Int) (w : World) :
    Calls Tryz.prog 134 #[.agg #[.int .i64 f, .int .i64 t]] w fun e w' => e = .returned (.int .i64 (ticksE f t)) ∧ Below w.heap.size w w' := by
  by_cases h1 : f < 0
  · have hr : ticksE f t = 14 := by unfold ticksE; rw [if_pos h1]
    rw [hr]
    have q1 : decide (f < 0) = true := decide_eq_true h1
    clear h1 hr
    go_enter Tryz.func134, Tryz.ntmps134
    go_wp2
    go_ret
    exact ⟨rfl, (Below.refl _ _).alloc (Nat.le_refl _) _⟩
  by_cases h2 : t < f
  · have hr : ticksE f t = 14 := by unfold ticksE; rw [if_neg h1, if_pos h2]
    rw [hr]
    have q1 : decide (f < 0) = false := decide_eq_false h1
    have q2 : decide (t < f) = true := decide_eq_true h2
    clear h1 h2 hr
    go_enter Tryz.func134, Tryz.ntmps134
    go_wp2
    go_ret
    exact ⟨rfl, (Below.refl _ _).alloc (Nat.le_refl _) _⟩
  by_cases h3 : 100000000 < t
  · have hr : ticksE f t = 14 := by unfold ticksE; rw [if_neg h1, if_neg h2, if_pos h3]
    rw [hr]
    have q1 : decide (f < 0) = false := decide_eq_false h1
    have q2 : decide (t < f) = false := decide_eq_false h2
    have q3 : decide (100000000 < t) = true := decide_eq_true h3
    clear h1 h2 h3 hr
    go_enter Tryz.func134, Tryz.ntmps134
    go_wp2
    go_ret
    exact ⟨rfl, (Below.refl _ _).alloc (Nat.le_refl _) _⟩
  · have hr : ticksE f t = 0 := by unfold ticksE; rw [if_neg h1, if_neg h2, if_neg h3]
    rw [hr]
    exact checkTicks_ok f t w (by omega) (by omega) (by omega)
set_option maxHeartbeats 4000000 in
set_option maxRecDepth 100000 in
theorem Exposure_err {cs : Array Value} {nm : ByteArray} {sh : List Int} {T : Bell.Ty} {sa : Option Addr} {sn sc : Nat} {qa : Option Addr} {qn qc : Nat} {ga : Option Addr} {gn gc : Nat} (B : Option Addr) (N c : Nat) (l : List Bell.Fx) (f t : Int) (r : Bell.Pl) (w : World) (hT : TyAny w cs nm sh T sa sn sc qa qn qc ga gn gc) (hl : TrAt w B N l) (hn : N ≤ 140737488351232) (hz : firstE [Bell.tyE (nameE nm) sh T, trackE l, ticksE f t, placeE r.x r.y r.z] ≠ 0) :
    Calls Tryz.prog 55 #[.agg cs, .slice B N c, .agg #[.int .i64 f, .int .i64 t], .agg (plV r)] w fun e w' => e = .returned (.tuple #[.int .i64 0, .int .i64 (firstE [Bell.tyE (nameE nm) sh T, trackE l, ticksE f t, placeE r.x r.y r.z])]) ∧ Below w.heap.size w w' := by
  have HO := Lib.hid hT
  have HC := Lib.hid (fun W (hb : Below w.heap.size w W) => CheckTrack_any B N c l W (hl.keep hb) hn)
  have HTk := Lib.hid (fun W => checkTicks_any f t W)
  have HPC := Lib.hid (fun W => checkPlace_any r.x r.y r.z W)
  obtain ⟨N0, hN0⟩ : ∃ x, x = Bell.tyE (nameE nm) sh T := ⟨_, rfl⟩
  obtain ⟨N1, hN1⟩ : ∃ x, x = trackE l := ⟨_, rfl⟩
  obtain ⟨N2, hN2⟩ : ∃ x, x = ticksE f t := ⟨_, rfl⟩
  obtain ⟨N3, hN3⟩ : ∃ x, x = placeE r.x r.y r.z := ⟨_, rfl⟩
  rw [← hN1] at HC
  rw [← hN2] at HTk
  rw [← hN3] at HPC
  rw [← hN0, ← hN1, ← hN2, ← hN3] at hz ⊢
  obtain ⟨Z, hZ⟩ : ∃ x, x = firstE [N0, N1, N2, N3] := ⟨_, rfl⟩
  rw [← hZ] at hz ⊢
  have HP0 := Lib.hid hN0; have HZ := Lib.hid hZ
  clear hN0 hN1 hN2 hN3 hZ hn
  obtain ⟨rv, hrv⟩ : ∃ v, v = plV r := ⟨_, rfl⟩
  have ir : Hid ((Tryz.prog.info? 28).map (·.size) = some rv.size) := by show _ = _; rw [hrv]; kernel_rfl
  rw [← hrv] at ⊢
  have hrv2 : Hid (#[.int .i64 r.x, .int .i64 r.y, .int .i64 r.z] = rv) := by show _ = _; rw [hrv]; rfl
  rw [hrv2.out] at HPC
  clear hT hl hrv hrv2
  go_enter Tryz.func55, Tryz.ntmps55
  go_upto_region 1 with fail
  obtain ⟨w1, hw1⟩ : ∃ W, W = ((w.alloc (.cells cs 42)).alloc (.cells #[.int .i64 f, .int .i64 t] 93)).alloc (.cells rv 28) := ⟨_, rfl⟩
  rw [← hw1]
  have T1 : Hid (Blk w1 w.heap.size 42 cs) := by show Blk _ _ _ _; rw [hw1]; exact ((Blk.new _ _ _).alloc _).alloc _
  have S1 : Hid (Blk w1 (w.heap.size + 1) 93 #[.int .i64 f, .int .i64 t]) := by show Blk _ _ _ _; rw [hw1]; exact (Blk.at_size _ _ (by simp)).alloc _
  have R1 : Hid (Blk w1 (w.heap.size + 1 + 1) 28 rv) := by show Blk _ _ _ _; rw [hw1]; exact Blk.at_size _ _ (by simp)
  have HB1 : Hid (Below w.heap.size w w1) := by show Below _ _ _; rw [hw1]; exact (((Below.refl _ _).alloc (Nat.le_refl _) _).alloc (by simp) _).alloc (by simp; omega) _
  obtain ⟨g, hg⟩ : ∃ g, g = w.heap.size := ⟨_, rfl⟩
  rw [← hg] at T1 S1 R1 ⊢
  clear hw1 hg
  have bw : ∀ d os, Below w1.heap.size w1 (grow (redrawn w1 d) os) := fun d os => below_regrown w1 d os
  have kp : ∀ d os, Below w.heap.size w (grow (redrawn w1 d) os) := fun d os => HB1.out.trans ((bw d os).mono HB1.out.size)
  have lT := fun d os => (T1.out.below (bw d os)).lv Tryz.prog (T := 42) Tryz.underlying42 rfl HO.out.info
  have lR := fun d os => (R1.out.below (bw d os)).lv Tryz.prog (T := 28) Tryz.underlying28 rfl ir.out
  have s0 := fun d os => cell_regrown (S1.out.cell 0) d os
  have s1 := fun d os => cell_regrown (S1.out.cell 1) d os
  have c1 := fun d os => Calls.regrown_of ((HO.out.keep (kp d os)).check)
  have c2 := fun d os => Calls.regrown_of (HC.out (grow (redrawn w1 d) os) (kp d os))
  have c3 := fun d os => Calls.regrown_of (HTk.out (grow (redrawn w1 d) os))
  have c4 := fun d os => Calls.regrown_of (HPC.out (grow (redrawn w1 d) os))
  simp only [← HP0.out] at c1
  refine wp_region_below_tail 8 (by kernel_rfl) (by kernel_rfl) ?_
  simp only [List.take_succ_cons, List.take_zero, List.drop_succ_cons, List.drop_zero]
  refine quiet_load _ _ rfl (by rfl) _ _ rfl lT ?_
  quiet_step (exact c1 _ _)
  quiet_step (fail)
  quiet_step (exact c2 _ _)
  quiet_step (fail)
  quiet_step (exact c3 _ _)
  refine quiet_load _ _ rfl (by rfl) _ _ rfl lR ?_
  quiet_step (exact c4 _ _)
  refine wpQuiet_nil ?_
  intro w2 hw'
  obtain ⟨⟨dq, osq⟩, hw''⟩ := hw'
  have hb2 := bw dq osq
  rw [← hw''] at hb2
  have T2 := Lib.hid (T1.out.below hb2)
  have S2 := Lib.hid (S1.out.below hb2)
  have R2 := Lib.hid (R1.out.below hb2)
  have HB2 := Lib.hid (HB1.out.trans (hb2.mono HB1.out.size))
  clear hw'' hb2 lT lR s0 s1 c1 c2 c3 c4 bw kp T1 S1 R1 HB1 HTk HPC HC
  go_wp2_with fail
  refine (first4 _ _ N0 N1 N2 N3 _ (by go_simp) (by go_simp) (by go_simp) (by go_simp)).mono ?_
  rw [← HZ.out]
  rintro e w3 ⟨rfl, rfl⟩
  obtain ⟨w4, hw4⟩ : ∃ W, W = w2.alloc (.cells #[.int .i64 N0, .int .i64 N1, .int .i64 N2, .int .i64 N3] 37) := ⟨_, rfl⟩
  rw [← hw4]
  have hb4 : Below w2.heap.size w2 w4 := by rw [hw4]; exact (Below.refl _ _).alloc (Nat.le_refl _) _
  have T4 := Lib.hid (T2.out.below hb4)
  have S4 := Lib.hid (S2.out.below hb4)
  have R4 := Lib.hid (R2.out.below hb4)
  have HB4 := Lib.hid (HB2.out.trans (hb4.mono HB2.out.size))
  clear hw4 hb4 T2 S2 R2 HB2
  go_wp2
  go_ret2
  exact ⟨rfl, HB4.out⟩
theorem Exposure_any {cs : Array Value} {nm : ByteArray} {sh : List Int} {T : Bell.Ty} {sa : Option Addr} {sn sc : Nat} {qa : Option Addr} {qn qc : Nat} {ga : Option Addr} {gn gc : Nat} (B : Option Addr) (N c : Nat) (l : List Bell.Fx) (f t : Int) (r : Bell.Pl) (w : World) (hT : TyAny w cs nm sh T sa sn sc qa qn qc ga gn gc) (hl : TrAt w B N l) (hn : N ≤ 140737488351232) :
    Calls Tryz.prog 55 #[.agg cs, .slice B N c, .agg #[.int .i64 f, .int .i64 t], .agg (plV r)] w fun e w' => e = .returned (.tuple #[.int .i64 (if firstE [Bell.tyE (nameE nm) sh T, trackE l, ticksE f t, placeE r.x r.y r.z] = 0 then Bell.expoOf T l r f t else 0), .int .i64 (firstE [Bell.tyE (nameE nm) sh T, trackE l, ticksE f t, placeE r.x r.y r.z])]) ∧ Below w.heap.size w w' := by
  by_cases hz : firstE [Bell.tyE (nameE nm) sh T, trackE l, ticksE f t, placeE r.x r.y r.z] = 0
  · have h1 := firstE_zero hz _ (List.mem_cons_self ..)
    have h2 := firstE_zero hz (trackE l) (by simp)
    have h3 := ticksE_zero (firstE_zero hz (ticksE f t) (by simp))
    have h4 := placeE_good (firstE_zero hz (placeE r.x r.y r.z) (by simp))
    have hg := goodTr_of h2
    have hn1 := hl.1
    have hlo := hg.lo
    obtain ⟨b, off, rfl, hfx⟩ := hl.2 (by omega)
    obtain ⟨qb, qo, gb, go, rfl, rfl, hk⟩ := hT.ok h1
    rw [if_pos hz, hz]
    exact Exposure_ok b off N c l f t r w hk hfx hg h4 h3.1 h3.2.1 h3.2.2
  · rw [if_neg hz]
    exact Exposure_err B N c l f t r w hT hl hn hz
end Go.Proofs.YtmafmebcgmegeaaGreatDoor
