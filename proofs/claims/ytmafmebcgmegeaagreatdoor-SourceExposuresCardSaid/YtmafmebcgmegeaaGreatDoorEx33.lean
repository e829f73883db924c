/- Texts Xv Xy of the proof. -/
import Derived.Test.YtmafmebcgmegeaaGreatDoorEx32
import Derived.Test.YtmafmebcgmegeaaGreatDoorEx16
namespace Go.Proofs.YtmafmebcgmegeaaGreatDoor
open Go.RowKit Go.Sort
/-- What is left of the settings' fault from one on. -/
def setsFrom (s : Bell.Sets) (m k : Nat) : Int := Bell.setsE m (prevP s k) (prevE s m k) (s.drop k)
theorem setsFrom_end (s : Bell.Sets) (m : Nat) : setsFrom s m s.length = 0 := by unfold setsFrom; rw [List.drop_length]; rfl
theorem setsFrom_step {s : Bell.Sets} {m k : Nat} (hk : k < s.length) : setsFrom s m k = Bell.thenE (Bell.setE m (prevP s k) (prevE s m k) (Bell.ePow s k, (s.getD k (0, [])).2)) (setsFrom s m (k + 1)) := by
  unfold setsFrom
  rw [List.drop_eq_getElem_cons hk]
  have e : s[k] = s.getD k (0, []) := by rw [List.getD_eq_getElem?_getD, List.getElem?_eq_getElem hk]; rfl
  rw [e]
  have e1 : prevP s (k + 1) = (s.getD k (0, [])).1 := by unfold prevP Bell.ePow; rw [if_neg (by omega), Nat.add_sub_cancel]
  have e2 : prevE s m (k + 1) = (s.getD k (0, [])).2 := by unfold prevE; rw [if_neg (by omega), Nat.add_sub_cancel]
  rw [e1, e2]
  rfl
theorem rty_dir {w : World} {cs : Array Value} {nm : ByteArray} {sh : List Int} {T : Bell.Ty} {sa : Option Addr} {sn sc : Nat} {qa : Option Addr} {qn qc : Nat} {ga : Option Addr} {gn gc : Nat} (h : RTy w cs nm sh T sa sn sc qa qn qc ga gn gc) {i : Nat} (hi : i < 8) : cs[2 + i]? = some (.int .i64 (T.direct.getD i 0)) := by
  rw [h.cells]
  match i, hi with
  | 0, _ => rfl
  | 1, _ => rfl
  | 2, _ => rfl
  | 3, _ => rfl
  | 4, _ => rfl
  | 5, _ => rfl
  | 6, _ => rfl
  | 7, _ => rfl
set_option maxHeartbeats 4000000 in
set_option maxRecDepth 100000 in
theorem CheckType_any {cs : Array Value} {nm : ByteArray} {sh : List Int} {T : Bell.Ty} {sa : Option Addr} {sn sc : Nat} {qa : Option Addr} {qn qc : Nat} {ga : Option Addr} {gn gc : Nat} (w : World) (hT : RTy w cs nm sh T sa sn sc qa qn qc ga gn gc) (hd8 : T.direct.length = 8) (hnm : nm.size ≤ 140737488351232) (hsn : sn ≤ 140737488351232) (hqn : qn ≤ 140737488351232) (hqc : qn ≤ qc ∧ qc ≤ 9223372036854775807) (hen : ∀ k, k < gn → ((T.sets.getD k (0, [])).2).length ≤ 140737488351232) :
    Calls Tryz.prog 32 #[.agg cs] w fun e w' => e = .returned (.int .i64 (Bell.tyE (nameE nm) sh T)) ∧ Below w.heap.size w w' := by
  have HT := Lib.hid hT
  have HD8 := Lib.hid hd8
  have HEN := Lib.hid hen
  obtain ⟨N1, hN1⟩ : ∃ x, x = nameE nm := ⟨_, rfl⟩
  obtain ⟨N2, hN2⟩ : ∃ x, x = Bell.shE sh := ⟨_, rfl⟩
  obtain ⟨N3, hN3⟩ : ∃ x, x = firstInE (fun x => withinE x 0 2000) T.direct := ⟨_, rfl⟩
  obtain ⟨N4, hN4⟩ : ∃ x, x = withinE T.side 0 1000 := ⟨_, rfl⟩
  obtain ⟨N5, hN5⟩ : ∃ x, x = Bell.sqE T.squares := ⟨_, rfl⟩
  obtain ⟨N6, hN6⟩ : ∃ x, x = cntI gn 6 := ⟨_, rfl⟩
  obtain ⟨Z, hZ⟩ : ∃ x, x = firstE [N1, N2, N3, N4, N5, N6] := ⟨_, rfl⟩
  obtain ⟨V, hV⟩ : ∃ x, x = Bell.tyE (nameE nm) sh T := ⟨_, rfl⟩
  have HV : Hid ((Z ≠ 0 → V = Z) ∧ (Z = 0 → V = setsFrom T.sets T.squares.length 0)) := by
    have e : Bell.firstE [nameE nm, Bell.shE sh, Bell.eachE (fun n => Bell.inR n 0 2000) T.direct, Bell.inR T.side 0 1000, Bell.sqE T.squares, Bell.cntE T.sets.length 6] = Z := by
      rw [bfirst, beach, cntE_cnt, hT.sets.1, hZ, hN1, hN2, hN3, hN4, hN5, hN6]
      rfl
    refine ⟨fun h => ?_, fun h => ?_⟩
    · rw [hV]; unfold Bell.tyE Bell.thenE; rw [e, if_neg h]
    · rw [hV]; unfold Bell.tyE Bell.thenE; rw [e, if_pos h]; rfl
  rw [← hV]
  have HZ := Lib.hid hZ
  have HN1 := Lib.hid hN1; have HN2 := Lib.hid hN2; have HN3 := Lib.hid hN3; have HN4 := Lib.hid hN4; have HN5 := Lib.hid hN5; have HN6 := Lib.hid hN6
  clear hT hd8 hen hN1 hN2 hN3 hN4 hN5 hN6 hZ hV
  go_enter Tryz.func32, Tryz.ntmps32
  go_upto_region 1 with fail
  obtain ⟨w1, hw1⟩ : ∃ W, W = w.alloc (.cells cs 42) := ⟨_, rfl⟩
  rw [← hw1]
  have T1 : Hid (Blk w1 w.heap.size 42 cs) := by show Blk _ _ _ _; rw [hw1]; exact Blk.new _ _ _
  have HB1 : Hid (Below w.heap.size w w1) := by show Below _ _ _; rw [hw1]; exact (Below.refl _ _).alloc (Nat.le_refl _) _
  obtain ⟨g, hg⟩ : ∃ g, g = w.heap.size := ⟨_, rfl⟩
  rw [← hg] at T1 ⊢
  have HGs := Lib.hid hg
  clear hw1 hg
  have bw : ∀ d os, Below w1.heap.size w1 (grow (redrawn w1 d) os) := fun d os => below_regrown w1 d os
  have kp : ∀ d os, Below w.heap.size w (grow (redrawn w1 d) os) := fun d os => HB1.out.trans ((bw d os).mono HB1.out.size)
  have t0 := fun d os => cell_regrown ((T1.out.cell 0).trans HT.out.c0) d os
  have t1 := fun d os => cell_regrown ((T1.out.cell 1).trans HT.out.c1) d os
  have t10 := fun d os => cell_regrown ((T1.out.cell 10).trans HT.out.c10) d os
  have t11 := fun d os => cell_regrown ((T1.out.cell 11).trans HT.out.c11) d os
  have t12 := fun d os => cell_regrown ((T1.out.cell 12).trans HT.out.c12) d os
  have hdirs : ∀ d os, IntsAt (grow (redrawn w1 d) os) (some ⟨g, 2, none⟩) 8 T.direct := fun d os => ⟨HD8.out, fun _ => ⟨g, 2, rfl, fun i hi => cell_regrown ((T1.out.cell (2 + i)).trans (rty_dir HT.out hi)) d os⟩⟩
  have c1 := fun d os => Calls.regrown_of (srcName_any nm (grow (redrawn w1 d) os) hnm)
  have c2 := fun d os => Calls.regrown_of (checkShares_any sa sn sc sh (grow (redrawn w1 d) os) (HT.out.shares.keep (kp d os)) hsn)
  have c3 := fun d os => Calls.regrown_of (Calls.grow_same (firstIn_any 111 0 2000 (some ⟨g, 2, none⟩) 8 8 T.direct (grow (redrawn w1 d) os) (by omega) enters_srcDirect srcDirect_st (hdirs d os)))
  have c4 := fun d os => Calls.regrown_of (Calls.grow_same (srcFactor_st T.side (grow (redrawn w1 d) os)))
  have c5 := fun d os => Calls.regrown_of (checkSquares_any qa qn qc T.squares (grow (redrawn w1 d) os) (HT.out.squares.keep (kp d os)) hqn hqc.1 hqc.2)
  have c6 := fun d os => Calls.regrown_of (Calls.grow_same (countSets_any ga gn gc 6 (grow (redrawn w1 d) os)))
  simp only [← HN1.out] at c1
  simp only [← HN2.out] at c2
  simp only [← HN3.out] at c3
  simp only [← HN4.out] at c4
  simp only [← HN5.out] at c5
  simp only [← HN6.out] at c6
  refine wp_region_below_tail 18 (by kernel_rfl) (by kernel_rfl) ?_
  simp only [List.take_succ_cons, List.take_zero, List.drop_succ_cons, List.drop_zero]
  iterate 2 (quiet_step (fail))
  quiet_step (exact c1 _ _)
  iterate 2 (quiet_step (fail))
  quiet_step (exact c2 _ _)
  iterate 2 (quiet_step (fail))
  quiet_step (exact c3 _ _)
  iterate 2 (quiet_step (fail))
  quiet_step (exact c4 _ _)
  iterate 2 (quiet_step (fail))
  quiet_step (exact c5 _ _)
  iterate 2 (quiet_step (fail))
  quiet_step (exact c6 _ _)
  refine wpQuiet_nil ?_
  intro w2 hw'
  obtain ⟨⟨dq, osq⟩, hw''⟩ := hw'
  have hb2 := bw dq osq
  rw [← hw''] at hb2
  have T2 := Lib.hid (T1.out.below hb2)
  have HB2 := Lib.hid (HB1.out.trans (hb2.mono HB1.out.size))
  clear hw'' hb2 t0 t1 t10 t11 t12 hdirs c1 c2 c3 c4 c5 c6 bw kp T1 HB1
  go_wp2_with fail
  refine (first_any w2.heap.size 6 6 [N1, N2, N3, N4, N5, N6] _ rfl (by omega) (fun i hi => by
    match i, hi with
    | 0, _ => go_simp
    | 1, _ => go_simp
    | 2, _ => go_simp
    | 3, _ => go_simp
    | 4, _ => go_simp
    | 5, _ => go_simp)).mono ?_
  rw [← HZ.out]
  rintro e w3 ⟨rfl, rfl⟩
  obtain ⟨w4, hw4⟩ : ∃ W, W = w2.alloc (.cells #[.int .i64 N1, .int .i64 N2, .int .i64 N3, .int .i64 N4, .int .i64 N5, .int .i64 N6] 37) := ⟨_, rfl⟩
  rw [← hw4]
  have hb4 : Below w2.heap.size w2 w4 := by rw [hw4]; exact (Below.refl _ _).alloc (Nat.le_refl _) _
  have T4 := Lib.hid (T2.out.below hb4)
  have HB4 := Lib.hid (HB2.out.trans (hb4.mono HB2.out.size))
  clear hw4 hb4 T2 HB2
  by_cases hz0 : Z = 0
  case neg =>
    have hr : V = Z := HV.out.1 hz0
    go_wp2
    go_ret
    first | exact ⟨ret_int hr.symm, HB4.out⟩ | exact ⟨ret_int rfl, HB4.out⟩
  have HV2 := Lib.hid (HV.out.2 hz0)
  have hall := fun x hx => firstE_zero (HZ.out.symm.trans hz0) x hx
  have hc6 := cntI_zero (HN6.out.symm.trans (hall N6 (by simp)))
  have hsq := hall N5 (by simp)
  have hqn1 : qn ≤ 8 ∧ 0 < qn := by
    have h := HN5.out.symm.trans hsq
    unfold Bell.sqE at h
    rw [Bell.thenE_zero, Bell.firstE_zero] at h
    have h2 := Bell.cntE_zero.1 (h.1 (Bell.cntE T.squares.length 8) (by simp))
    rw [HT.out.squares.1] at h2
    exact ⟨h2.2, h2.1⟩
  obtain ⟨hqn1, hqn2⟩ := hqn1
  have hgn1 : gn ≤ 6 := by omega
  have hgn2 : 0 < gn := hc6.1
  obtain ⟨gb, go, rfl, hsets⟩ := HT.out.sets.2 hgn2
  have HSE := Lib.hid hsets
  clear hall hc6 hsq HN1 HN2 HN3 HN4 HN5 HN6 HV hsets
  subst hz0
  clear HZ
  have t11 := (T4.out.cell 11).trans HT.out.c11
  obtain ⟨i0, hi, hz0, hz1, hz2⟩ := info_parts infoInt
  go_upto_region 5 with (at_make; refine wpList_make_full _ rfl _ _ 22 rfl w4.heap.size 3 i0 (.int .i64 0) 1 Tryz.underlying22 hi hz0 hz1 _ _ _ _ qn rfl rfl rfl rfl (by rw [hz2]; omega) (by unfold maxLen; omega) (Nat.le_refl _) ?_; intro w5 hown hg1)
  have hb5 : Below w4.heap.size w4 w5 := Below.grown (Below.refl _ _) hg1 (Nat.le_refl _) (fun k hk => by cases hk)
  rw [made_zero] at hown
  have hO : OwnI w5 w4.heap.size (.slice (some ⟨w4.heap.size, 0, none⟩) qn qn) (List.replicate qn (0 : Int)) := by unfold OwnI; rw [List.length_replicate]; exact hown
  have hI5 := hO.at_
  obtain ⟨w6, hw6⟩ : ∃ W, W = w5.alloc (.cells #[.int .i64 0, .slice (some ⟨w4.heap.size, 0, none⟩) qn qn] 172) := ⟨_, rfl⟩
  rw [← hw6]
  have hb6 : Below w5.heap.size w5 w6 := by rw [hw6]; exact (Below.refl _ _).alloc (Nat.le_refl _) _
  have S6 : Hid (Blk w6 w5.heap.size 172 #[.int .i64 (prevP T.sets 0), .slice (some ⟨w4.heap.size, 0, none⟩) qn qn]) := by show Blk _ _ _ _; rw [hw6]; exact Blk.new _ _ _
  have HI6 : Hid (IntsAt w6 (some ⟨w4.heap.size, 0, none⟩) qn (prevE T.sets T.squares.length 0)) := by
    show IntsAt _ _ _ _
    have : prevE T.sets T.squares.length 0 = List.replicate qn (0 : Int) := by unfold prevE; rw [if_pos rfl, HT.out.squares.1]
    rw [this]; exact hI5.keep hb6
  have hb46 := hb5.trans (hb6.mono hb5.size)
  have T6 := Lib.hid (T4.out.below hb46)
  have HB6 := Lib.hid (HB4.out.trans (hb46.mono HB4.out.size))
  have hgs : Hid (w.heap.size + 1 ≤ w5.heap.size ∧ g < w5.heap.size) := by
    have h1 := lt_of_block T4.out; have h2 := hb5.size; have h3 := HGs.out; show _ ∧ _; omega
  obtain ⟨g4, hg4⟩ : ∃ x, x = w4.heap.size := ⟨_, rfl⟩
  obtain ⟨gs, hgs2⟩ : ∃ x, x = w5.heap.size := ⟨_, rfl⟩
  rw [← hg4, ← hgs2] at S6 ⊢
  rw [← hg4] at HI6
  rw [← hgs2] at hgs
  clear hw6 hown hg1 hO hI5 hb5 hb6 hb46 T4 HB4 t11 hg4 hgs2 hi hz0 hz1 hz2
  have t12 := (T6.out.cell 12).trans HT.out.c12
  go_wp2
  clear t12
  go_loopw [6, 7, 39] (fun _ _ k wr => ∃ j : Nat, j ≤ gn ∧ k = .int .i64 j ∧ Hid (V = setsFrom T.sets T.squares.length j) ∧ ∃ fa fc, Hid (Blk wr gs 172 #[.int .i64 (prevP T.sets j), .slice fa qn fc]) ∧ Hid (IntsAt wr fa qn (prevE T.sets T.squares.length j)) ∧ Hid (Below w.heap.size w wr)) (fun _ _ k _ => gn - (intOf k).toNat)
  case atStart => exact ⟨0, Nat.zero_le _, rfl, HV2.out, _, _, S6, HI6, HB6⟩
  case round =>
    obtain ⟨j, hj, rfl, hvj, fa, fc, hs, hi, hb⟩ := hrel
    by_cases hlt : j < gn
    · obtain ⟨ea, en, ec, k1, k2, k3⟩ := HSE.out.2 j hlt
      have kc : ∀ {x : Addr} {v : Value}, w.cell? x = some v → wr.cell? x = some v := fun {x v} hc => by rw [hb.out.cell (World.block_lt_of_cell? _ _ hc)]; exact hc
      have h1 := kc k1
      have h2 := kc k2
      have h3 := k3.keep hb.out
      have K3 := Lib.hid k3
      clear k1 k2 k3 kc
      have hst := setsFrom_step (m := T.squares.length) (s := T.sets) (k := j) (by rw [HSE.out.1]; exact hlt)
      rw [HT.out.squares.1] at hst
      have hlz := HEN.out j hlt
      obtain ⟨p, hp⟩ : ∃ p, p = Bell.ePow T.sets j := ⟨_, rfl⟩
      obtain ⟨zs, hzs⟩ : ∃ z, z = (T.sets.getD j (0, [])).2 := ⟨_, rfl⟩
      obtain ⟨p0, hp0⟩ : ∃ p, p = prevP T.sets j := ⟨_, rfl⟩
      obtain ⟨ys, hys⟩ : ∃ z, z = prevE T.sets T.squares.length j := ⟨_, rfl⟩
      rw [HT.out.squares.1] at hys hvj
      rw [← hp, ← hzs, ← hp0, ← hys] at hst
      rw [← hzs] at hlz
      have hze : en ≤ 140737488351232 := by rw [← h3.1, ← hzs]; exact hlz
      have HVJ := Lib.hid (hvj.out.trans hst)
      rw [← hp] at h1
      rw [← hzs] at h3 K3
      rw [← hp0] at hs
      rw [HT.out.squares.1] at hi
      rw [← hys] at hi
      have H3 := Lib.hid h3
      have HP := Lib.hid hp
      have HZS := Lib.hid hzs
      have hs0 := hs.out.cell 0
      have hs1 := hs.out.cell 1
      simp only [List.getElem?_toArray, List.getElem?_cons_zero, List.getElem?_cons_succ] at hs0 hs1
      clear hp hzs hp0 hys h3 hst hlz hvj
      go_upto_region 8 with fail
      obtain ⟨w7, hw7⟩ : ∃ W, W = wr.alloc (.cells #[.int .i64 p, .slice ea en ec] 172) := ⟨_, rfl⟩
      rw [← hw7]
      have hb7 : Below wr.heap.size wr w7 := by rw [hw7]; exact (Below.refl _ _).alloc (Nat.le_refl _) _
      have P7 : Hid (Blk w7 wr.heap.size 172 #[.int .i64 p, .slice ea en ec]) := by show Blk _ _ _ _; rw [hw7]; exact Blk.new _ _ _
      have S7 := Lib.hid (hs.out.below hb7)
      have I7 := Lib.hid (hi.out.keep hb7)
      have J7 := Lib.hid (H3.out.keep hb7)
      have HB7 := Lib.hid (hb.out.trans (hb7.mono hb.out.size))
      obtain ⟨gp, hgp⟩ : ∃ x, x = wr.heap.size := ⟨_, rfl⟩
      rw [← hgp] at P7 ⊢
      clear hw7 hb7 h1 h2 hs0 hs1 hgp
      have hs0 := S7.out.cell 0
      have hs1 := S7.out.cell 1
      have p0' := P7.out.cell 0
      have p1' := P7.out.cell 1
      simp only [List.getElem?_toArray, List.getElem?_cons_zero, List.getElem?_cons_succ] at hs0 hs1 p0' p1'
      go_wp2_with fail
      obtain ⟨X, hX⟩ : ∃ x, x = Bell.setE qn p0 ys (p, zs) := ⟨_, rfl⟩
      have HX := Lib.hid hX
      refine (settingCheck_any p p0 ea en ec fa qn fc zs ys w7 J7.out I7.out hqn1 hze).mono ?_
      rw [← hX]
      clear hX
      rintro e w8 ⟨rfl, hb8⟩
      have P8 := Lib.hid (P7.out.below hb8)
      have S8 := Lib.hid (S7.out.below hb8)
      have J8 := Lib.hid (J7.out.keep hb8)
      have HB8 := Lib.hid (HB7.out.trans (hb8.mono HB7.out.size))
      clear hb8 hs0 hs1 p0' p1' P7 S7 I7 J7 HB7
      by_cases hx0 : X = 0
      case neg =>
        have hr : V = X := by rw [HVJ.out, ← HX.out, Bell.thenE, if_neg hx0]
        go_wp2
        go_ret
        first | exact ⟨ret_int hr.symm, HB8.out⟩ | exact ⟨ret_int rfl, HB8.out⟩
      have hlen : en = qn := by
        have h := (Bell.setE_zero (HX.out.symm.trans hx0)).2.2.1
        rw [← J8.out.1]; exact h
      have HLN := Lib.hid hlen
      have HVN : Hid (V = setsFrom T.sets qn (j + 1)) := by show _ = _; rw [HVJ.out, ← HX.out, Bell.thenE, if_pos hx0]
      subst hx0
      clear hlen HVJ HX
      have p0' := P8.out.cell 0
      have p1' := P8.out.cell 1
      simp only [List.getElem?_toArray, List.getElem?_cons_zero, List.getElem?_cons_succ] at p0' p1'
      go_wp2_with (refine wpList_store_row rfl 172 _ _ rfl gs #[.int .i64 p, .slice ea en ec] rfl rfl 172 _ S8.out (by kernel_rfl) rfl (by simp [Value.oneCell']) ?_)
      go_roundw
      case rel =>
        have e1 : prevP T.sets (j + 1) = p := by unfold prevP; rw [if_neg (by omega), HP.out, Nat.add_sub_cancel]
        have e2 : prevE T.sets T.squares.length (j + 1) = zs := by unfold prevE; rw [if_neg (by omega), HZS.out, Nat.add_sub_cancel]
        refine ⟨j + 1, by omega, by go_num, by rw [HT.out.squares.1]; exact HVN.out, ea, ec, ?_, ?_, ?_⟩
        · rw [e1, ← HLN.out]; exact S8.out.setRow _
        · rw [e2, ← HLN.out]
          exact K3.out.keep (HB8.out.setRow' (by have := hgs.out; omega) _)
        · exact HB8.out.setRow' (by have := hgs.out; omega) _
      case measure => simp [intOf]; omega
    · obtain rfl : j = gn := by omega
      have hr : V = 0 := by rw [hvj.out, ← HSE.out.1]; exact setsFrom_end _ _
      go_wp2
      go_ret
      first | exact ⟨ret_int hr.symm, hb.out⟩ | exact ⟨ret_int rfl, hb.out⟩
end Go.Proofs.YtmafmebcgmegeaaGreatDoor

namespace Go.Proofs.YtmafmebcgmegeaaGreatDoor
open Go.RowKit Go.Sort
theorem cnt_two {n : Nat} {k a b R : Int} (ha : a = if ((n : Int) == 0) = true then 12 else 0) (hb : b = if decide (k < (n : Int)) = true then 5 else 0) (hk : 0 ≤ k) : firstE [a, b, R] = firstE [cntI n k, R] := by
  unfold cntI atMostE
  by_cases h0 : n = 0
  · subst h0
    have e : a = 12 := by rw [ha]; rfl
    rw [e, if_pos rfl]
    rfl
  · have e : a = 0 := by rw [ha, if_neg (by simp; omega)]
    rw [e, if_neg h0]
    by_cases h1 : k < (n : Int)
    · have e2 : b = 5 := by rw [hb, if_pos (decide_eq_true h1)]
      rw [e2, if_pos h1]
      rfl
    · have e2 : b = 0 := by rw [hb, if_neg (by simp; omega)]
      rw [e2, if_neg h1]
      rfl
set_option maxHeartbeats 1000000 in
set_option maxRecDepth 100000 in
theorem refShares_full (A : Option Addr) (n c : Nat) (l : List Int) (w : World) (hl : IntsAt w A n l) (hn9 : n ≤ 140737488351232) :
    Calls Tryz.prog 101 #[.slice A n c] w fun e w' => e = .returned (.int .i64 (Bell.shE l)) ∧ Below w.heap.size w w' := by
  have HL := Lib.hid hl
  have HN := Lib.hid hl.1
  clear hl
  obtain ⟨R, hR⟩ : ∃ R, R = firstInE (fun x => withinE x 0 1000) l := ⟨_, rfl⟩
  obtain ⟨Z, hZ⟩ : ∃ Z, Z = firstE [cntI n 8, R] := ⟨_, rfl⟩
  obtain ⟨V, hV⟩ : ∃ V, V = Bell.shE l := ⟨_, rfl⟩
  have HV : Hid ((Z ≠ 0 → V = Z) ∧ (Z = 0 → V = if l.sum = 1000 then 0 else 1)) := by
    have hS : Bell.shE l = if Z = 0 then (if l.sum = 1000 then 0 else 1) else Z := by
      unfold Bell.shE Bell.thenE
      rw [bfirst, beach, cntE_cnt, HN.out, hZ, hR]
      rfl
    exact ⟨fun h => by rw [hV, hS, if_neg h], fun h => by rw [hV, hS, if_pos h]⟩
  rw [← hV]
  have HZ := Lib.hid hZ
  have HR := Lib.hid hR
  clear hR hZ hV
  go_enter Tryz.func101, Tryz.ntmps101
  go_wp2_with fail
  refine (refWhen_let _ _ _).mono ?_
  rintro e w1 ⟨a, rfl, ha, rfl⟩
  go_wp2_with fail
  refine (refWhen_let _ _ _).mono ?_
  rintro e w2 ⟨b, rfl, hb, rfl⟩
  go_wp2_with fail
  refine (refRanges_any A n c l 0 1000 w2 (by omega) HL.out).mono ?_
  rw [← HR.out]
  rintro e w3 ⟨rfl, rfl⟩
  go_wp2_with fail
  refine (refFirst3 _ _ a b R _ (by go_simp) (by go_simp) (by go_simp)).mono ?_
  obtain ⟨E, hE⟩ : ∃ E, E = firstE [a, b, R] := ⟨_, rfl⟩
  rw [← hE]
  have HE := Lib.hid hE
  clear hE
  rintro e w4 ⟨rfl, rfl⟩
  obtain ⟨w5, hw5⟩ : ∃ W, W = w3.alloc (.cells #[.int .i64 a, .int .i64 b, .int .i64 R] 3) := ⟨_, rfl⟩
  rw [← hw5]
  have hbl : Below w3.heap.size w3 w5 := by rw [hw5]; exact (Below.refl _ _).alloc (Nat.le_refl _) _
  have H5 := Lib.hid (HL.out.keep hbl)
  have HB := Lib.hid hbl
  clear hw5 hbl
  have HEZ : Hid (E = Z) := by show _ = _; rw [HE.out, HZ.out]; exact cnt_two ha.out hb.out (by omega)
  by_cases he : E = 0
  · have HV2 := Lib.hid (HV.out.2 (HEZ.out.symm.trans he))
    have h1 : (E != 0) = false := by simp [he]
    obtain ⟨z1, z2, z3⟩ := firstE3_zero (HE.out.symm.trans he)
    have y1 := when_off (by omega) ha.out z1
    have y2 := when_off (by omega) hb.out z2
    have n0 : 0 < n := by
      have : ¬ (n : Int) = 0 := by simpa using y1
      omega
    have n8 : n ≤ 8 := by have := of_decide_eq_false y2; omega
    have HG := Lib.hid (firstIn_rng (HR.out.symm.trans z3))
    obtain ⟨bb, off, rfl, hc⟩ := H5.out.2 n0
    have HC := Lib.hid hc
    clear hc he z1 z2 z3 y1 y2 ha hb HE HR HL HEZ HV HZ
    go_wp2
    go_loop [4, 5] (fun s k => ∃ j : Nat, j ≤ n ∧ k = .int .i64 j ∧ s = .int .i64 (sumL (l.take j))) (fun _ k => n - (intOf k).toNat)
    case atStart => exact ⟨0, Nat.zero_le _, rfl, rfl⟩
    case round =>
      obtain ⟨j, hj, rfl, rfl⟩ := hrel
      have hv : ∀ i, i < l.length → 0 ≤ l.getD i 0 ∧ l.getD i 0 ≤ 100000000000000 := fun i hi => by have := HG.out _ (Bell.getD_mem hi); omega
      by_cases hlt : j < n
      · have h0 := HC.out j hlt
        have b1 := sumL_bd l hv j (by rw [HN.out]; omega)
        have HS := Lib.hid (sumL_succ l j (by rw [HN.out]; exact hlt))
        have b4 := hv j (by rw [HN.out]; exact hlt)
        obtain ⟨x, hx⟩ : ∃ x, x = l.getD j 0 := ⟨_, rfl⟩
        obtain ⟨s, hs⟩ : ∃ s, s = sumL (l.take j) := ⟨_, rfl⟩
        rw [← hx] at h0 b4 HS
        rw [← hs] at b1 HS ⊢
        obtain ⟨b1, b2⟩ := b1
        have b5 : s ≤ 1000000000000000 := by omega
        clear hx hs hv b2
        go_wp2
        go_round
        case rel => exact ⟨j + 1, by omega, by go_num, by rw [HS.out]⟩
        case measure => simp [intOf]; omega
      · obtain ⟨s, hs⟩ : ∃ s, s = sumL (l.take j) := ⟨_, rfl⟩
        have HS : Hid (s = sumL l) := by
          show _ = _
          rw [hs, List.take_of_length_le (by rw [HN.out]; omega)]
        rw [← hs]
        clear hs hv
        go_wp2_with fail
        refine (refWhen_let _ _ _).mono ?_
        rintro e w6 ⟨d, rfl, hd, rfl⟩
        go_wp2
        go_ret
        have hr : V = d := by
          rw [HV2.out, ← sumL_sum, ← HS.out, hd.out]
          by_cases h : s = 1000
          · simp [h]
          · simp [h]
        first | exact ⟨ret_int hr.symm, HB.out⟩ | exact ⟨ret_int rfl, HB.out⟩
  · have h1 : (E != 0) = true := by simp [he]
    have hr : V = E := by rw [HEZ.out]; exact HV.out.1 (by rw [← HEZ.out]; exact he)
    go_wp2
    go_ret
    first | exact ⟨ret_int hr.symm, HB.out⟩ | exact ⟨ret_int rfl, HB.out⟩
set_option maxHeartbeats 1000000 in
set_option maxRecDepth 100000 in
theorem refSquares_full (A : Option Addr) (n c : Nat) (l : List Int) (w : World) (hl : IntsAt w A n l) (hn9 : n ≤ 140737488351232) :
    Calls Tryz.prog 104 #[.slice A n c] w fun e w' => e = .returned (.int .i64 (Bell.sqE l)) ∧ Below w.heap.size w w' := by
  have HL := Lib.hid hl
  have HN := Lib.hid hl.1
  clear hl
  obtain ⟨R, hR⟩ : ∃ R, R = firstInE (fun x => withinE x 0 100000000000) l := ⟨_, rfl⟩
  obtain ⟨Z, hZ⟩ : ∃ Z, Z = firstE [cntI n 8, R] := ⟨_, rfl⟩
  obtain ⟨V, hV⟩ : ∃ V, V = Bell.sqE l := ⟨_, rfl⟩
  have HV : Hid ((Z ≠ 0 → V = Z) ∧ (Z = 0 → V = if l.headD 0 = 0 ∧ Bell.asc (l.headD 0) l.tail then 0 else 11)) := by
    have hS : Bell.sqE l = if Z = 0 then (if l.headD 0 = 0 ∧ Bell.asc (l.headD 0) l.tail then 0 else 11) else Z := by
      unfold Bell.sqE Bell.thenE
      rw [bfirst, beach, cntE_cnt, HN.out, hZ, hR]
      rfl
    exact ⟨fun h => by rw [hV, hS, if_neg h], fun h => by rw [hV, hS, if_pos h]⟩
  rw [← hV]
  have HZ := Lib.hid hZ
  have HR := Lib.hid hR
  clear hR hZ hV
  go_enter Tryz.func104, Tryz.ntmps104
  go_wp2_with fail
  refine (refWhen_let _ _ _).mono ?_
  rintro e w1 ⟨a, rfl, ha, rfl⟩
  go_wp2_with fail
  refine (refWhen_let _ _ _).mono ?_
  rintro e w2 ⟨b, rfl, hb, rfl⟩
  go_wp2_with fail
  refine (refRanges_any A n c l 0 100000000000 w2 (by omega) HL.out).mono ?_
  rw [← HR.out]
  rintro e w3 ⟨rfl, rfl⟩
  go_wp2_with fail
  refine (refFirst3 _ _ a b R _ (by go_simp) (by go_simp) (by go_simp)).mono ?_
  obtain ⟨E, hE⟩ : ∃ E, E = firstE [a, b, R] := ⟨_, rfl⟩
  rw [← hE]
  have HE := Lib.hid hE
  clear hE
  rintro e w4 ⟨rfl, rfl⟩
  obtain ⟨w5, hw5⟩ : ∃ W, W = w3.alloc (.cells #[.int .i64 a, .int .i64 b, .int .i64 R] 3) := ⟨_, rfl⟩
  rw [← hw5]
  have hbl : Below w3.heap.size w3 w5 := by rw [hw5]; exact (Below.refl _ _).alloc (Nat.le_refl _) _
  have H5 := Lib.hid (HL.out.keep hbl)
  have HB := Lib.hid hbl
  clear hw5 hbl
  have HEZ : Hid (E = Z) := by show _ = _; rw [HE.out, HZ.out]; exact cnt_two ha.out hb.out (by omega)
  by_cases he : E = 0
  · have HV2 := Lib.hid (HV.out.2 (HEZ.out.symm.trans he))
    have h1 : (E != 0) = false := by simp [he]
    obtain ⟨z1, z2, z3⟩ := firstE3_zero (HE.out.symm.trans he)
    have y1 := when_off (by omega) ha.out z1
    have y2 := when_off (by omega) hb.out z2
    have n0 : 0 < n := by
      have : ¬ (n : Int) = 0 := by simpa using y1
      omega
    have n8 : n ≤ 8 := by have := of_decide_eq_false y2; omega
    have HG := Lib.hid (firstIn_rng (HR.out.symm.trans z3))
    have HV3 : Hid (((l.getD 0 0 = 0 ∧ ∀ i, i + 1 < l.length → l.getD i 0 < l.getD (i + 1) 0) → V = 0) ∧ (¬ (l.getD 0 0 = 0 ∧ ∀ i, i + 1 < l.length → l.getD i 0 < l.getD (i + 1) 0) → V = 11)) := by
      refine ⟨fun h => ?_, fun h => ?_⟩
      · rw [HV2.out, if_pos ((sqOrd (by rw [HN.out]; exact n0)).2 h)]
      · rw [HV2.out, if_neg (fun h2 => h ((sqOrd (by rw [HN.out]; exact n0)).1 h2))]
    clear HV2
    obtain ⟨bb, off, rfl, hc⟩ := H5.out.2 n0
    have HC := Lib.hid hc
    clear hc he z1 z2 z3 y1 y2 ha hb HE HR HL HEZ HV HZ
    go_wp2
    go_loopw [2, 4] (fun _ k wr => ∃ j : Nat, j ≤ n ∧ k = .int .i64 j ∧ Hid (0 < j → l.getD 0 0 = 0) ∧ Hid (∀ i, i + 1 < j → l.getD i 0 < l.getD (i + 1) 0) ∧ ∃ q, wr = w5.drewN q) (fun _ k _ => n - (intOf k).toNat)
    case atStart => exact ⟨0, Nat.zero_le _, rfl, fun h => absurd h (by omega), (fun i hi => by omega), 0, rfl⟩
    case round =>
      obtain ⟨j, hj, rfl, hz, hu, q, rfl⟩ := hrel
      by_cases hlt : j < n
      · have h0 := HC.out j hlt
        obtain ⟨x, hx⟩ : ∃ x, x = l.getD j 0 := ⟨_, rfl⟩
        rw [← hx] at h0
        have HX := Lib.hid hx
        clear hx
        rcases Nat.eq_zero_or_pos j with rfl | hp
        · rw [Nat.add_zero] at h0
          have pl : (0 : Int) < (n : Int) := by omega
          by_cases hx0 : x = 0
          · have t1 : (x != 0) = false := by simp [hx0]
            have HX0 := Lib.hid hx0
            clear hx0
            go_wp2
            go_quiet (fail)
            go_wp2
            go_roundw
            case rel => exact ⟨1, by omega, rfl, (fun _ => by rw [← HX.out]; exact HX0.out), (fun i hi => by omega), _, rfl⟩
            case measure => simp [intOf]; omega
          · have t1 : (x != 0) = true := by simp [hx0]
            have hr : V = 11 := HV3.out.2 (fun h => hx0 (HX.out.trans h.1))
            clear hx0
            go_wp2
            go_quiet (fail)
            go_wp2
            go_ret
            first | exact ⟨ret_int hr.symm, below_drewN' (below_drewN' HB.out _) _⟩ | exact ⟨ret_int rfl, below_drewN' (below_drewN' HB.out _) _⟩
        · have g0 : ((j : Int) == 0) = false := by simp; omega
          have g1 : decide (0 < j) = true := decide_eq_true (by omega)
          obtain ⟨p, hpj⟩ : ∃ p, p + 1 = j := ⟨j - 1, by omega⟩
          have h1 := HC.out p (by omega)
          obtain ⟨y, hy⟩ : ∃ y, y = l.getD p 0 := ⟨_, rfl⟩
          rw [← hy] at h1
          have HY := Lib.hid hy
          have hmx : ∀ ts t W, (Builtin.max_ ts t #[.int .i64 0, .int .i64 ((j : Int) - 1)]).run Tryz.prog W = .ok (.int .i64 (p : Int)) W := fun ts t W => by
            rw [run_max2']; congr 2; omega
          have pl : (p : Int) < (n : Int) := by omega
          have pl2 : (j : Int) < (n : Int) := by omega
          have wj : IntKind.i64.wrap ((j : Int) - 1) = (j : Int) - 1 := IntWalk.i64_in _ (by omega)
          have HPJ := Lib.hid hpj
          clear hy hp hpj
          by_cases hxy : x ≤ y
          · have t1 : decide (x ≤ y) = true := decide_eq_true hxy
            have hr : V = 11 := HV3.out.2 (fun h => by
              have h2 := h.2 p (by rw [HPJ.out, HN.out]; exact hlt)
              rw [HPJ.out, ← HX.out, ← HY.out] at h2
              omega)
            clear hxy
            go_wp2
            go_quiet (fail)
            go_wp2
            go_ret
            first | exact ⟨ret_int hr.symm, below_drewN' (below_drewN' HB.out _) _⟩ | exact ⟨ret_int rfl, below_drewN' (below_drewN' HB.out _) _⟩
          · have t1 : decide (x ≤ y) = false := decide_eq_false hxy
            have HXY := Lib.hid hxy
            clear hxy
            go_wp2
            go_quiet (fail)
            go_wp2
            go_roundw
            case rel =>
              have hpj := HPJ.out
              refine ⟨j + 1, by omega, by go_num, (fun _ => hz.out (by omega)), (fun i hi => ?_), _, rfl⟩
              by_cases hip : i + 1 < j
              · exact hu.out i hip
              · obtain rfl : i = p := by omega
                rw [hpj]
                have := HXY.out
                rw [← HX.out, ← HY.out]; omega
            case measure => simp [intOf]; omega
      · obtain rfl : j = n := by omega
        go_wp2
        go_ret
        have hr : V = 0 := HV3.out.1 ⟨hz.out n0, fun i hi => hu.out i (by rw [← HN.out]; exact hi)⟩
        first | exact ⟨ret_int hr.symm, below_drewN' HB.out _⟩ | exact ⟨ret_int rfl, below_drewN' HB.out _⟩
  · have h1 : (E != 0) = true := by simp [he]
    have hr : V = E := by rw [HEZ.out]; exact HV.out.1 (by rw [← HEZ.out]; exact he)
    go_wp2
    go_ret
    first | exact ⟨ret_int hr.symm, HB.out⟩ | exact ⟨ret_int rfl, HB.out⟩
end Go.Proofs.YtmafmebcgmegeaaGreatDoor
