/- Texts Qy of the proof. -/
import Derived.Test.YtmafmebcgmegeaaGreatDoorY47
import Derived.Test.YtmafmebcgmegeaaGreatDoorY42
import Derived.Test.YtmafmebcgmegeaaGreatDoorY28
namespace Go.Proofs.YtmafmebcgmegeaaGreatDoor
open Go.RowKit Go.Sort
theorem own_le {w : World} {base base' : Nat} {e : TypeId} {size : Nat} {v : Value} {n : Nat} {xs : List Value} (h : w.ownsRow base e size v n xs) (hb : base' ≤ base) : w.ownsRow base' e size v n xs :=
  ⟨h.1, h.2.imp id fun ⟨g, cap, cur, e, h1, r⟩ => ⟨g, cap, cur, e, Nat.le_trans hb h1, r⟩⟩
/-- What a flight answers whose arguments are good. -/
theorem paths_fly {l : List Bell.Pt} {p : List Bell.Sp} {v t : Int} (hl : pathE l = 0) (hp : procE p = 0) (hv : 1 ≤ v) (hv2 : v ≤ 100) (ht : 0 ≤ t) (ht2 : t ≤ 100007) : pathsE l p v t = flyE l v := by
  have h0 : flownE l p v t = 0 := by
    unfold flownE
    rw [hl, hp, withinE_in (by omega) (by omega), withinE_in (by omega) (by omega)]
    rfl
  unfold pathsE
  rw [if_pos h0]
  exact flownF_fly hl hp hv ht ht2
theorem paths_list {l : List Bell.Pt} {p : List Bell.Sp} {v t : Int} (h : pathsE l p v t = 0) : pathsL l p v t = Bell.flown l p v t := if_pos h
set_option maxHeartbeats 4000000 in
set_option maxRecDepth 100000 in
theorem flies_walk (A B : Option Addr) (n c pn pc : Nat) (l : List Bell.Pt) (p : List Bell.Sp) (x y : Int) (w : World) (hl : PtsAt w A n l) (hp : SpsAt w B pn p) (hx : 0 ≤ x) (hx2 : x < 4294967296) (hy : 0 ≤ y) (hy2 : y < 4294967296) (hu : Turned w) (hf : FirstWords w) (ht : Tab w) :
    Calls Tryz.prog 12 #[.slice A n c, .slice B pn pc, .agg #[.int .u32 x, .int .u32 y]] w fun e w' => e = .returned (.bool true) ∧ Below w.heap.size w w' := by
  have U := Lib.hid hu
  have F := Lib.hid hf
  have TB := Lib.hid ht
  have HL := Lib.hid hl
  have HP := Lib.hid hp
  have HX := Lib.hid hx; have HX2 := Lib.hid hx2; have HY := Lib.hid hy; have HY2 := Lib.hid hy2
  obtain ⟨i0, hi, hz0, hz1, hz2⟩ := info_parts infoSp
  clear hu hf ht hl hp hx hx2 hy hy2
  go_enter Tryz.func12, Tryz.ntmps12
  go_upto_region 1 with fail
  obtain ⟨w1, hw1⟩ : ∃ W, W = (w.alloc (.cells #[.int .u32 x, .int .u32 y] 159)) := ⟨_, rfl⟩
  rw [← hw1]
  have NN : Hid (Blk w1 (w.heap.size) 159 #[.int .u32 x, .int .u32 y]) := by show Blk _ _ _ _; rw [hw1]; exact Blk.new _ _ _
  have hb : Below w.heap.size w w1 := by rw [hw1]; exact ((Below.refl _ _).alloc (Nat.le_refl _) _)
  obtain ⟨g5, hg5⟩ : ∃ g, g = w.heap.size := ⟨_, rfl⟩
  have HGw1 : Hid (g5 = w.heap.size) := hg5
  rw [← hg5] at NN
  try rw [← hg5]
  clear hw1 hg5
  have HB := Lib.hid hb
  replace U := Lib.hid (U.out.keep hb)
  replace F := Lib.hid (F.out.keep hb)
  replace TB := Lib.hid (TB.out.keep hb)
  replace HL := Lib.hid (HL.out.keep hb)
  replace HP := Lib.hid (HP.out.keep hb)
  clear hb HGw1
  by_cases h7 : 6 < n
  · have h17 : (6 : Int) < (n : Int) := by omega
    go_wp2_with fail
    refine (awake2_any w1 U.out F.out TB.out).mono ?_
    rintro e wZ ⟨rfl, hb⟩
    replace HB := Lib.hid (HB.out.trans (hb.mono HB.out.size))
    clear hb
    go_wp2
    go_ret
    exact ⟨rfl, HB.out⟩
  have h17 : ¬ (6 : Int) < (n : Int) := by omega
  obtain ⟨E, hE⟩ : ∃ E, E = pathE l := ⟨_, rfl⟩
  have HE := Lib.hid hE
  clear hE
  go_wp2_with fail
  refine (refPath_full A n c l w1 HL.out (by omega)).mono ?_
  rintro e w2 ⟨rfl, hb⟩
  rw [← HE.out]
  replace HB := Lib.hid (HB.out.trans (hb.mono HB.out.size))
  replace U := Lib.hid (U.out.keep hb)
  replace F := Lib.hid (F.out.keep hb)
  replace TB := Lib.hid (TB.out.keep hb)
  replace HL := Lib.hid (HL.out.keep hb)
  replace HP := Lib.hid (HP.out.keep hb)
  replace NN := Lib.hid (NN.out.below hb)
  clear hb
  by_cases h0 : ¬ (E = 0)
  · have h1 : (E == 0) = false := by simp [h0]
    go_wp2_with fail
    refine (awake2_any w2 U.out F.out TB.out).mono ?_
    rintro e wZ ⟨rfl, hb⟩
    replace HB := Lib.hid (HB.out.trans (hb.mono HB.out.size))
    clear hb
    go_wp2
    go_ret
    exact ⟨rfl, HB.out⟩
  have h0 := Decidable.not_not.1 h0
  subst h0
  by_cases h9 : 8 < pn
  · have h10 : (8 : Int) < (pn : Int) := by omega
    go_wp2_with fail
    refine (awake2_any w2 U.out F.out TB.out).mono ?_
    rintro e wZ ⟨rfl, hb⟩
    replace HB := Lib.hid (HB.out.trans (hb.mono HB.out.size))
    clear hb
    go_wp2
    go_ret
    exact ⟨rfl, HB.out⟩
  have h10 : ¬ (8 : Int) < (pn : Int) := by omega
  have h11 : decide ((8 : Int) < (pn : Int)) = false := by simp; omega
  obtain ⟨G, hG⟩ : ∃ G, G = procE p := ⟨_, rfl⟩
  have HG := Lib.hid hG
  clear hG
  go_wp2_with fail
  refine (refProc_full B pn pc p w2 HP.out (by omega)).mono ?_
  rintro e w3 ⟨rfl, hb⟩
  rw [← HG.out]
  replace HB := Lib.hid (HB.out.trans (hb.mono HB.out.size))
  replace U := Lib.hid (U.out.keep hb)
  replace F := Lib.hid (F.out.keep hb)
  replace TB := Lib.hid (TB.out.keep hb)
  replace HL := Lib.hid (HL.out.keep hb)
  replace HP := Lib.hid (HP.out.keep hb)
  replace NN := Lib.hid (NN.out.below hb)
  clear hb
  by_cases h0 : ¬ (G = 0)
  · have h1 : (G != 0) = true := by simp [h0]
    have h2 : (G == 0) = false := by simp [h0]
    go_wp2_with fail
    refine (awake2_any w3 U.out F.out TB.out).mono ?_
    rintro e wZ ⟨rfl, hb⟩
    replace HB := Lib.hid (HB.out.trans (hb.mono HB.out.size))
    clear hb
    go_wp2
    go_ret
    exact ⟨rfl, HB.out⟩
  have h0 := Decidable.not_not.1 h0
  subst h0
  have HPG := Lib.hid (goodSp_of HG.out.symm)
  have HLN := Lib.hid (lengthE_zero2 (k := 16) (andE_zero HE.out.symm).1)
  have c0 := NN.out.cell 0
  have c1 := NN.out.cell 1
  simp only [List.getElem?_toArray, List.getElem?_cons_zero, List.getElem?_cons_succ] at c0 c1
  go_upto_region 3 with fail
  clear h17 h10 h11
  have hx := HX.out; have hx2 := HX2.out; have hy := HY.out; have hy2 := HY2.out
  go_big_quiet (fail)
  obtain ⟨w4, hw4⟩ : ∃ W, W = w3.drewN nq := ⟨_, rfl⟩
  rw [← hw4]
  have hb : Below w3.heap.size w3 w4 := by rw [hw4]; exact below_drewN' (Below.refl _ _) _
  clear hw4 c0 c1 NN
  obtain ⟨v, hv⟩ : ∃ v, v = 1 + x % 100 := ⟨_, rfl⟩
  obtain ⟨t, ht⟩ : ∃ t, t = y % 100001 := ⟨_, rfl⟩
  rw [← hv, ← ht]
  have HV : Hid (1 ≤ v ∧ v ≤ 100) := by show _ ∧ _; omega
  have HT : Hid (0 ≤ t ∧ t ≤ 100000) := by show _ ∧ _; omega
  clear hv ht HX HX2 HY HY2 hx hx2 hy hy2
  replace HB := Lib.hid (HB.out.trans (hb.mono HB.out.size))
  replace U := Lib.hid (U.out.keep hb)
  replace F := Lib.hid (F.out.keep hb)
  replace TB := Lib.hid (TB.out.keep hb)
  replace HL := Lib.hid (HL.out.keep hb)
  replace HP := Lib.hid (HP.out.keep hb)
  clear hb
  have hp2 : 2 ≤ pn := by have := HPG.out.1.lo; have := HP.out.1; omega
  have hn2 : 2 ≤ n := by have := HLN.out.1; have := HL.out.1; omega
  obtain ⟨bp, op, rfl, _⟩ := HP.out.2 (by omega)
  go_wp2_with (at_builtin; refine wpList_copy rfl _ _ 83 161 i0 _ 3 24 Tryz.underlying83 hi hz0 hz1 hz2 rfl (by decide) rfl ⟨_, rfl⟩ rfl (by omega) (by rw [spCells_len, HP.out.1]) (HP.out.keep ((Below.refl _ _).alloc (Nat.le_refl _) _)).cellsAt (by unfold maxLen; omega) (by omega) ?_; intro gq cq w5 hE hown hq1 hq2)
  have hb : Below w4.heap.size w4 w5 := ((Below.refl _ _).alloc (Nat.le_refl _) _).trans (hE.below.mono (by simp))
  obtain ⟨m, rfl⟩ : ∃ m, pn = m + 1 := ⟨pn - 1, by omega⟩
  obtain ⟨H, hH⟩ : ∃ H, H = (Bell.spAt p m).h := ⟨_, rfl⟩
  have HH := Lib.hid hH
  have HR : Hid (0 ≤ H ∧ H ≤ 20000) := by show _ ∧ _; rw [hH]; exact HPG.out.1.h0 m (by have := HP.out.1; omega)
  clear hH
  have ho : OwnPr w5 w4.heap.size gq (m + 1) cq (levK H p 0) := by rw [levK_0]; exact ⟨own_le hown (by simp), HP.out.1⟩
  clear hE hown
  go_loopw [10, 61] (fun _ i wr => ∃ k : Nat, k ≤ m + 1 ∧ i = .int .i64 k ∧ OwnPr wr w4.heap.size gq (m + 1) cq (levK H p k) ∧ Below w4.heap.size w4 wr) (fun _ i _ => m + 1 - (intOf i).toNat)
  case atStart => exact ⟨0, Nat.zero_le _, rfl, ho, hb⟩
  case round =>
    clear ho hb
    obtain ⟨k, hk, rfl, hown, hb⟩ := hrel
    by_cases hlt : k < m + 1
    · have hsz := hb.size
      obtain ⟨b', o', he, hcc⟩ := (HP.out.keep hb).2 (by omega)
      cases he
      have c1 := (hcc m (by omega)).2.1
      rw [← HH.out] at c1
      clear hcc
      obtain ⟨d0, d1, d2⟩ := spCells_at (levK H p k) k (by rw [hown.2]; exact hlt)
      have c2 := World.ownsRow.cellAt hown.1 (k * 3 + 1) (by omega)
      rw [d1] at c2
      have f2 := World.ownsRow.frozenAt hown.1 (k * 3 + 1)
      have hg := (World.ownsRow.lt hown.1 gq rfl).1
      have R := Lib.hid (hown.level hlt)
      have B1 := Lib.hid (hb.setCell (p := ⟨gq, k * 3 + 1, none⟩) hg (.int .i64 H))
      clear hown hb d0 d1 d2
      go_wp2
      go_roundw
      case rel => exact ⟨k + 1, by omega, by go_num, R.out, B1.out⟩
      case measure => simp [intOf]; omega
    · obtain rfl : k = m + 1 := by omega
      have hlev : Hid (levK H p (m + 1) = lev H p) := by show _ = _; rw [← HP.out.1]; rfl
      have LV : Hid (SpsAt wr (some ⟨gq, 0, none⟩) (m + 1) (lev H p)) := by show SpsAt _ _ _ _; rw [← hlev.out]; exact hown.at_
      have HPL : Hid (procE (lev H p) = 0) := lev_proc HG.out.symm HR.out.1 HR.out.2
      obtain ⟨FE, hFE⟩ : ∃ FE, FE = flyE l v := ⟨_, rfl⟩
      have HF := Lib.hid hFE
      clear hFE hlev hown
      replace HB := Lib.hid (HB.out.trans (hb.mono HB.out.size))
      replace U := Lib.hid (U.out.keep hb)
      replace F := Lib.hid (F.out.keep hb)
      replace TB := Lib.hid (TB.out.keep hb)
      replace HL := Lib.hid (HL.out.keep hb)
      replace HP := Lib.hid (HP.out.keep hb)
      clear hb
      go_wp2_with (at_builtin; refine wpList_points rfl _ _ rfl ⟨_, rfl⟩ rfl (HL.out.keep ((Below.refl _ _).alloc (Nat.le_refl _) _)) (by omega) ?_; intro g1 c1 w1a hE hpts hc1 hc2)
      have hb : Below wr.heap.size wr w1a := ((Below.refl _ _).alloc (Nat.le_refl _) _).trans (hE.below.mono (by simp))
      have PT := Lib.hid hpts
      have HC := Lib.hid (And.intro hc1 hc2)
      clear hE hpts hc1 hc2
      replace HB := Lib.hid (HB.out.trans (hb.mono HB.out.size))
      replace U := Lib.hid (U.out.keep hb)
      replace F := Lib.hid (F.out.keep hb)
      replace TB := Lib.hid (TB.out.keep hb)
      replace HL := Lib.hid (HL.out.keep hb)
      replace HP := Lib.hid (HP.out.keep hb)
      replace LV := Lib.hid (LV.out.keep hb)
      clear hb
      go_wp2_with fail
      refine (steps_any (some ⟨gq, 0, none⟩) (m + 1) cq (lev H p) w1a LV.out (by omega)).mono ?_
      rintro e w1b ⟨S1, d1, rfl, hs, hb⟩
      have HS := Lib.hid hs
      clear hs
      replace HB := Lib.hid (HB.out.trans (hb.mono HB.out.size))
      replace U := Lib.hid (U.out.keep hb)
      replace F := Lib.hid (F.out.keep hb)
      replace TB := Lib.hid (TB.out.keep hb)
      replace HL := Lib.hid (HL.out.keep hb)
      replace HP := Lib.hid (HP.out.keep hb)
      replace LV := Lib.hid (LV.out.keep hb)
      replace PT := Lib.hid (PT.out.keep hb)
      clear hb
      go_wp2_with fail
      refine (Flown_any g1 0 n c1 S1 (m + 1) d1 l (lev H p) v (t) w1b PT.out HS.out HC.out.1 HC.out.2 (by omega) (by omega)).mono ?_
      rintro e w1c ⟨hq, hb⟩
      obtain ⟨_, rfl, A1, m1, q1, rfl, htr⟩ := flown_fl hq
      rw [show pathsE l (lev H p) v (t) = FE by rw [HF.out]; exact paths_fly HE.out.symm HPL.out HV.out.1 HV.out.2 (by have := HT.out; omega) (by have := HT.out; omega)]
      have T1 := Lib.hid htr
      clear hq htr HS PT HC
      replace HB := Lib.hid (HB.out.trans (hb.mono HB.out.size))
      replace U := Lib.hid (U.out.keep hb)
      replace F := Lib.hid (F.out.keep hb)
      replace TB := Lib.hid (TB.out.keep hb)
      replace HL := Lib.hid (HL.out.keep hb)
      replace HP := Lib.hid (HP.out.keep hb)
      replace LV := Lib.hid (LV.out.keep hb)
      clear hb
      have ht0 := HT.out.1; have ht1 := HT.out.2
      go_wp2_with (at_builtin; refine wpList_points rfl _ _ rfl ⟨_, rfl⟩ rfl (HL.out.keep ((Below.refl _ _).alloc (Nat.le_refl _) _)) (by omega) ?_; intro g2 c2 w2a hE hpts hc1 hc2)
      have hb : Below w1c.heap.size w1c w2a := ((Below.refl _ _).alloc (Nat.le_refl _) _).trans (hE.below.mono (by simp))
      have PT := Lib.hid hpts
      have HC := Lib.hid (And.intro hc1 hc2)
      clear hE hpts hc1 hc2
      replace HB := Lib.hid (HB.out.trans (hb.mono HB.out.size))
      replace U := Lib.hid (U.out.keep hb)
      replace F := Lib.hid (F.out.keep hb)
      replace TB := Lib.hid (TB.out.keep hb)
      replace HL := Lib.hid (HL.out.keep hb)
      replace HP := Lib.hid (HP.out.keep hb)
      replace LV := Lib.hid (LV.out.keep hb)
      replace T1 := Lib.hid (T1.out.keep hb)
      clear hb
      go_wp2_with fail
      refine (steps_any (some ⟨gq, 0, none⟩) (m + 1) cq (lev H p) w2a LV.out (by omega)).mono ?_
      rintro e w2b ⟨S2, d2, rfl, hs, hb⟩
      have HS := Lib.hid hs
      clear hs
      replace HB := Lib.hid (HB.out.trans (hb.mono HB.out.size))
      replace U := Lib.hid (U.out.keep hb)
      replace F := Lib.hid (F.out.keep hb)
      replace TB := Lib.hid (TB.out.keep hb)
      replace HL := Lib.hid (HL.out.keep hb)
      replace HP := Lib.hid (HP.out.keep hb)
      replace LV := Lib.hid (LV.out.keep hb)
      replace T1 := Lib.hid (T1.out.keep hb)
      replace PT := Lib.hid (PT.out.keep hb)
      clear hb
      go_wp2_with fail
      refine (Flown_any g2 0 n c2 S2 (m + 1) d2 l (lev H p) v (t + 7) w2b PT.out HS.out HC.out.1 HC.out.2 (by omega) (by omega)).mono ?_
      rintro e w2c ⟨hq, hb⟩
      obtain ⟨_, rfl, A2, m2, q2, rfl, htr⟩ := flown_fl hq
      rw [show pathsE l (lev H p) v (t + 7) = FE by rw [HF.out]; exact paths_fly HE.out.symm HPL.out HV.out.1 HV.out.2 (by have := HT.out; omega) (by have := HT.out; omega)]
      have T2 := Lib.hid htr
      clear hq htr HS PT HC
      replace HB := Lib.hid (HB.out.trans (hb.mono HB.out.size))
      replace U := Lib.hid (U.out.keep hb)
      replace F := Lib.hid (F.out.keep hb)
      replace TB := Lib.hid (TB.out.keep hb)
      replace HL := Lib.hid (HL.out.keep hb)
      replace HP := Lib.hid (HP.out.keep hb)
      replace LV := Lib.hid (LV.out.keep hb)
      replace T1 := Lib.hid (T1.out.keep hb)
      clear hb
      go_wp2_with (at_builtin; refine wpList_points rfl _ _ rfl ⟨_, rfl⟩ rfl (HL.out.keep ((Below.refl _ _).alloc (Nat.le_refl _) _)) (by omega) ?_; intro g3 c3 w3a hE hpts hc1 hc2)
      have hb : Below w2c.heap.size w2c w3a := ((Below.refl _ _).alloc (Nat.le_refl _) _).trans (hE.below.mono (by simp))
      have PT := Lib.hid hpts
      have HC := Lib.hid (And.intro hc1 hc2)
      clear hE hpts hc1 hc2
      replace HB := Lib.hid (HB.out.trans (hb.mono HB.out.size))
      replace U := Lib.hid (U.out.keep hb)
      replace F := Lib.hid (F.out.keep hb)
      replace TB := Lib.hid (TB.out.keep hb)
      replace HL := Lib.hid (HL.out.keep hb)
      replace HP := Lib.hid (HP.out.keep hb)
      replace LV := Lib.hid (LV.out.keep hb)
      replace T1 := Lib.hid (T1.out.keep hb)
      replace T2 := Lib.hid (T2.out.keep hb)
      clear hb
      go_wp2_with fail
      refine (steps_any (some ⟨bp, op, none⟩) (m + 1) pc (p) w3a HP.out (by omega)).mono ?_
      rintro e w3b ⟨S3, d3, rfl, hs, hb⟩
      have HS := Lib.hid hs
      clear hs
      replace HB := Lib.hid (HB.out.trans (hb.mono HB.out.size))
      replace U := Lib.hid (U.out.keep hb)
      replace F := Lib.hid (F.out.keep hb)
      replace TB := Lib.hid (TB.out.keep hb)
      replace HL := Lib.hid (HL.out.keep hb)
      replace HP := Lib.hid (HP.out.keep hb)
      replace LV := Lib.hid (LV.out.keep hb)
      replace T1 := Lib.hid (T1.out.keep hb)
      replace T2 := Lib.hid (T2.out.keep hb)
      replace PT := Lib.hid (PT.out.keep hb)
      clear hb
      go_wp2_with fail
      refine (Flown_any g3 0 n c3 S3 (m + 1) d3 l (p) v (t) w3b PT.out HS.out HC.out.1 HC.out.2 (by omega) (by omega)).mono ?_
      rintro e w3c ⟨hq, hb⟩
      obtain ⟨_, rfl, A3, m3, q3, rfl, htr⟩ := flown_fl hq
      rw [show pathsE l (p) v (t) = FE by rw [HF.out]; exact paths_fly HE.out.symm HG.out.symm HV.out.1 HV.out.2 (by have := HT.out; omega) (by have := HT.out; omega)]
      have T3 := Lib.hid htr
      clear hq htr HS PT HC
      replace HB := Lib.hid (HB.out.trans (hb.mono HB.out.size))
      replace U := Lib.hid (U.out.keep hb)
      replace F := Lib.hid (F.out.keep hb)
      replace TB := Lib.hid (TB.out.keep hb)
      replace HL := Lib.hid (HL.out.keep hb)
      replace HP := Lib.hid (HP.out.keep hb)
      replace LV := Lib.hid (LV.out.keep hb)
      replace T1 := Lib.hid (T1.out.keep hb)
      replace T2 := Lib.hid (T2.out.keep hb)
      clear hb
      clear ht0 ht1
      by_cases h0 : ¬ (FE = 0)
      · have hw := flyE_which l v
        rw [← HF.out] at hw
        rcases hw with h1 | h1 | h1 | h1
        · exact absurd h1 h0
        all_goals
          subst h1
          go_wp2_with fail
          refine (awake2_any w3c U.out F.out TB.out).mono ?_
          rintro e wZ ⟨rfl, hb⟩
          replace HB := Lib.hid (HB.out.trans (hb.mono HB.out.size))
          clear hb
          go_wp2
          go_ret
          exact ⟨rfl, HB.out⟩
      have h0 := Decidable.not_not.1 h0
      subst h0
      have hnl : l.length = n := HL.out.1
      have e1 : pathsE l (lev H p) v (t) = 0 := by rw [HF.out]; exact paths_fly HE.out.symm HPL.out HV.out.1 HV.out.2 (by have := HT.out; omega) (by have := HT.out; omega)
      have ht1 := T1.out
      rw [paths_list e1] at ht1
      obtain rfl : n = m1 := by rw [← ht1.1, Bell.flown_len, hnl]
      obtain ⟨b1, o1, rfl, _⟩ := ht1.2 (by omega)
      replace T1 := Lib.hid ht1
      clear ht1 e1
      have e2 : pathsE l (lev H p) v (t + 7) = 0 := by rw [HF.out]; exact paths_fly HE.out.symm HPL.out HV.out.1 HV.out.2 (by have := HT.out; omega) (by have := HT.out; omega)
      have ht2 := T2.out
      rw [paths_list e2] at ht2
      obtain rfl : n = m2 := by rw [← ht2.1, Bell.flown_len, hnl]
      obtain ⟨b2, o2, rfl, _⟩ := ht2.2 (by omega)
      replace T2 := Lib.hid ht2
      clear ht2 e2
      have e3 : pathsE l (p) v (t) = 0 := by rw [HF.out]; exact paths_fly HE.out.symm HG.out.symm HV.out.1 HV.out.2 (by have := HT.out; omega) (by have := HT.out; omega)
      have ht3 := T3.out
      rw [paths_list e3] at ht3
      obtain rfl : n = m3 := by rw [← ht3.1, Bell.flown_len, hnl]
      obtain ⟨b3, o3, rfl, _⟩ := ht3.2 (by omega)
      replace T3 := Lib.hid ht3
      clear ht3 e3
      clear hnl
      have c0 : w3c.cell? ⟨b1, o1, none⟩ = some (.int .i64 t) := by
        obtain ⟨b', o', he, hc⟩ := T1.out.2 (by omega)
        cases he
        have := (hc.2 0 (by omega)).1
        rw [Bell.flown_at _ _ _ (by rw [HL.out.1]; omega)] at this
        rw [show (Bell.flownAt l (lev H p) v t 0).t = t by show t + (0 + v - 1) / v = t; rw [Int.ediv_eq_zero_of_lt (by have := HV.out; omega) (by omega)]; omega] at this
        simpa using this
      have cp : w3c.cell? ⟨bp, op + 1, none⟩ = some (.int .i64 (Bell.spAt p 0).h) ∧ w3c.cell? ⟨bp, op + 2, none⟩ = some (.int .i64 (Bell.spAt p 0).p) := by
        obtain ⟨b', o', he, hc⟩ := HP.out.2 (by omega)
        cases he
        have := hc 0 (by omega)
        exact ⟨by simpa using this.2.1, by simpa using this.2.2⟩
      obtain ⟨cp1, cp2⟩ := cp
      go_upto_region 19 with fail
      go_big_quiet (fail)
      obtain ⟨w6, hw6⟩ : ∃ W, W = w3c.drewN nq := ⟨_, rfl⟩
      rw [← hw6]
      have hb : Below w3c.heap.size w3c w6 := by rw [hw6]; exact below_drewN' (Below.refl _ _) _
      clear hw6 c0 cp1 cp2
      replace HB := Lib.hid (HB.out.trans (hb.mono HB.out.size))
      replace U := Lib.hid (U.out.keep hb)
      replace F := Lib.hid (F.out.keep hb)
      replace TB := Lib.hid (TB.out.keep hb)
      replace HL := Lib.hid (HL.out.keep hb)
      replace HP := Lib.hid (HP.out.keep hb)
      replace LV := Lib.hid (LV.out.keep hb)
      replace T1 := Lib.hid (T1.out.keep hb)
      replace T2 := Lib.hid (T2.out.keep hb)
      replace T3 := Lib.hid (T3.out.keep hb)
      clear hb
      obtain ⟨fh, hfh⟩ : ∃ f : Nat → Int, f = fun i => (Bell.spAt p i).h := ⟨_, rfl⟩
      obtain ⟨fp, hfp⟩ : ∃ f : Nat → Int, f = fun i => (Bell.spAt p i).p := ⟨_, rfl⟩
      have FH := Lib.hid hfh
      have FP := Lib.hid hfp
      have f0 : (Bell.spAt p 0).h = loK fh 0 := by rw [hfh]; rfl
      have f1 : loK fh 0 = hiK fh 0 := by rw [hfh]; rfl
      have f2 : (Bell.spAt p 0).p = loK fp 0 := by rw [hfp]; rfl
      have f3 : loK fp 0 = hiK fp 0 := by rw [hfp]; rfl
      rw [f0, f2]
      clear hfh hfp f0 f2
      go_wp2_with fail
      go_loopw [17, 18, 19, 20, 22, 182] (fun lo hi wk st _ i wr => ∃ k : Nat, k ≤ m + 1 ∧ i = .int .i64 k ∧ lo = .int .i64 (loK fh k) ∧ hi = .int .i64 (hiK fh k) ∧ wk = .int .i64 (loK fp k) ∧ st = .int .i64 (hiK fp k) ∧ Below w6.heap.size w6 wr) (fun _ _ _ _ _ i _ => m + 1 - (intOf i).toNat)
      case atStart => exact ⟨0, Nat.zero_le _, rfl, rfl, by rw [f1], rfl, by rw [f3], Below.refl _ _⟩
      case round =>
        clear f1 f3
        obtain ⟨k, hk, rfl, rfl, rfl, rfl, rfl, hb⟩ := hrel
        by_cases hlt : k < m + 1
        · obtain ⟨b', o', he, hcc⟩ := (HP.out.keep hb).2 (by omega)
          cases he
          obtain ⟨P, hP⟩ : ∃ P, P = Bell.spAt p k := ⟨_, rfl⟩
          obtain ⟨c0, c1, c2⟩ := hcc k hlt
          rw [← hP] at c0 c1 c2
          have GH : Hid (P.h = fh k) := by show _ = _; rw [FH.out, hP]
          have GP : Hid (P.p = fp k) := by show _ = _; rw [FP.out, hP]
          clear hcc hP
          have HB6 := Lib.hid hb
          clear hb
          go_upto_region 23 with fail
          clear c0 c1 c2
          obtain ⟨wa, hwa⟩ : ∃ W, W = (wr.alloc (.cells #[.int .i64 P.d, .int .i64 P.h, .int .i64 P.p] 161)) := ⟨_, rfl⟩
          rw [← hwa]
          have BX : Hid (Blk wa (wr.heap.size) 161 #[.int .i64 P.d, .int .i64 P.h, .int .i64 P.p]) := by show Blk _ _ _ _; rw [hwa]; exact Blk.new _ _ _
          have hb : Below wr.heap.size wr wa := by rw [hwa]; exact ((Below.refl _ _).alloc (Nat.le_refl _) _)
          obtain ⟨g22, hg22⟩ : ∃ g, g = wr.heap.size := ⟨_, rfl⟩
          have HGwa : Hid (g22 = wr.heap.size) := hg22
          rw [← hg22] at BX
          try rw [← hg22]
          clear hwa hg22
          replace HB6 := Lib.hid (HB6.out.trans (hb.mono HB6.out.size))
          clear hb HGwa
          have c1 := BX.out.cell 1
          have c2 := BX.out.cell 2
          simp only [List.getElem?_toArray, List.getElem?_cons_zero, List.getElem?_cons_succ] at c1 c2
          go_big_quiet (fail)
          rw [show min (loK fh k) P.h = loK fh (k + 1) by rw [GH.out]; rfl, show max (hiK fh k) P.h = hiK fh (k + 1) by rw [GH.out]; rfl, show min (loK fp k) P.p = loK fp (k + 1) by rw [GP.out]; rfl, show max (hiK fp k) P.p = hiK fp (k + 1) by rw [GP.out]; rfl]
          have HBQ : Hid (Below w6.heap.size w6 (wa.drewN nq)) := below_drewN' HB6.out _
          clear c1 c2 BX
          go_wp2
          go_roundw
          case rel => exact ⟨k + 1, by omega, by go_num, rfl, rfl, rfl, rfl, HBQ.out⟩
          case measure => simp [intOf]; omega
        · obtain rfl : k = m + 1 := by omega
          replace HB := Lib.hid (HB.out.trans (hb.mono HB.out.size))
          replace U := Lib.hid (U.out.keep hb)
          replace F := Lib.hid (F.out.keep hb)
          replace TB := Lib.hid (TB.out.keep hb)
          replace HL := Lib.hid (HL.out.keep hb)
          replace HP := Lib.hid (HP.out.keep hb)
          replace LV := Lib.hid (LV.out.keep hb)
          replace T1 := Lib.hid (T1.out.keep hb)
          replace T2 := Lib.hid (T2.out.keep hb)
          replace T3 := Lib.hid (T3.out.keep hb)
          clear hb
          obtain ⟨w7, rfl⟩ : ∃ W, W = wr := ⟨_, rfl⟩
          obtain ⟨lh, hlh⟩ : ∃ z, z = loK fh (m + 1) := ⟨_, rfl⟩
          obtain ⟨hh, hhh⟩ : ∃ z, z = hiK fh (m + 1) := ⟨_, rfl⟩
          obtain ⟨lp, hlp⟩ : ∃ z, z = loK fp (m + 1) := ⟨_, rfl⟩
          obtain ⟨hp, hhp⟩ : ∃ z, z = hiK fp (m + 1) := ⟨_, rfl⟩
          have HBH : Hid (∀ i, i < m + 1 → lh ≤ (Bell.spAt p i).h ∧ (Bell.spAt p i).h ≤ hh) := fun i hi => by
            have a1 := loK_le fh hi; have a2 := le_hiK fh hi
            rw [hlh, hhh]
            rw [FH.out] at a1 a2 ⊢
            exact ⟨a1, a2⟩
          have HBP : Hid (∀ i, i < m + 1 → lp ≤ (Bell.spAt p i).p ∧ (Bell.spAt p i).p ≤ hp) := fun i hi => by
            have a1 := loK_le fp hi; have a2 := le_hiK fp hi
            rw [hlp, hhp]
            rw [FP.out] at a1 a2 ⊢
            exact ⟨a1, a2⟩
          have HGT : Hid (Bell.GoodTr (Bell.flown l (lev H p) v t)) := by
            have e : flownF l (lev H p) v t = 0 := by rw [flownF_fly HE.out.symm HPL.out HV.out.1 HT.out.1 (by have := HT.out; omega)]; exact HF.out.symm
            unfold flownF at e
            split at e
            · exact absurd e (by decide)
            · exact goodTr_of e
          rw [← hlh, ← hhh, ← hlp, ← hhp]
          clear hlh hhh hlp hhp FH FP
          go_wp2_with fail
          go_loopw [23, 24, 25, 205] (fun _ _ _ i wq => ∃ k : Nat, k ≤ n ∧ i = .int .i64 k ∧ Below w7.heap.size w7 wq) (fun _ _ _ i _ => n - (intOf i).toNat)
          case atStart => exact ⟨0, Nat.zero_le _, rfl, Below.refl _ _⟩
          case round =>
            obtain ⟨k, hk, rfl, hb⟩ := hrel
            by_cases hlt : k < n
            · have hnl : l.length = n := HL.out.1
              have HBQ := Lib.hid hb
              clear hb
              obtain ⟨bl, ol, rfl, _⟩ := HL.out.2 (by omega)
              obtain ⟨Z, hZ⟩ : ∃ Z, Z = Bell.flownAt l p v t k := ⟨_, rfl⟩
              have GH := HR.out
              have GG := HPG.out.1
              have ZX : Hid ((Bell.ptAt l k).x = Z.x) := by show _ = _; rw [hZ]; rfl
              have ZY : Hid ((Bell.ptAt l k).y = Z.y) := by show _ = _; rw [hZ]; rfl
              have hd := Bell.lenTo_nonneg l k
              have ZP : Hid (lp ≤ Z.p ∧ Z.p ≤ hp) := by show _ ∧ _; rw [hZ]; exact Bell.power_bounds GG hd (fun i hi => HBP.out i (by have := HP.out.1; omega))
              have ZZ : Hid (lh ≤ Z.z ∧ Z.z ≤ hh) := by show _ ∧ _; rw [hZ]; exact Bell.height_bounds GG hd (fun i hi => HBH.out i (by have := HP.out.1; omega))
              have ZT : Hid (0 ≤ Z.t ∧ Z.t ≤ 100000000) := by
                have g := HGT.out.pts k (by rw [Bell.flown_len]; omega)
                rw [Bell.flown_at _ _ _ (by omega), lev_flown GG GH.1 GH.2, ← hZ] at g
                exact ⟨g.t0, g.t1⟩
              have XA : Hid (∀ W, Below w7.heap.size w7 W → FixAt W b1 (o1 + k * 5) ⟨Z.t, Z.x, Z.y, H, Z.p⟩) := fun W hW => by
                obtain ⟨_, _, he, hf⟩ := (T1.out.keep hW).2 (by omega); cases he
                have := hf.2 k hlt
                rw [Bell.flown_at _ _ _ (by omega), lev_flown GG GH.1 GH.2, ← hZ] at this
                exact this
              have YA : Hid (∀ W, Below w7.heap.size w7 W → FixAt W b2 (o2 + k * 5) ⟨Z.t + 7, Z.x, Z.y, H, Z.p⟩) := fun W hW => by
                obtain ⟨_, _, he, hf⟩ := (T2.out.keep hW).2 (by omega); cases he
                have := hf.2 k hlt
                rw [Bell.flown_at _ _ _ (by omega), Bell.flown_later, lev_flown GG GH.1 GH.2, ← hZ] at this
                exact this
              have ZA : Hid (∀ W, Below w7.heap.size w7 W → FixAt W b3 (o3 + k * 5) Z) := fun W hW => by
                obtain ⟨_, _, he, hf⟩ := (T3.out.keep hW).2 (by omega); cases he
                have := hf.2 k hlt
                rw [Bell.flown_at _ _ _ (by omega), ← hZ] at this
                exact this
              clear hZ GG GH hd hnl
              obtain ⟨x0, x1, x2, x3, x4⟩ := XA.out _ HBQ.out
              simp only at x0 x1 x2 x3 x4
              go_upto_region 28 with fail
              clear x0 x1 x2 x3 x4
              obtain ⟨wa, hwa⟩ : ∃ W, W = (wr.alloc (.cells #[.int .i64 Z.t, .int .i64 Z.x, .int .i64 Z.y, .int .i64 H, .int .i64 Z.p] 152)) := ⟨_, rfl⟩
              rw [← hwa]
              have BX : Hid (Blk wa (wr.heap.size) 152 #[.int .i64 Z.t, .int .i64 Z.x, .int .i64 Z.y, .int .i64 H, .int .i64 Z.p]) := by show Blk _ _ _ _; rw [hwa]; exact Blk.new _ _ _
              have hb : Below wr.heap.size wr wa := by rw [hwa]; exact ((Below.refl _ _).alloc (Nat.le_refl _) _)
              obtain ⟨g24, hg24⟩ : ∃ g, g = wr.heap.size := ⟨_, rfl⟩
              have HGwa : Hid (g24 = wr.heap.size) := hg24
              rw [← hg24] at BX
              try rw [← hg24]
              clear hwa hg24
              replace HBQ := Lib.hid (HBQ.out.trans (hb.mono HBQ.out.size))
              clear hb HGwa
              obtain ⟨y0, y1, y2, y3, y4⟩ := YA.out _ HBQ.out
              simp only at y0 y1 y2 y3 y4
              go_upto_region 29 with fail
              clear y0 y1 y2 y3 y4
              obtain ⟨wb, hwb⟩ : ∃ W, W = (wa.alloc (.cells #[.int .i64 (Z.t + 7), .int .i64 Z.x, .int .i64 Z.y, .int .i64 H, .int .i64 Z.p] 152)) := ⟨_, rfl⟩
              rw [← hwb]
              have BY : Hid (Blk wb (wa.heap.size) 152 #[.int .i64 (Z.t + 7), .int .i64 Z.x, .int .i64 Z.y, .int .i64 H, .int .i64 Z.p]) := by show Blk _ _ _ _; rw [hwb]; exact Blk.new _ _ _
              have hb : Below wa.heap.size wa wb := by rw [hwb]; exact ((Below.refl _ _).alloc (Nat.le_refl _) _)
              obtain ⟨g25, hg25⟩ : ∃ g, g = wa.heap.size := ⟨_, rfl⟩
              have HGwb : Hid (g25 = wa.heap.size) := hg25
              rw [← hg25] at BY
              try rw [← hg25]
              clear hwb hg25
              have hg25 : w7.heap.size ≤ g25 := by rw [HGwb]; exact HBQ.out.size
              have hne : g24 ≠ g25 := by have := lt_of_block BX.out; rw [HGwb]; omega
              replace HBQ := Lib.hid (HBQ.out.trans (hb.mono HBQ.out.size))
              replace BX := Lib.hid (BX.out.below hb)
              clear hb HGwb
              have y0 := BY.out.cell 0
              have yf := BY.out.frozen 0
              simp only [List.getElem?_toArray, List.getElem?_cons_zero] at y0
              have hZT := ZT.out
              go_upto_region 30 with fail
              obtain ⟨wc, hwc⟩ : ∃ W, W = wb.setCell ⟨g25, 0, none⟩ (.int .i64 Z.t) := ⟨_, rfl⟩
              rw [← hwc]
              have BX2 : Hid (Blk wc g24 152 #[.int .i64 Z.t, .int .i64 Z.x, .int .i64 Z.y, .int .i64 H, .int .i64 Z.p]) := by show Blk _ _ _ _; rw [hwc]; exact BX.out.far hne _
              have BY2 : Hid (Blk wc g25 152 #[.int .i64 Z.t, .int .i64 Z.x, .int .i64 Z.y, .int .i64 H, .int .i64 Z.p]) := by show Blk _ _ _ _; rw [hwc]; exact BY.out.set_ 0 _
              replace HBQ := Lib.hid (show Below w7.heap.size w7 wc by rw [hwc]; exact HBQ.out.setCell (p := ⟨g25, 0, none⟩) hg25 _)
              clear hwc y0 yf hg25 hne BX BY
              have X2 := BX2.out; have Y2 := BY2.out
              have ac0 := X2.cell 0; have af0 := X2.frozen 0; have ac1 := X2.cell 1; have af1 := X2.frozen 1; have ac2 := X2.cell 2; have af2 := X2.frozen 2; have ac3 := X2.cell 3; have af3 := X2.frozen 3; have ac4 := X2.cell 4; have af4 := X2.frozen 4
              simp only [List.getElem?_toArray, List.getElem?_cons_zero, List.getElem?_cons_succ] at ac0 ac1 ac2 ac3 ac4
              clear X2
              have bc0 := Y2.cell 0; have bf0 := Y2.frozen 0; have bc1 := Y2.cell 1; have bf1 := Y2.frozen 1; have bc2 := Y2.cell 2; have bf2 := Y2.frozen 2; have bc3 := Y2.cell 3; have bf3 := Y2.frozen 3; have bc4 := Y2.cell 4; have bf4 := Y2.frozen 4
              simp only [List.getElem?_toArray, List.getElem?_cons_zero, List.getElem?_cons_succ] at bc0 bc1 bc2 bc3 bc4
              clear Y2
              obtain ⟨z0, z1, z2, z3, z4⟩ := ZA.out _ HBQ.out
              obtain ⟨_, _, he, hfl⟩ := (HL.out.keep HBQ.out).2 (by omega); cases he
              obtain ⟨p0, p1⟩ := hfl k hlt
              rw [ZX.out] at p0
              rw [ZY.out] at p1
              obtain ⟨_, _, he, hfv⟩ := (LV.out.keep HBQ.out).2 (by omega); cases he
              have v1 := (hfv 0 (by omega)).2.1
              rw [lev_at (by have := HP.out.1; omega)] at v1
              simp only [Nat.zero_mul, Nat.add_zero] at v1
              clear hfl hfv
              have qa : ¬ Z.p < lp := by have := ZP.out; omega
              have qb : ¬ hp < Z.p := by have := ZP.out; omega
              have qc : ¬ Z.z < lh := by have := ZZ.out; omega
              have qd : ¬ hh < Z.z := by have := ZZ.out; omega
              simp only [List.append_eq, List.cons_append, List.nil_append]
              go_big_quiet (fail)
              have HBZ : Hid (Below w7.heap.size w7 (wc.drewN nq)) := below_drewN' HBQ.out _
              clear qa qb qc qd v1 p0 p1 z0 z1 z2 z3 z4 ac0 ac1 ac2 ac3 ac4 bc0 bc1 bc2 bc3 bc4 hZT
              go_wp2
              go_roundw
              case rel => exact ⟨k + 1, by omega, by go_num, HBZ.out⟩
              case measure => simp [intOf]; omega
            · obtain rfl : n = k := by omega
              replace HB := Lib.hid (HB.out.trans (hb.mono HB.out.size))
              replace U := Lib.hid (U.out.keep hb)
              replace F := Lib.hid (F.out.keep hb)
              replace TB := Lib.hid (TB.out.keep hb)
              replace T1 := Lib.hid (T1.out.keep hb)
              clear hb
              obtain ⟨FL, hFL⟩ : ∃ FL, FL = Bell.flown l (lev H p) v t := ⟨_, rfl⟩
              have HRP : Hid (Bell.repair (2 * v) FL = FL) := by show _ = _; rw [hFL]; exact fly_repair HPG.out.1 HR.out.1 HR.out.2 (by have := HV.out; omega) HF.out.symm
              have HFT : Hid (TrAt wr (some ⟨b1, o1, none⟩) n FL) := by show TrAt _ _ _ _; rw [hFL]; exact T1.out
              have HGT2 : Hid (Bell.GoodTr FL) := by show Bell.GoodTr _; rw [hFL]; exact HGT.out
              clear hFL T1 HGT
              have hv1 := HV.out.1; have hv2 := HV.out.2
              go_wp2_with (at_builtin; refine wpList_fixes rfl _ _ rfl ⟨_, rfl⟩ rfl (HFT.out.keep ((Below.refl _ _).alloc (Nat.le_refl _) _)) (by omega) (by omega) ?_; intro gw cw w8 hE hfx hc1 hc2)
              have hb : Below wr.heap.size wr w8 := ((Below.refl _ _).alloc (Nat.le_refl _) _).trans (hE.below.mono (by simp))
              clear hE
              have HFX := Lib.hid hfx
              have HC := Lib.hid (And.intro hc1 hc2)
              clear hfx hc1 hc2
              replace HB := Lib.hid (HB.out.trans (hb.mono HB.out.size))
              replace U := Lib.hid (U.out.keep hb)
              replace F := Lib.hid (F.out.keep hb)
              replace TB := Lib.hid (TB.out.keep hb)
              replace HFT := Lib.hid (HFT.out.keep hb)
              clear hb
              go_wp2_with fail
              refine (Repaired_any gw 0 n cw FL (2 * v) w8 HFX.out HGT2.out HC.out.1 HC.out.2).mono ?_
              rintro e w9 ⟨hrp, hb⟩
              have hrp2 := (hrp.2 (withinE_in (by omega) (by omega))).2
              rw [HRP.out, HFX.out.1] at hrp2
              obtain ⟨gz, rfl, hfz⟩ := hrp2 (by omega)
              have HZT : Hid (TrAt w9 (some ⟨gz, 0, none⟩) n FL) := ⟨HFX.out.1, fun _ => ⟨gz, 0, rfl, hfz⟩⟩
              clear hrp hrp2 hfz hv1 hv2 HC
              have HFL : Hid (FL.length = n) := HFX.out.1
              clear HFX
              replace HB := Lib.hid (HB.out.trans (hb.mono HB.out.size))
              replace U := Lib.hid (U.out.keep hb)
              replace F := Lib.hid (F.out.keep hb)
              replace TB := Lib.hid (TB.out.keep hb)
              replace HFT := Lib.hid (HFT.out.keep hb)
              clear hb
              go_wp2_with fail
              refine (back_any (some ⟨gz, 0, none⟩) n n FL w9 HZT.out (by omega)).mono ?_
              rintro e wd ⟨Ab, cb, rfl, hbk, _, hb⟩
              have BK := Lib.hid hbk
              clear hbk
              replace HB := Lib.hid (HB.out.trans (hb.mono HB.out.size))
              replace U := Lib.hid (U.out.keep hb)
              replace F := Lib.hid (F.out.keep hb)
              replace TB := Lib.hid (TB.out.keep hb)
              replace HFT := Lib.hid (HFT.out.keep hb)
              clear hb
              go_wp2_with fail
              refine (back_any (some ⟨b1, o1, none⟩) n _ FL wd HFT.out (by omega)).mono ?_
              rintro e we ⟨Ac, cc, rfl, hck, _, hb⟩
              have CK := Lib.hid hck
              clear hck
              replace HB := Lib.hid (HB.out.trans (hb.mono HB.out.size))
              replace U := Lib.hid (U.out.keep hb)
              replace F := Lib.hid (F.out.keep hb)
              replace TB := Lib.hid (TB.out.keep hb)
              replace BK := Lib.hid (BK.out.keep hb)
              clear hb
              go_wp2_with fail
              refine (refSameTrack_any Ab Ac n n cb cc FL FL we BK.out CK.out (by omega)).mono ?_
              rintro e wf ⟨⟨b, rfl, hbb⟩, hb⟩
              have hbt : b = true := hbb.2 rfl
              subst hbt
              clear hbb
              replace HB := Lib.hid (HB.out.trans (hb.mono HB.out.size))
              replace U := Lib.hid (U.out.keep hb)
              replace F := Lib.hid (F.out.keep hb)
              replace TB := Lib.hid (TB.out.keep hb)
              clear hb
              go_wp2_with fail
              refine (awake2_any wf U.out F.out TB.out).mono ?_
              rintro e wZ ⟨rfl, hb⟩
              replace HB := Lib.hid (HB.out.trans (hb.mono HB.out.size))
              clear hb
              go_wp2
              go_ret
              exact ⟨rfl, HB.out⟩
end Go.Proofs.YtmafmebcgmegeaaGreatDoor
