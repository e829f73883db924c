/- Part. -/
import Derived.Test.YtmafmebcgmegeaaGreatDoorGz1
import Derived.Test.YtmafmebcgmegeaaGreatDoorGz17
import Derived.Test.YtmafmebcgmegeaaGreatDoorGz18
import Derived.Test.YtmafmebcgmegeaaGreatDoorGz14
import Derived.Test.YtmafmebcgmegeaaGreatDoorGz16
namespace Go.Proofs.YtmafmebcgmegeaaGreatDoor
open Go.RowKit Go.Sort
theorem goodSp_of {p : List Bell.Sp} (h : procE p = 0) : Bell.GoodSp p /\ p.length <= 8 /\ ∀ i, i < p.length -> (Bell.spAt p i).d <= 400000 := by
 obtain ⟨h1, h2⟩ := andE_zero h; obtain ⟨a, b⟩ := lengthE_zero2 (k := 8) h1; have hz := firstR_zero h2; have hs : ∀ i, i < p.length -> withinE (Bell.spAt p i).d 0 400000 = 0 /\ withinE (Bell.spAt p i).h 0 20000 = 0 /\ withinE (Bell.spAt p i).p 1 100 = 0 := fun i hi => firstE3_z (andE_zero (hz i hi)).1
 refine ⟨⟨a, ?_, ?_, fun i hi => withinE_zero (hs i hi).2.1, fun i hi => withinE_zero (hs i hi).2.2⟩, b, fun i hi => (withinE_zero (hs i hi).1).2⟩
 ·have h4 := (andE_zero (hz 0 (by omega))).2
  split at h4
  ·cases h4
  ·rename_i h5
   simp at h5
   exact h5
 ·have up : ∀ i, i + 1 < p.length -> (Bell.spAt p i).d < (Bell.spAt p (i + 1)).d := fun i hi => by
   have h4 := (andE_zero (hz (i + 1) hi)).2; rw [Nat.add_sub_cancel] at h4
   split at h4
   ·cases h4
   ·omega
  intro i j hij hj
  induction j with
  | zero => omega
  | succ j ih =>
    have h1 := up j hj; rcases Nat.lt_or_ge i j with h2 | h2
    ·have := ih h2 (by omega); omega
    ·obtain rfl : i = j := by omega
     exact h1
def flownE (l : List Bell.Pt) (p : List Bell.Sp) (v t : Int) : Int := firstE [pathE l, procE p, withinE v 1 1000, withinE t 0 100000000]
def flownF (l : List Bell.Pt) (p : List Bell.Sp) (v t : Int) : Int := if 400000 < Bell.lenTo l (l.length - 1) then 4 else trackE (Bell.flown l p v t)
def FlownPost (l : List Bell.Pt) (p : List Bell.Sp) (v t : Int) (e : Ending) (w' : World) : Prop :=
 (flownE l p v t ≠ 0 -> e = .returned (.tuple #[.slice none 0 0, .int .i64 (flownE l p v t)])) /\
 (flownE l p v t = 0 -> (flownF l p v t ≠ 0 -> e = .returned (.tuple #[.slice none 0 0, .int .i64 (flownF l p v t)])) /\
  (flownF l p v t = 0 -> ∃ g, e = .returned (.tuple #[.slice (some ⟨g, 0, none⟩) l.length l.length, .int .i64 0]) /\ FixesAt w' g 0 l.length (Bell.flown l p v t)))
theorem firstE4_z {x y z u : Int} (h : firstE [x, y, z, u] = 0) : x = 0 /\ y = 0 /\ z = 0 /\ u = 0 := ⟨firstE_zero h x (by simp), firstE_zero h y (by simp), firstE_zero h z (by simp), firstE_zero h u (by simp)⟩
theorem flown_take {l : List Bell.Pt} {p : List Bell.Sp} {v t : Int} {j : Nat} (h : j < l.length) : (Bell.flown l p v t).take (j + 1) = (Bell.flown l p v t).take j ++ [Bell.flownAt l p v t j] := by
 have e : (Bell.flown l p v t)[j]? = some (Bell.flownAt l p v t j) := by simp [Bell.flown, h]
 rw [List.take_add_one, e]
 rfl
theorem setCells_cell_far {g k i : Nat} (h : g ≠ k) : ∀ (vs : List Value) (o : Nat) (w : World) (s : Option Nat), (w.setCells k o vs).cell? ⟨g, i, s⟩ = w.cell? ⟨g, i, s⟩
 | [], _, _, _ => rfl
 | v :: r, o, w, s => by
   have e := setCells_cell_far (i := i) h r (o + 1) (w.setCell ⟨k, o, none⟩ v) s; refine e.trans ?_; exact cell_same (p := ⟨g, i, s⟩) (Below.heap_setCell w ⟨k, o, none⟩ v g h)
set_option maxHeartbeats 1000000 in
set_option maxRecDepth 100000 in
theorem Flown_any (b o n c : Nat) (PA : Option Addr) (pn pc : Nat) (l : List Bell.Pt) (p : List Bell.Sp) (v t : Int) (w : World) (hl : PtsAt w (some ⟨b, o, none⟩) n l) (hp : SpsAt w PA pn p) (hcap : n <= c) (hc2 : c <= 9223372036854775807) (hpn : pn <= 140737488351232) (hn : n <= 140737488351232) :
  Calls Tryz.prog 48 #[.slice (some ⟨b, o, none⟩) n c, .slice PA pn pc, .int .i64 v, .int .i64 t] w fun e w' => FlownPost l p v t e w' /\ Below w.heap.size w w' := by
 obtain ⟨i0, hi, hz0, hz1, hz2⟩ := info_parts infoFix; have HL := lh hl; have HP := lh hp; have hlm : Hid (l.length = n) := hl.1; obtain ⟨PP, hPP⟩ : ∃ P : Ending -> World -> Prop, P = fun e w' => FlownPost l p v t e w' := ⟨_, rfl⟩
 have HPP : Hid (∀ e w', FlownPost l p v t e w' -> PP e w') := fun e w' h => by rw [hPP]; exact h
 refine Calls.mono (R := fun e w' => PP e w' /\ Below w.heap.size w w') ?_ (fun e w' h => by rw [hPP] at h; exact h); have HB : Hid (Below w.heap.size w w) := Below.refl _ _; clear hl hp hPP
 go_enter Tryz.func48, Tryz.ntmps48
 go_wp2_with fail
 refine (checkPath_any (some ⟨b, o, none⟩) n c l w HL.out hn).mono ?_; rintro e w1 ⟨rfl, hb1⟩; replace HB := lh (HB.out.trans (hb1.mono HB.out.size)); clear hb1
 go_wp2_with fail
 refine (CheckProcedure_any PA pn pc p w1 (HP.out.keep HB.out) hpn).mono ?_; rintro e w2 ⟨rfl, hb2⟩; replace HB := lh (HB.out.trans (hb2.mono HB.out.size)); clear hb2
 go_wp2_with fail
 refine (srcSpeed_st v w2).mono ?_; rintro e wA ⟨rfl, hw2⟩; subst hw2
 go_wp2_with fail
 refine (srcTick_st t wA).mono ?_; rintro e wB ⟨rfl, hw2⟩; subst hw2; obtain ⟨E, hE⟩ : ∃ E, E = flownE l p v t := ⟨_, rfl⟩; have HE := lh hE
 go_wp2_with fail
 obtain ⟨w3, hw3⟩ : ∃ W, W = (wB.alloc (.cells #[.int .i64 (pathE l), .int .i64 (procE p), .int .i64 (withinE v 1 1000), .int .i64 (withinE t 0 100000000)] 37)) := ⟨_, rfl⟩; rw [<- hw3]; have ES : Hid (Blk w3 (wB.heap.size) 37 #[.int .i64 (pathE l), .int .i64 (procE p), .int .i64 (withinE v 1 1000), .int .i64 (withinE t 0 100000000)]) := by show Blk _ _ _ _; rw [hw3]; exact Blk.new _ _ _
 have hb3 : Below wB.heap.size wB w3 := by rw [hw3]; exact ((Below.refl _ _).alloc (Nat.le_refl _) _)
 obtain ⟨ge, hge⟩ : ∃ g, g = wB.heap.size := ⟨_, rfl⟩; have HGw3 : Hid (ge = wB.heap.size) := hge; rw [<- hge] at ES
 try rw [<- hge]
 clear hw3 hge; replace HB := lh (HB.out.trans (hb3.mono HB.out.size)); clear hb3; refine (first4 _ _ (pathE l) (procE p) (withinE v 1 1000) (withinE t 0 100000000) _ (ES.out.cell 0) (ES.out.cell 1) (ES.out.cell 2) (ES.out.cell 3)).mono ?_; rw [show firstE [pathE l, procE p, withinE v 1 1000, withinE t 0 100000000] = E from hE.symm]; rintro e w4 ⟨rfl, rfl⟩; clear ES hE
 by_cases h0 : E = 0
 case neg =>
  have hr : Hid (FlownPost l p v t (.returned (.tuple #[.slice none 0 0, .int .i64 E])) w3) := ⟨fun _ => by rw [<- HE.out], fun h => absurd (HE.out.trans h) h0⟩; go_wp2
  (try simp only [Exit.inBlock, Exit.then])
  refine bodyPost_ret (v := .tuple #[.slice none 0 0, .int .i64 E]) (by simp [results, Tryz.results48, go_sem, asAddr]) rfl ?_; exact ⟨HPP.out _ _ hr.out, HB.out⟩
 obtain ⟨e1, e2, e3, e4⟩ := firstE4_z (HE.out.symm.trans h0); have HGP := lh (goodPath_of e1); have HGS := lh (goodSp_of e2); obtain ⟨pb, po, hPA, _⟩ := HP.out.2 (by have h1 := HGS.out.1.lo; have h2 := HP.out.1; omega); subst hPA; obtain ⟨v0, v1⟩ := withinE_zero e3; obtain ⟨t0, t1⟩ := withinE_zero e4; have HE0 : Hid (flownE l p v t = 0) := HE.out.symm.trans h0; subst h0; have gl := HGP.out.lo; have gh := HGP.out.hi; rw [hlm.out] at gl gh; obtain ⟨m, rfl⟩ : ∃ m, n = m + 1 := ⟨n - 1, by omega⟩; clear e1 e2 e3 e4 hn HE
 go_wp2_with fail
 refine (lengths_any b o (m + 1) c l w3 (HL.out.keep HB.out) HGP.out hcap hc2).mono ?_; rintro e w5 ⟨gL, rfl, hgL, hcL, hb5⟩; have HGL : Hid (w3.heap.size <= gL) := hgL; have HCL := lh hcL; replace HB := lh (HB.out.trans (hb5.mono HB.out.size)); clear hb5; have hcm := hcL m (by omega); obtain ⟨N, hN⟩ : ∃ N, N = Bell.lenTo l m := ⟨_, rfl⟩; rw [<- hN] at hcm; have HN := lh hN; have hmi : (m : Int) < (m : Int) + 1 := by omega
 clear hgL hcL hN; have HF : Hid (flownF l p v t = if 400000 < N then 4 else trackE (Bell.flown l p v t)) := by show _ = _; unfold flownF; rw [hlm.out, Nat.add_sub_cancel, HN.out]
 by_cases hbig : 400000 < N
 ·have hd : decide (400000 < N) = true := decide_eq_true hbig; have hF4 : flownF l p v t = 4 := by rw [HF.out, if_pos hbig]
  have hr : Hid (FlownPost l p v t (.returned (.tuple #[.slice none 0 0, .int .i64 4])) w5) := ⟨fun h => absurd HE0.out h, fun _ => ⟨fun _ => by rw [hF4], fun h => by rw [hF4] at h; cases h⟩⟩; clear hbig hF4; go_wp2
  (try simp only [Exit.inBlock, Exit.then])
  refine bodyPost_ret (v := .tuple #[.slice none 0 0, .int .i64 4]) (by simp [results, Tryz.results48, go_sem, asAddr]) rfl ?_; exact ⟨HPP.out _ _ hr.out, HB.out⟩
 replace HF : Hid (flownF l p v t = trackE (Bell.flown l p v t)) := by show _ = _; rw [HF.out, if_neg hbig]
 have hd : decide (400000 < N) = false := decide_eq_false hbig; have hN4 : Hid (N <= 400000) := by show N <= 400000; omega
 clear hbig
 go_upto_region 8 with (at_make; refine wpList_make_full _ rfl _ _ 67 rfl w5.heap.size 152 i0 (.agg #[.int .i64 0, .int .i64 0, .int .i64 0, .int .i64 0, .int .i64 0]) 5 Tryz.underlying67 hi hz0 hz1 _ _ _ _ (m + 1) rfl rfl rfl rfl (by rw [hz2]; omega) (by unfold maxLen; omega) (Nat.le_refl _) ?_; intro w6 hown hg6)
 obtain ⟨cur, hbk, hcs, hgb, _⟩ := own_full hown; have hb6 : Below w5.heap.size w5 w6 := Below.grown (Below.refl _ _) hg6 (Nat.le_refl _) (fun k hk => by cases hk); have hgLl : gL < w5.heap.size := World.block_lt_of_cell? _ _ hcm; obtain ⟨gr, hgr⟩ : ∃ g, g = w5.heap.size := ⟨_, rfl⟩; rw [<- hgr] at hbk hgb ⊢; have HGR : Hid (w.heap.size <= gr) := by show _ <= _; rw [hgr]; exact HB.out.size
 have hne : gL ≠ gr := by rw [hgr]; omega
 have HC6 : Hid (∃ cur, Blk w6 gr 152 cur /\ cur.size = (m + 1) * 5) := ⟨cur, hbk, hcs⟩; have HF6 : Hid (FixesAt w6 gr 0 0 ((Bell.flown l p v t).take 0)) := ⟨rfl, fun i hi => by omega⟩
 have HL6 : Hid (∀ i, i < m + 1 -> w6.cell? ⟨gL, i, none⟩ = some (.int .i64 (Bell.lenTo l i))) := fun i hi => by
  rw [hb6.cell (p := ⟨gL, i, none⟩) hgLl]; exact HCL.out i hi
 replace HB := lh (HB.out.trans (hb6.mono HB.out.size)); clear hb6; clear hown hg6 hgb hgr hbk hcs hcm HCL HGL hgLl; go_wp2
 go_loopw [13, 14, 15, 44] (fun _ _ _ k wr => ∃ j : Nat, j <= m + 1 /\ k = .int .i64 j /\ Hid (FixesAt wr gr 0 j ((Bell.flown l p v t).take j)) /\ Hid (∃ cur, Blk wr gr 152 cur /\ cur.size = (m + 1) * 5) /\ Hid (∀ i, i < m + 1 -> wr.cell? ⟨gL, i, none⟩ = some (.int .i64 (Bell.lenTo l i))) /\ Hid (Below w.heap.size w wr)) (fun _ _ _ k _ => m + 1 - (intOf k).toNat)
 case atStart => exact ⟨0, Nat.zero_le _, rfl, HF6, HC6, HL6, HB⟩
 case round =>
  obtain ⟨j, hj, rfl, hF, hC, hLn, hb⟩ := hrel; clear HF6 HC6 HL6 HB
  by_cases hlt : j < m + 1
  ·have HB := hb; have hcj := hLn.out j hlt; have hjl : j < l.length := by rw [hlm.out]; exact hlt
   have hL0 := Bell.lenTo_nonneg l j; have hL1 : Bell.lenTo l j <= 400000 := Int.le_trans (Bell.lenTo_mono l (show j <= m by omega)) (by rw [<- HN.out]; exact hN4.out); have HX : Hid (Bell.flownAt l p v t j = ⟨t + (Bell.lenTo l j + v - 1) / v, (Bell.ptAt l j).x, (Bell.ptAt l j).y, Bell.heightAt p (Bell.lenTo l j), Bell.powerAt p (Bell.lenTo l j)⟩) := rfl; obtain ⟨L, hL⟩ : ∃ L, L = Bell.lenTo l j := ⟨_, rfl⟩; rw [<- hL] at hcj hL0 hL1 HX; have HST := lh (fun W (hb : Below w.heap.size w W) => stepAt_any pb po pn pc p L W (HP.out.keep hb) HGS.out.1 (by rw [<- HP.out.1]; exact HGS.out.2.1) HGS.out.2.2 hL0); obtain ⟨H, hH⟩ : ∃ x, x = Bell.heightAt p L := ⟨_, rfl⟩; obtain ⟨O, hO⟩ : ∃ x, x = Bell.powerAt p L := ⟨_, rfl⟩; rw [<- hH, <- hO] at HST HX; clear hL hH hO
   go_upto_region 11 with fail
   go_wp2_with fail
   refine (HST.out wr HB.out).mono ?_; rintro e wa ⟨rfl, hba⟩; obtain ⟨cur, hbk, hcs⟩ := hC.out; have HBK := lh hbk; have HCS := lh hcs; have HLN : Hid (∀ i, i < m + 1 -> wa.cell? ⟨gL, i, none⟩ = some (.int .i64 (Bell.lenTo l i))) := fun i hi => (hba.cell (p := ⟨gL, i, none⟩) (World.block_lt_of_cell? _ _ (hLn.out i hi))).trans (hLn.out i hi)
   replace HB := lh (HB.out.trans (hba.mono HB.out.size)); replace hF := lh (hF.out.keep hba); replace HBK := lh (HBK.out.below hba); clear hba; clear hbk hcs hC hLn hcj hb HST
   go_upto_region 12 with fail
   obtain ⟨wb, hwb⟩ : ∃ W, W = (wa.alloc (.cells #[.int .i64 L, .int .i64 H, .int .i64 O] 166)) := ⟨_, rfl⟩; rw [<- hwb]; have ST : Hid (Blk wb (wa.heap.size) 166 #[.int .i64 L, .int .i64 H, .int .i64 O]) := by show Blk _ _ _ _; rw [hwb]; exact Blk.new _ _ _
   have hbb : Below wa.heap.size wa wb := by rw [hwb]; exact ((Below.refl _ _).alloc (Nat.le_refl _) _)
   obtain ⟨gs, hgs⟩ : ∃ g, g = wa.heap.size := ⟨_, rfl⟩; have HGwb : Hid (gs = wa.heap.size) := hgs; rw [<- hgs] at ST
   try rw [<- hgs]
   clear hwb hgs; have HLN2 : Hid (∀ i, i < m + 1 -> wb.cell? ⟨gL, i, none⟩ = some (.int .i64 (Bell.lenTo l i))) := fun i hi => (hbb.cell (p := ⟨gL, i, none⟩) (World.block_lt_of_cell? _ _ (HLN.out i hi))).trans (HLN.out i hi)
   replace HB := lh (HB.out.trans (hbb.mono HB.out.size)); replace hF := lh (hF.out.keep hbb); replace HBK := lh (HBK.out.below hbb); clear hbb; clear HLN; obtain ⟨b', o', e', hcc⟩ := (HL.out.keep HB.out).2 (by omega)
   cases e'
   obtain ⟨c1, c2⟩ := hcc j hlt; obtain ⟨x, hx⟩ : ∃ x, x = (Bell.ptAt l j).x := ⟨_, rfl⟩; obtain ⟨y, hy⟩ : ∃ y, y = (Bell.ptAt l j).y := ⟨_, rfl⟩; rw [<- hx] at c1 HX; rw [<- hy] at c2 HX; have hq0 : (L + v - 1).tdiv v = (L + v - 1) / v := Int.tdiv_eq_ediv_of_nonneg (by omega); have hq1 : 0 <= (L + v - 1) / v := Int.ediv_nonneg (by omega) (by omega); have hq2 : (L + v - 1) / v <= L + v - 1 := Int.ediv_le_self _ (by omega); obtain ⟨Q, hQ⟩ : ∃ Q, Q = (L + v - 1) / v := ⟨_, rfl⟩; rw [<- hQ] at hq0 hq1 hq2 HX; have hv0 : ¬ v = 0 := by omega
   have s1 : IntKind.i64.wrap (L + v) = L + v := IntWalk.i64_in _ (by omega); have s2 : IntKind.i64.wrap (L + v - 1) = L + v - 1 := IntWalk.i64_in _ (by omega); have s3 : IntKind.i64.wrap Q = Q := IntWalk.i64_in _ (by omega); have s4 : IntKind.i64.wrap (t + Q) = t + Q := IntWalk.i64_in _ (by omega); have hji : (j : Int) < (m : Int) + 1 := by omega
   have hj0 : (0 : Int) <= (j : Int) := by omega
   have k1 := fun d os => cell_regrown c1 d os
   have k2 := fun d os => cell_regrown c2 d os
   have k3 := fun d os => cell_regrown (ST.out.cell 1) d os
   have k4 := fun d os => cell_regrown (ST.out.cell 2) d os
   clear hcc hx hy hQ hq1 hq2 c1 c2 hL0 hL1; refine wp_region_below_tail 26 (by kernel_rfl) (by kernel_rfl) ?_; simp only [List.take_succ_cons, List.take_zero, List.drop_succ_cons, List.drop_zero]
   repeat (go_big_quiet_step (fail))
   refine wpQuiet_nil ?_; intro wc hq1; obtain ⟨⟨dq, osq⟩, hq2⟩ := hq1; have hbc := below_regrown wb dq osq; rw [<- hq2] at hbc; clear hq2; have HLN3 : Hid (∀ i, i < m + 1 -> wc.cell? ⟨gL, i, none⟩ = some (.int .i64 (Bell.lenTo l i))) := fun i hi => (hbc.cell (p := ⟨gL, i, none⟩) (World.block_lt_of_cell? _ _ (HLN2.out i hi))).trans (HLN2.out i hi)
   replace HB := lh (HB.out.trans (hbc.mono HB.out.size)); replace hF := lh (hF.out.keep hbc); replace HBK := lh (HBK.out.below hbc); clear hbc; clear k1 k2 k3 k4 s1 s2 s3 s4 hq0 hv0 HLN2 ST; obtain ⟨F, hFe⟩ : ∃ F : Bell.Fx, F = ⟨t + Q, x, y, H, O⟩ := ⟨_, rfl⟩; have HFE : Hid (Bell.flownAt l p v t j = F) := by show _ = _; rw [HX.out, hFe]
   have hFV : Hid (fxV F = #[.int .i64 (t + Q), .int .i64 x, .int .i64 y, .int .i64 H, .int .i64 O]) := by show _ = _; rw [hFe]; rfl
   have hth : wc.there gr (j * 5) (fxV F).size := fun k hk => by
    have hk5 : k < 5 := hk; exact ⟨by rw [HBK.out.cell, Array.getElem?_eq_getElem (by rw [HCS.out]; omega)]; rfl, HBK.out.frozen _⟩
   obtain ⟨cur2, hB2, hs2, q1, q2, q3⟩ := Blk.setCells (fxV F).toList (j * 5) HBK.out; have hfx := fixes_cells HBK.out hF.out; have htl : ((Bell.flown l p v t).take j).length = j := hF.out.1
   have HF2 : Hid (FixesAt (wc.setCells gr (j * 5) (fxV F).toList) gr 0 (j + 1) ((Bell.flown l p v t).take (j + 1))) := by
    show FixesAt _ _ _ _ _
    rw [flown_take hjl, HFE.out]
    have := fixes_snoc (l := (Bell.flown l p v t).take j) (p := F) hB2 (fun i hi k hk => by
     rw [htl] at hi; rw [q1 _ (by omega)]; exact hfx i (by rw [htl]; exact hi) k hk) (fun k hk => by
     rw [htl, q3 k (by simpa [fxV] using hk) (by rw [HCS.out]; omega)]
     simp)
    rwa [htl] at this
   have HB2 : Hid (Below w.heap.size w (wc.setCells gr (j * 5) (fxV F).toList)) := HB.out.setCells' HGR.out _ _; have HC2 : Hid (∃ cur, Blk (wc.setCells gr (j * 5) (fxV F).toList) gr 152 cur /\ cur.size = (m + 1) * 5) := ⟨_, hB2, by rw [hs2, HCS.out]⟩; have HLN4 : Hid (∀ i, i < m + 1 -> (wc.setCells gr (j * 5) (fxV F).toList).cell? ⟨gL, i, none⟩ = some (.int .i64 (Bell.lenTo l i))) := fun i hi => (setCells_cell_far hne _ _ _ _).trans (HLN3.out i hi)
   clear hB2 hs2 q1 q2 q3 hfx htl HLN3
   go_upto_region 13 with (refine wpList_store_mid rfl 152 _ _ rfl gr (j * 5) (fxV F) rfl (congrArg Value.agg hFV.out.symm) hth (fxV_info F) (fxV_one F) ?_)
   clear hth; obtain ⟨wd, hwd⟩ : ∃ X, X = wc.setCells gr (j * 5) (fxV F).toList := ⟨_, rfl⟩; rw [<- hwd] at HF2 HB2 HC2 HLN4 ⊢; clear hwd; go_wp2; go_roundw
   case rel => exact ⟨j + 1, by omega, by go_num, HF2, HC2, HLN4, HB2⟩
   case measure => simp [intOf]; omega
  ·obtain rfl : j = m + 1 := by omega
   have hw : (Bell.flown l p v t).take (m + 1) = Bell.flown l p v t := List.take_of_length_le (by rw [Bell.flown_len, hlm.out]; omega); have HFW : Hid (FixesAt wr gr 0 (m + 1) (Bell.flown l p v t)) := by have := hF.out; rw [hw] at this; exact this
   have HCK := lh (CheckTrack_any (some ⟨gr, 0, none⟩) (m + 1) (m + 1) (Bell.flown l p v t) wr ⟨HFW.out.1, fun _ => ⟨gr, 0, rfl, HFW.out⟩⟩ (by omega)); obtain ⟨E, hE⟩ : ∃ E, E = trackE (Bell.flown l p v t) := ⟨_, rfl⟩; rw [<- hE] at HCK HF; clear hw hF hC hLn hE
   go_wp2_with fail
   refine HCK.out.mono ?_; rintro e wa ⟨rfl, hba⟩; have HB := hb; replace HB := lh (HB.out.trans (hba.mono HB.out.size)); replace HFW := lh (HFW.out.keep hba); clear hba
   by_cases hE0 : E = 0
   case neg =>
    have hr : Hid (FlownPost l p v t (.returned (.tuple #[.slice none 0 0, .int .i64 E])) wa) := ⟨fun h => absurd HE0.out h, fun _ => ⟨fun _ => by rw [HF.out], fun h => absurd (HF.out.symm.trans h) hE0⟩⟩; go_wp2
    (try simp only [Exit.inBlock, Exit.then])
    refine bodyPost_ret (v := .tuple #[.slice none 0 0, .int .i64 E]) (by simp [results, Tryz.results48, go_sem, asAddr]) rfl ?_; exact ⟨HPP.out _ _ hr.out, HB.out⟩
   subst hE0; have hr : Hid (∀ W, FixesAt W gr 0 (m + 1) (Bell.flown l p v t) -> FlownPost l p v t (.returned (.tuple #[.slice (some ⟨gr, 0, none⟩) (m + 1) (m + 1), .int .i64 0])) W) := fun W hW => ⟨fun h => absurd HE0.out h, fun _ => ⟨fun h => absurd HF.out h, fun _ => ⟨gr, by rw [hlm.out], by rw [hlm.out]; exact hW⟩⟩⟩
   go_wp2
   (try simp only [Exit.inBlock, Exit.then])
   refine bodyPost_ret (v := .tuple #[.slice (some ⟨gr, 0, none⟩) (m + 1) (m + 1), .int .i64 0]) (by simp [results, Tryz.results48, go_sem, asAddr]) rfl ?_; exact ⟨HPP.out _ _ (hr.out _ HFW.out), HB.out⟩
theorem mapGet_app {es fs : List (ByteArray × Value)} {s : ByteArray} {v : Value} (h : mapGet es s = some v) : mapGet (es ++ fs) s = some v := by
 unfold mapGet at *; rw [List.find?_append]
 cases hf : es.find? (fun x => decide (x.1 = s)) with
 | none => rw [hf] at h; cases h
 | some y => rw [hf] at h; exact h
theorem kesTo_has {ts : List Tp} : ∀ {n k : Nat}, Distinct ts n -> k < n -> mapGet (kesTo ts n) (tpAt ts k).nm = some (.agg (tpAt ts k).cs)
 | 0, _, _, h => absurd h (Nat.not_lt_zero _)
 | n + 1, k, hd, h => by
   rw [kesTo_succ]; rcases Nat.lt_or_ge k n with h' | h'
   ·exact mapGet_app (kesTo_has (fun i j a b => hd i j a (by omega)) h')
   ·obtain rfl : k = n := by omega
    exact mapGet_snoc (kesTo_lacks hd h)
theorem flAt_track {kes : List (ByteArray × Value)} {fs : List Fl} {n i : Nat} (hl : fs.length = n) (h : flsE kes fs = 0) (hi : i < n) : Bell.GoodTr (flAt fs i).tr := by
 have h1 := firstR_zero (andE_zero h).2 i (by omega); exact goodTr_of (firstE4_z h1).2.2.2
structure Listed (ts : List Tp) (tn : Nat) (fs : List Fl) (fn : Nat) (r : Bell.Pl) (V : Nat -> Int) : Prop where
 names : Distinct ts tn
 few : tn <= 8
 fine : flsE (kesTo ts tn) fs = 0
 place : GoodPl r
 val : ∀ i, i < fn -> ∃ k, k < tn /\ (tpAt ts k).nm = (flAt fs i).ty /\ V i = Bell.expoOf (tpAt ts k).T (flAt fs i).tr r 0 100000000
set_option maxHeartbeats 1000000 in
set_option maxRecDepth 100000 in
theorem exposed_ok (A : Option Addr) (tn tc : Nat) (ts : List Tp) (FA : Option Addr) (fn fc : Nat) (fs : List Fl) (r : Bell.Pl) (V : Nat -> Int) (w : World) (hts : TpsAt w A tn ts) (hfs : FlsAt w FA fn fs) (hL : Listed ts tn fs fn r V) :
  Calls Tryz.prog 139 #[.slice A tn tc, .slice FA fn fc, .agg (plV r)] w
   fun e w' => ∃ g, e = .returned (.tuple #[.slice (some ⟨g, 0, none⟩) fn fn, .int .i64 0]) /\ LoudsAt w' g fn fs V /\ Below w.heap.size w w' := by
 have HTS := lh hts; have HFS := lh hfs; have HL := lh hL
 have hfn : fn <= 16 := by
  have h1 := (andE_zero hL.fine).1; unfold atMostE at h1; rw [hfs.1] at h1
  split at h1 <;> omega
 unfold plV; clear hts hfs hL
 go_enter Tryz.func139, Tryz.ntmps139
 go_upto_region 1 with fail
 obtain ⟨w1, hw1⟩ : ∃ W, W = (w.alloc (.cells #[.int .i64 r.x, .int .i64 r.y, .int .i64 r.z] 28)) := ⟨_, rfl⟩; rw [<- hw1]; have B5 : Hid (Blk w1 (w.heap.size) 28 #[.int .i64 r.x, .int .i64 r.y, .int .i64 r.z]) := by show Blk _ _ _ _; rw [hw1]; exact Blk.new _ _ _
 have hb1 : Below w.heap.size w w1 := by rw [hw1]; exact ((Below.refl _ _).alloc (Nat.le_refl _) _)
 obtain ⟨g5, hg5⟩ : ∃ g, g = w.heap.size := ⟨_, rfl⟩; have HGw1 : Hid (g5 = w.heap.size) := hg5; rw [<- hg5] at B5
 try rw [<- hg5]
 clear hw1 hg5; have HB : Hid (Below w.heap.size w w1) := hb1; clear hb1
 go_wp2_with fail
 refine (named_ok A tn tc ts w1 (HTS.out.keep HB.out) HL.out.names HL.out.few).mono ?_; rintro e w2 ⟨mb, rfl, hkn, hb⟩; have HKN := lh hkn; replace HB := lh (HB.out.trans (hb.mono HB.out.size)); replace B5 := lh (B5.out.below hb); clear hb; clear hkn
 go_upto_region 2 with fail
 obtain ⟨w3, hw3⟩ : ∃ W, W = (w2.alloc (.cells #[.map (some mb)] 219)) := ⟨_, rfl⟩; rw [<- hw3]; have B8 : Hid (Blk w3 (w2.heap.size) 219 #[.map (some mb)]) := by show Blk _ _ _ _; rw [hw3]; exact Blk.new _ _ _
 have hb3 : Below w2.heap.size w2 w3 := by rw [hw3]; exact ((Below.refl _ _).alloc (Nat.le_refl _) _)
 obtain ⟨g8, hg8⟩ : ∃ g, g = w2.heap.size := ⟨_, rfl⟩; have HGw3 : Hid (g8 = w2.heap.size) := hg8; rw [<- hg8] at B8
 try rw [<- hg8]
 clear hw3 hg8; replace HB := lh (HB.out.trans (hb3.mono HB.out.size)); replace B5 := lh (B5.out.below hb3); replace HKN := lh (HKN.out.keep hb3); clear hb3
 go_upto_region 4 with fail
 have HP : Hid (∀ W, Calls Tryz.prog 94 #[.agg #[.int .i64 r.x, .int .i64 r.y, .int .i64 r.z]] W fun e w' => e = .returned (.int .i64 0) /\ Below W.heap.size W w') := fun W => by
  have := checkPlace_any r.x r.y r.z W
  rwa [plE_good HL.out.place] at this
 have HC := lh (fun (W : World) (hb : Below w3.heap.size w3 W) => by
  have := checkListed_any FA fn fc fs mb (kesTo ts tn) W (HFS.out.keep (HB.out.trans (hb.mono HB.out.size))) (HKN.out.keep hb)
  rwa [HL.out.fine] at this)
 refine wp_region_grow 5 (by kernel_rfl) (by kernel_rfl) [GR.eq (.map (some mb)), GR.eq (.slice FA fn fc), GR.eq (.int .i64 0), GR.eq (.agg #[.int .i64 r.x, .int .i64 r.y, .int .i64 r.z]), GR.eq (.int .i64 0)] 34 rfl (by kernel_rfl) ?_ ?_
 ·refine ⟨?_, ?_, ?_, ?_, ?_, trivial⟩
  ·intro a W hE hd ho; have e8 : a.tmps[8]?.getD undef = .pointer (some ⟨g8, 0, none⟩) := ho 8 (by kernel_rfl); have C := (B8.out.below hE); have k0 := C.cell 0; simp only [List.getElem?_toArray, List.getElem?_cons_zero] at k0; exact gs_same (v := .map (some mb)) (by go_simp) rfl
  ·intro a W hE hd ho; have e1 : a.tmps[1]?.getD undef = .slice FA fn fc := ho 1 (by kernel_rfl); exact gs_same (v := .slice FA fn fc) (by go_simp) rfl
  ·intro a W hE hd ho; have e20 : a.tmps[20]?.getD undef = .map (some mb) := hd 0 20 (by kernel_rfl) (by kernel_rfl); have e21 : a.tmps[21]?.getD undef = .slice FA fn fc := hd 1 21 (by kernel_rfl) (by kernel_rfl); refine gs_call (f := 146) (args := #[.map (some mb), .slice FA fn fc]) (by go_simp) ?_; refine (HC.out W hE).mono ?_; rintro e w' ⟨rfl, hb⟩; exact ⟨_, rfl, hb, rfl⟩
  ·intro a W hE hd ho; have e5 : a.tmps[5]?.getD undef = .pointer (some ⟨g5, 0, none⟩) := ho 5 (by kernel_rfl); have C := (B5.out.below hE); have k0 := C.cell 0; have k1 := C.cell 1; have k2 := C.cell 2; simp only [List.getElem?_toArray, List.getElem?_cons_zero, List.getElem?_cons_succ] at k0 k1 k2; exact gs_same (v := .agg #[.int .i64 r.x, .int .i64 r.y, .int .i64 r.z]) (by go_simp) rfl
  ·intro a W hE hd ho; have e23 : a.tmps[23]?.getD undef = .agg #[.int .i64 r.x, .int .i64 r.y, .int .i64 r.z] := hd 3 23 (by kernel_rfl) (by kernel_rfl); refine gs_call (f := 94) (args := #[.agg #[.int .i64 r.x, .int .i64 r.y, .int .i64 r.z]]) (by go_simp) ?_; refine (HP.out W).mono ?_; rintro e w' ⟨rfl, hb⟩; exact ⟨_, rfl, hb, rfl⟩
 intro vs w4 hE hR; have y0 : vs 0 = .map (some mb) := hR 0 (by omega); have y1 : vs 1 = .slice FA fn fc := hR 1 (by omega); have y2 : vs 2 = .int .i64 0 := hR 2 (by omega); have y3 : vs 3 = .agg #[.int .i64 r.x, .int .i64 r.y, .int .i64 r.z] := hR 3 (by omega); have y4 : vs 4 = .int .i64 0 := hR 4 (by omega); simp only [List.range, List.range.loop, List.foldl_cons, List.foldl_nil, y0, y1, y2, y3, y4, List.drop_succ_cons, List.drop_zero]; simp only [dstAt, List.getElem?_toArray, List.getElem?_cons_zero, List.getElem?_cons_succ, Option.bind_some, Act.put, List.setIfInBounds_toArray, List.set_cons_zero, List.set_cons_succ]; clear y0 y1 y2 y3 y4 hR; have HE2 := hE; replace HB := lh (HB.out.trans (HE2.mono HB.out.size)); replace B5 := lh (B5.out.below HE2); replace HKN := lh (HKN.out.keep HE2); replace B8 := lh (B8.out.below HE2); clear HE2; clear hE HC HP
 go_wp2_with fail
 obtain ⟨w5, hw5⟩ : ∃ W, W = (w4.alloc (.cells #[.int .i64 0, .int .i64 0] 37)) := ⟨_, rfl⟩; rw [<- hw5]; have ES : Hid (Blk w5 (w4.heap.size) 37 #[.int .i64 0, .int .i64 0]) := by show Blk _ _ _ _; rw [hw5]; exact Blk.new _ _ _
 have hb5 : Below w4.heap.size w4 w5 := by rw [hw5]; exact ((Below.refl _ _).alloc (Nat.le_refl _) _)
 obtain ⟨ge, hge⟩ : ∃ g, g = w4.heap.size := ⟨_, rfl⟩; have HGw5 : Hid (ge = w4.heap.size) := hge; rw [<- hge] at ES
 try rw [<- hge]
 clear hw5 hge; replace HB := lh (HB.out.trans (hb5.mono HB.out.size)); replace B5 := lh (B5.out.below hb5); replace HKN := lh (HKN.out.keep hb5); replace B8 := lh (B8.out.below hb5); clear hb5; refine (first2 _ _ 0 0 _ (ES.out.cell 0) (ES.out.cell 1)).mono ?_; rw [show firstE [0, 0] = 0 from rfl]; rintro e w6 ⟨rfl, rfl⟩; clear ES
 go_upto_region 8 with fail
 obtain ⟨w7, hw7⟩ : ∃ W, W = (w5.alloc (.cells #[.int .i64 0, .int .i64 100000000] 93)) := ⟨_, rfl⟩; rw [<- hw7]; have B11 : Hid (Blk w7 (w5.heap.size) 93 #[.int .i64 0, .int .i64 100000000]) := by show Blk _ _ _ _; rw [hw7]; exact Blk.new _ _ _
 have hb7 : Below w5.heap.size w5 w7 := by rw [hw7]; exact ((Below.refl _ _).alloc (Nat.le_refl _) _)
 obtain ⟨ga, hga⟩ : ∃ g, g = w5.heap.size := ⟨_, rfl⟩; have HGw7 : Hid (ga = w5.heap.size) := hga; rw [<- hga] at B11
 try rw [<- hga]
 clear hw7 hga; replace HB := lh (HB.out.trans (hb7.mono HB.out.size)); replace B5 := lh (B5.out.below hb7); replace HKN := lh (HKN.out.keep hb7); replace B8 := lh (B8.out.below hb7); clear hb7
 have HM := lh (mapped_loud FA fn fc fs V g8 ga g5 w7 (HFS.out.keep HB.out) hfn (fun i hi W hb => by
  obtain ⟨k, hk, hnm, hV⟩ := HL.out.val i hi; have hg := flAt_track HFS.out.1 HL.out.fine hi; have hW := HB.out.trans (hb.mono HB.out.size); obtain ⟨b0, o0, hA0, hcc⟩ := (HFS.out.keep hW).2 (by omega); obtain ⟨_, hok⟩ := hcc i hi; obtain ⟨bt, ot, hAt, hct⟩ := (HTS.out.keep hW).2 (by omega); obtain ⟨_, htp⟩ := hct k hk; have hn0 : 0 < (flAt fs i).n := by have := hok.tr.1; have := hg.lo; omega
  obtain ⟨b, off, hA, hfx⟩ := hok.tr.2 hn0; have hget := kesTo_has HL.out.names hk; rw [hnm] at hget; have hmW := HKN.out.1.keep hb
  have hx := exposed1_any (flAt fs i).nm (flAt fs i).ty b off (flAt fs i).n (flAt fs i).c (flAt fs i).tr r g8 ga g5 mb W htp hfx hg HL.out.place ((hb.cell (p := ⟨g8, 0, none⟩) (lt_of_block B8.out)).trans ((B8.out.cell 0).trans rfl))
   (fun X e => by
    have hX : MapIs X mb (kesTo ts tn) := by
     obtain ⟨arr, clock, h1, h2⟩ := hmW; exact ⟨arr, clock, e.trans h1, h2⟩
    have := lookup_has typeM_under str_under hX hget false
    simpa using this) hmW.lt
   ⟨(hb.cell (p := ⟨ga, 0, none⟩) (lt_of_block B11.out)).trans ((B11.out.cell 0).trans rfl), (hb.cell (p := ⟨ga, 1, none⟩) (lt_of_block B11.out)).trans ((B11.out.cell 1).trans rfl)⟩
   ⟨(hb.cell (p := ⟨g5, 0, none⟩) (lt_of_block B5.out)).trans ((B5.out.cell 0).trans rfl), (hb.cell (p := ⟨g5, 1, none⟩) (lt_of_block B5.out)).trans ((B5.out.cell 1).trans rfl), (hb.cell (p := ⟨g5, 2, none⟩) (lt_of_block B5.out)).trans ((B5.out.cell 2).trans rfl)⟩
  rw [<- hV] at hx; unfold flV; rw [hA]; exact hx))
 clear B5 B8 B11 HKN
 go_wp2_with fail
 refine HM.out.mono ?_; rintro e w8 ⟨rfl, hlo, hb8⟩; have HLO := lh hlo; replace HB := lh (HB.out.trans (hb8.mono HB.out.size)); clear hb8; clear hlo; go_wp2
 (try simp only [Exit.inBlock, Exit.then])
 refine bodyPost_ret (v := .tuple #[.slice (some ⟨w7.heap.size, 0, none⟩) fn fn, .int .i64 0]) (by simp [results, Tryz.results139, go_sem, asAddr]) rfl ?_; exact ⟨_, rfl, HLO.out, HB.out⟩
end Go.Proofs.YtmafmebcgmegeaaGreatDoor
