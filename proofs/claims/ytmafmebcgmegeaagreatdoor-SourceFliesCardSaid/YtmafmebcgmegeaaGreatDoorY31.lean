/- Texts QA of the proof. -/
import Derived.Test.YtmafmebcgmegeaaGreatDoorY27
import Derived.Test.YtmafmebcgmegeaaGreatDoorY28
import Derived.Test.YtmafmebcgmegeaaGreatDoorY29
import Derived.Test.YtmafmebcgmegeaaGreatDoorY30
import Derived.Test.YtmafmebcgmegeaaGreatDoorY23
namespace Go.Proofs.YtmafmebcgmegeaaGreatDoor
open Go.RowKit Go.Sort
/-- A procedure without a fault. -/
theorem goodSp_of {p : List Bell.Sp} (h : procE p = 0) : Bell.GoodSp p ∧ p.length ≤ 8 ∧ ∀ i, i < p.length → (Bell.spAt p i).d ≤ 400000 := by
  obtain ⟨h1, h2⟩ := andE_zero h
  obtain ⟨a, b⟩ := lengthE_zero2 (k := 8) h1
  have hz := firstR_zero h2
  have hs : ∀ i, i < p.length → withinE (Bell.spAt p i).d 0 400000 = 0 ∧ withinE (Bell.spAt p i).h 0 20000 = 0 ∧ withinE (Bell.spAt p i).p 1 100 = 0 := fun i hi => firstE3_z (andE_zero (hz i hi)).1
  refine ⟨⟨a, ?_, ?_, fun i hi => withinE_zero (hs i hi).2.1, fun i hi => withinE_zero (hs i hi).2.2⟩, b, fun i hi => (withinE_zero (hs i hi).1).2⟩
  · have h4 := (andE_zero (hz 0 (by omega))).2
    split at h4
    · cases h4
    · rename_i h5
      simp at h5
      exact h5
  · have up : ∀ i, i + 1 < p.length → (Bell.spAt p i).d < (Bell.spAt p (i + 1)).d := fun i hi => by
      have h4 := (andE_zero (hz (i + 1) hi)).2
      rw [Nat.add_sub_cancel] at h4
      split at h4
      · cases h4
      · omega
    intro i j hij hj
    induction j with
    | zero => omega
    | succ j ih =>
      have h1 := up j hj
      rcases Nat.lt_or_ge i j with h2 | h2
      · have := ih h2 (by omega); omega
      · obtain rfl : i = j := by omega
        exact h1
def flownE (l : List Bell.Pt) (p : List Bell.Sp) (v t : Int) : Int := firstE [pathE l, procE p, withinE v 1 1000, withinE t 0 100000000]
def flownF (l : List Bell.Pt) (p : List Bell.Sp) (v t : Int) : Int := if 400000 < Bell.lenTo l (l.length - 1) then 4 else trackE (Bell.flown l p v t)
/-- What Flown answers. -/
def FlownPost (l : List Bell.Pt) (p : List Bell.Sp) (v t : Int) (e : Ending) (w' : World) : Prop :=
  (flownE l p v t ≠ 0 → e = .returned (.tuple #[.slice none 0 0, .int .i64 (flownE l p v t)])) ∧
  (flownE l p v t = 0 → (flownF l p v t ≠ 0 → e = .returned (.tuple #[.slice none 0 0, .int .i64 (flownF l p v t)])) ∧
    (flownF l p v t = 0 → ∃ g, e = .returned (.tuple #[.slice (some ⟨g, 0, none⟩) l.length l.length, .int .i64 0]) ∧ FixesAt w' g 0 l.length (Bell.flown l p v t)))
theorem firstE4_z {x y z u : Int} (h : firstE [x, y, z, u] = 0) : x = 0 ∧ y = 0 ∧ z = 0 ∧ u = 0 := ⟨firstE_zero h x (by simp), firstE_zero h y (by simp), firstE_zero h z (by simp), firstE_zero h u (by simp)⟩
theorem flown_take {l : List Bell.Pt} {p : List Bell.Sp} {v t : Int} {j : Nat} (h : j < l.length) : (Bell.flown l p v t).take (j + 1) = (Bell.flown l p v t).take j ++ [Bell.flownAt l p v t j] := by
  have e : (Bell.flown l p v t)[j]? = some (Bell.flownAt l p v t j) := by simp [Bell.flown, h]
  rw [List.take_add_one, e]
  rfl
theorem setCells_cell_far {g k i : Nat} (h : g ≠ k) : ∀ (vs : List Value) (o : Nat) (w : World) (s : Option Nat), (w.setCells k o vs).cell? ⟨g, i, s⟩ = w.cell? ⟨g, i, s⟩
  | [], _, _, _ => rfl
  | v :: r, o, w, s => by
    have e := setCells_cell_far (i := i) h r (o + 1) (w.setCell ⟨k, o, none⟩ v) s
    refine e.trans ?_
    exact cell_same (p := ⟨g, i, s⟩) (Below.heap_setCell w ⟨k, o, none⟩ v g h)
set_option maxHeartbeats 1000000 in
set_option maxRecDepth 100000 in
theorem Flown_any (b o n c : Nat) (PA : Option Addr) (pn pc : Nat) (l : List Bell.Pt) (p : List Bell.Sp) (v t : Int) (w : World) (hl : PtsAt w (some ⟨b, o, none⟩) n l) (hp : SpsAt w PA pn p) (hcap : n ≤ c) (hc2 : c ≤ 9223372036854775807) (hpn : pn ≤ 140737488351232) (hn : n ≤ 140737488351232) :
    Calls Tryz.prog 48 #[.slice (some ⟨b, o, none⟩) n c, .slice PA pn pc, .int .i64 v, .int .i64 t] w fun e w' => FlownPost l p v t e w' ∧ Below w.heap.size w w' := by
  obtain ⟨i0, hi, hz0, hz1, hz2⟩ := info_parts infoFix
  have HL := Lib.hid hl
  have HP := Lib.hid hp
  have hlm : Hid (l.length = n) := hl.1
  obtain ⟨PP, hPP⟩ : ∃ P : Ending → World → Prop, P = fun e w' => FlownPost l p v t e w' := ⟨_, rfl⟩
  have HPP : Hid (∀ e w', FlownPost l p v t e w' → PP e w') := fun e w' h => by rw [hPP]; exact h
  refine Calls.mono (R := fun e w' => PP e w' ∧ Below w.heap.size w w') ?_ (fun e w' h => by rw [hPP] at h; exact h)
  have HB : Hid (Below w.heap.size w w) := Below.refl _ _
  clear hl hp hPP
  go_enter Tryz.func48, Tryz.ntmps48
  go_wp2_with fail
  refine (checkPath_any (some ⟨b, o, none⟩) n c l w HL.out hn).mono ?_
  rintro e w1 ⟨rfl, hb1⟩
  replace HB := Lib.hid (HB.out.trans (hb1.mono HB.out.size))
  clear hb1
  go_wp2_with fail
  refine (CheckProcedure_any PA pn pc p w1 (HP.out.keep HB.out) hpn).mono ?_
  rintro e w2 ⟨rfl, hb2⟩
  replace HB := Lib.hid (HB.out.trans (hb2.mono HB.out.size))
  clear hb2
  go_wp2_with fail
  refine (srcSpeed_st v w2).mono ?_
  rintro e wA ⟨rfl, hw2⟩
  subst hw2
  go_wp2_with fail
  refine (srcTick_st t wA).mono ?_
  rintro e wB ⟨rfl, hw2⟩
  subst hw2
  obtain ⟨E, hE⟩ : ∃ E, E = flownE l p v t := ⟨_, rfl⟩
  have HE := Lib.hid hE
  go_wp2_with fail
  obtain ⟨w3, hw3⟩ : ∃ W, W = (wB.alloc (.cells #[.int .i64 (pathE l), .int .i64 (procE p), .int .i64 (withinE v 1 1000), .int .i64 (withinE t 0 100000000)] 37)) := ⟨_, rfl⟩
  rw [← hw3]
  have ES : Hid (Blk w3 (wB.heap.size) 37 #[.int .i64 (pathE l), .int .i64 (procE p), .int .i64 (withinE v 1 1000), .int .i64 (withinE t 0 100000000)]) := by show Blk _ _ _ _; rw [hw3]; exact Blk.new _ _ _
  have hb3 : Below wB.heap.size wB w3 := by rw [hw3]; exact ((Below.refl _ _).alloc (Nat.le_refl _) _)
  obtain ⟨ge, hge⟩ : ∃ g, g = wB.heap.size := ⟨_, rfl⟩
  have HGw3 : Hid (ge = wB.heap.size) := hge
  rw [← hge] at ES
  try rw [← hge]
  clear hw3 hge
  replace HB := Lib.hid (HB.out.trans (hb3.mono HB.out.size))
  clear hb3
  refine (first4 _ _ (pathE l) (procE p) (withinE v 1 1000) (withinE t 0 100000000) _ (ES.out.cell 0) (ES.out.cell 1) (ES.out.cell 2) (ES.out.cell 3)).mono ?_
  rw [show firstE [pathE l, procE p, withinE v 1 1000, withinE t 0 100000000] = E from hE.symm]
  rintro e w4 ⟨rfl, rfl⟩
  clear ES hE
  by_cases h0 : E = 0
  case neg =>
    have hr : Hid (FlownPost l p v t (.returned (.tuple #[.slice none 0 0, .int .i64 E])) w3) := ⟨fun _ => by rw [← HE.out], fun h => absurd (HE.out.trans h) h0⟩
    go_wp2
    (try simp only [Exit.inBlock, Exit.then])
    refine bodyPost_ret (v := .tuple #[.slice none 0 0, .int .i64 E]) (by simp [results, Tryz.results48, go_sem, asAddr]) rfl ?_
    exact ⟨HPP.out _ _ hr.out, HB.out⟩
  obtain ⟨e1, e2, e3, e4⟩ := firstE4_z (HE.out.symm.trans h0)
  have HGP := Lib.hid (goodPath_of e1)
  have HGS := Lib.hid (goodSp_of e2)
  obtain ⟨pb, po, hPA, _⟩ := HP.out.2 (by have h1 := HGS.out.1.lo; have h2 := HP.out.1; omega)
  subst hPA
  obtain ⟨v0, v1⟩ := withinE_zero e3
  obtain ⟨t0, t1⟩ := withinE_zero e4
  have HE0 : Hid (flownE l p v t = 0) := HE.out.symm.trans h0
  subst h0
  have gl := HGP.out.lo
  have gh := HGP.out.hi
  rw [hlm.out] at gl gh
  obtain ⟨m, rfl⟩ : ∃ m, n = m + 1 := ⟨n - 1, by omega⟩
  clear e1 e2 e3 e4 hn HE
  go_wp2_with fail
  refine (lengths_any b o (m + 1) c l w3 (HL.out.keep HB.out) HGP.out hcap hc2).mono ?_
  rintro e w5 ⟨gL, rfl, hgL, hcL, hb5⟩
  have HGL : Hid (w3.heap.size ≤ gL) := hgL
  have HCL := Lib.hid hcL
  replace HB := Lib.hid (HB.out.trans (hb5.mono HB.out.size))
  clear hb5
  have hcm := hcL m (by omega)
  obtain ⟨N, hN⟩ : ∃ N, N = Bell.lenTo l m := ⟨_, rfl⟩
  rw [← hN] at hcm
  have HN := Lib.hid hN
  have hmi : (m : Int) < (m : Int) + 1 := by omega
  clear hgL hcL hN
  have HF : Hid (flownF l p v t = if 400000 < N then 4 else trackE (Bell.flown l p v t)) := by show _ = _; unfold flownF; rw [hlm.out, Nat.add_sub_cancel, HN.out]
  by_cases hbig : 400000 < N
  · have hd : decide (400000 < N) = true := decide_eq_true hbig
    have hF4 : flownF l p v t = 4 := by rw [HF.out, if_pos hbig]
    have hr : Hid (FlownPost l p v t (.returned (.tuple #[.slice none 0 0, .int .i64 4])) w5) := ⟨fun h => absurd HE0.out h, fun _ => ⟨fun _ => by rw [hF4], fun h => by rw [hF4] at h; cases h⟩⟩
    clear hbig hF4
    go_wp2
    (try simp only [Exit.inBlock, Exit.then])
    refine bodyPost_ret (v := .tuple #[.slice none 0 0, .int .i64 4]) (by simp [results, Tryz.results48, go_sem, asAddr]) rfl ?_
    exact ⟨HPP.out _ _ hr.out, HB.out⟩
  replace HF : Hid (flownF l p v t = trackE (Bell.flown l p v t)) := by show _ = _; rw [HF.out, if_neg hbig]
  have hd : decide (400000 < N) = false := decide_eq_false hbig
  have hN4 : Hid (N ≤ 400000) := by show N ≤ 400000; omega
  clear hbig
  go_upto_region 8 with (at_make; refine wpList_make_full _ rfl _ _ 67 rfl w5.heap.size 152 i0 (.agg #[.int .i64 0, .int .i64 0, .int .i64 0, .int .i64 0, .int .i64 0]) 5 Tryz.underlying67 hi hz0 hz1 _ _ _ _ (m + 1) rfl rfl rfl rfl (by rw [hz2]; omega) (by unfold maxLen; omega) (Nat.le_refl _) ?_; intro w6 hown hg6)
  obtain ⟨cur, hbk, hcs, hgb, _⟩ := own_full hown
  have hb6 : Below w5.heap.size w5 w6 := Below.grown (Below.refl _ _) hg6 (Nat.le_refl _) (fun k hk => by cases hk)
  have hgLl : gL < w5.heap.size := World.block_lt_of_cell? _ _ hcm
  obtain ⟨gr, hgr⟩ : ∃ g, g = w5.heap.size := ⟨_, rfl⟩
  rw [← hgr] at hbk hgb ⊢
  have HGR : Hid (w.heap.size ≤ gr) := by show _ ≤ _; rw [hgr]; exact HB.out.size
  have hne : gL ≠ gr := by rw [hgr]; omega
  have HC6 : Hid (∃ cur, Blk w6 gr 152 cur ∧ cur.size = (m + 1) * 5) := ⟨cur, hbk, hcs⟩
  have HF6 : Hid (FixesAt w6 gr 0 0 ((Bell.flown l p v t).take 0)) := ⟨rfl, fun i hi => by omega⟩
  have HL6 : Hid (∀ i, i < m + 1 → w6.cell? ⟨gL, i, none⟩ = some (.int .i64 (Bell.lenTo l i))) := fun i hi => by
    rw [hb6.cell (p := ⟨gL, i, none⟩) hgLl]; exact HCL.out i hi
  replace HB := Lib.hid (HB.out.trans (hb6.mono HB.out.size))
  clear hb6
  clear hown hg6 hgb hgr hbk hcs hcm HCL HGL hgLl
  go_wp2
  go_loopw [13, 14, 15, 44] (fun _ _ _ k wr => ∃ j : Nat, j ≤ m + 1 ∧ k = .int .i64 j ∧ Hid (FixesAt wr gr 0 j ((Bell.flown l p v t).take j)) ∧ Hid (∃ cur, Blk wr gr 152 cur ∧ cur.size = (m + 1) * 5) ∧ Hid (∀ i, i < m + 1 → wr.cell? ⟨gL, i, none⟩ = some (.int .i64 (Bell.lenTo l i))) ∧ Hid (Below w.heap.size w wr)) (fun _ _ _ k _ => m + 1 - (intOf k).toNat)
  case atStart => exact ⟨0, Nat.zero_le _, rfl, HF6, HC6, HL6, HB⟩
  case round =>
    obtain ⟨j, hj, rfl, hF, hC, hLn, hb⟩ := hrel
    clear HF6 HC6 HL6 HB
    by_cases hlt : j < m + 1
    · have HB := hb
      have hcj := hLn.out j hlt
      have hjl : j < l.length := by rw [hlm.out]; exact hlt
      have hL0 := Bell.lenTo_nonneg l j
      have hL1 : Bell.lenTo l j ≤ 400000 := Int.le_trans (Bell.lenTo_mono l (show j ≤ m by omega)) (by rw [← HN.out]; exact hN4.out)
      have HX : Hid (Bell.flownAt l p v t j = ⟨t + (Bell.lenTo l j + v - 1) / v, (Bell.ptAt l j).x, (Bell.ptAt l j).y, Bell.heightAt p (Bell.lenTo l j), Bell.powerAt p (Bell.lenTo l j)⟩) := rfl
      obtain ⟨L, hL⟩ : ∃ L, L = Bell.lenTo l j := ⟨_, rfl⟩
      rw [← hL] at hcj hL0 hL1 HX
      have HST := Lib.hid (fun W (hb : Below w.heap.size w W) => stepAt_any pb po pn pc p L W (HP.out.keep hb) HGS.out.1 (by rw [← HP.out.1]; exact HGS.out.2.1) HGS.out.2.2 hL0)
      obtain ⟨H, hH⟩ : ∃ x, x = Bell.heightAt p L := ⟨_, rfl⟩
      obtain ⟨O, hO⟩ : ∃ x, x = Bell.powerAt p L := ⟨_, rfl⟩
      rw [← hH, ← hO] at HST HX
      clear hL hH hO
      go_upto_region 11 with fail
      go_wp2_with fail
      refine (HST.out wr HB.out).mono ?_
      rintro e wa ⟨rfl, hba⟩
      obtain ⟨cur, hbk, hcs⟩ := hC.out
      have HBK := Lib.hid hbk
      have HCS := Lib.hid hcs
      have HLN : Hid (∀ i, i < m + 1 → wa.cell? ⟨gL, i, none⟩ = some (.int .i64 (Bell.lenTo l i))) := fun i hi => (hba.cell (p := ⟨gL, i, none⟩) (World.block_lt_of_cell? _ _ (hLn.out i hi))).trans (hLn.out i hi)
      replace HB := Lib.hid (HB.out.trans (hba.mono HB.out.size))
      replace hF := Lib.hid (hF.out.keep hba)
      replace HBK := Lib.hid (HBK.out.below hba)
      clear hba
      clear hbk hcs hC hLn hcj hb HST
      go_upto_region 12 with fail
      obtain ⟨wb, hwb⟩ : ∃ W, W = (wa.alloc (.cells #[.int .i64 L, .int .i64 H, .int .i64 O] 166)) := ⟨_, rfl⟩
      rw [← hwb]
      have ST : Hid (Blk wb (wa.heap.size) 166 #[.int .i64 L, .int .i64 H, .int .i64 O]) := by show Blk _ _ _ _; rw [hwb]; exact Blk.new _ _ _
      have hbb : Below wa.heap.size wa wb := by rw [hwb]; exact ((Below.refl _ _).alloc (Nat.le_refl _) _)
      obtain ⟨gs, hgs⟩ : ∃ g, g = wa.heap.size := ⟨_, rfl⟩
      have HGwb : Hid (gs = wa.heap.size) := hgs
      rw [← hgs] at ST
      try rw [← hgs]
      clear hwb hgs
      have HLN2 : Hid (∀ i, i < m + 1 → wb.cell? ⟨gL, i, none⟩ = some (.int .i64 (Bell.lenTo l i))) := fun i hi => (hbb.cell (p := ⟨gL, i, none⟩) (World.block_lt_of_cell? _ _ (HLN.out i hi))).trans (HLN.out i hi)
      replace HB := Lib.hid (HB.out.trans (hbb.mono HB.out.size))
      replace hF := Lib.hid (hF.out.keep hbb)
      replace HBK := Lib.hid (HBK.out.below hbb)
      clear hbb
      clear HLN
      obtain ⟨b', o', e', hcc⟩ := (HL.out.keep HB.out).2 (by omega)
      cases e'
      obtain ⟨c1, c2⟩ := hcc j hlt
      obtain ⟨x, hx⟩ : ∃ x, x = (Bell.ptAt l j).x := ⟨_, rfl⟩
      obtain ⟨y, hy⟩ : ∃ y, y = (Bell.ptAt l j).y := ⟨_, rfl⟩
      rw [← hx] at c1 HX
      rw [← hy] at c2 HX
      have hq0 : (L + v - 1).tdiv v = (L + v - 1) / v := Int.tdiv_eq_ediv_of_nonneg (by omega)
      have hq1 : 0 ≤ (L + v - 1) / v := Int.ediv_nonneg (by omega) (by omega)
      have hq2 : (L + v - 1) / v ≤ L + v - 1 := Int.ediv_le_self _ (by omega)
      obtain ⟨Q, hQ⟩ : ∃ Q, Q = (L + v - 1) / v := ⟨_, rfl⟩
      rw [← hQ] at hq0 hq1 hq2 HX
      have hv0 : ¬ v = 0 := by omega
      have s1 : IntKind.i64.wrap (L + v) = L + v := IntWalk.i64_in _ (by omega)
      have s2 : IntKind.i64.wrap (L + v - 1) = L + v - 1 := IntWalk.i64_in _ (by omega)
      have s3 : IntKind.i64.wrap Q = Q := IntWalk.i64_in _ (by omega)
      have s4 : IntKind.i64.wrap (t + Q) = t + Q := IntWalk.i64_in _ (by omega)
      have hji : (j : Int) < (m : Int) + 1 := by omega
      have hj0 : (0 : Int) ≤ (j : Int) := by omega
      have k1 := fun d os => cell_regrown c1 d os
      have k2 := fun d os => cell_regrown c2 d os
      have k3 := fun d os => cell_regrown (ST.out.cell 1) d os
      have k4 := fun d os => cell_regrown (ST.out.cell 2) d os
      clear hcc hx hy hQ hq1 hq2 c1 c2 hL0 hL1
      refine wp_region_below_tail 26 (by kernel_rfl) (by kernel_rfl) ?_
      simp only [List.take_succ_cons, List.take_zero, List.drop_succ_cons, List.drop_zero]
      repeat (go_big_quiet_step (fail))
      refine wpQuiet_nil ?_
      intro wc hq1
      obtain ⟨⟨dq, osq⟩, hq2⟩ := hq1
      have hbc := below_regrown wb dq osq
      rw [← hq2] at hbc
      clear hq2
      have HLN3 : Hid (∀ i, i < m + 1 → wc.cell? ⟨gL, i, none⟩ = some (.int .i64 (Bell.lenTo l i))) := fun i hi => (hbc.cell (p := ⟨gL, i, none⟩) (World.block_lt_of_cell? _ _ (HLN2.out i hi))).trans (HLN2.out i hi)
      replace HB := Lib.hid (HB.out.trans (hbc.mono HB.out.size))
      replace hF := Lib.hid (hF.out.keep hbc)
      replace HBK := Lib.hid (HBK.out.below hbc)
      clear hbc
      clear k1 k2 k3 k4 s1 s2 s3 s4 hq0 hv0 HLN2 ST
      obtain ⟨F, hFe⟩ : ∃ F : Bell.Fx, F = ⟨t + Q, x, y, H, O⟩ := ⟨_, rfl⟩
      have HFE : Hid (Bell.flownAt l p v t j = F) := by show _ = _; rw [HX.out, hFe]
      have hFV : Hid (fxV F = #[.int .i64 (t + Q), .int .i64 x, .int .i64 y, .int .i64 H, .int .i64 O]) := by show _ = _; rw [hFe]; rfl
      have hth : wc.there gr (j * 5) (fxV F).size := fun k hk => by
        have hk5 : k < 5 := hk
        exact ⟨by rw [HBK.out.cell, Array.getElem?_eq_getElem (by rw [HCS.out]; omega)]; rfl, HBK.out.frozen _⟩
      obtain ⟨cur2, hB2, hs2, q1, q2, q3⟩ := Blk.setCells (fxV F).toList (j * 5) HBK.out
      have hfx := fixes_cells HBK.out hF.out
      have htl : ((Bell.flown l p v t).take j).length = j := hF.out.1
      have HF2 : Hid (FixesAt (wc.setCells gr (j * 5) (fxV F).toList) gr 0 (j + 1) ((Bell.flown l p v t).take (j + 1))) := by
        show FixesAt _ _ _ _ _
        rw [flown_take hjl, HFE.out]
        have := fixes_snoc (l := (Bell.flown l p v t).take j) (p := F) hB2 (fun i hi k hk => by
          rw [htl] at hi
          rw [q1 _ (by omega)]
          exact hfx i (by rw [htl]; exact hi) k hk) (fun k hk => by
          rw [htl, q3 k (by simpa [fxV] using hk) (by rw [HCS.out]; omega)]
          simp)
        rwa [htl] at this
      have HB2 : Hid (Below w.heap.size w (wc.setCells gr (j * 5) (fxV F).toList)) := HB.out.setCells' HGR.out _ _
      have HC2 : Hid (∃ cur, Blk (wc.setCells gr (j * 5) (fxV F).toList) gr 152 cur ∧ cur.size = (m + 1) * 5) := ⟨_, hB2, by rw [hs2, HCS.out]⟩
      have HLN4 : Hid (∀ i, i < m + 1 → (wc.setCells gr (j * 5) (fxV F).toList).cell? ⟨gL, i, none⟩ = some (.int .i64 (Bell.lenTo l i))) := fun i hi => (setCells_cell_far hne _ _ _ _).trans (HLN3.out i hi)
      clear hB2 hs2 q1 q2 q3 hfx htl HLN3
      go_upto_region 13 with (refine wpList_store_mid rfl 152 _ _ rfl gr (j * 5) (fxV F) rfl (congrArg Value.agg hFV.out.symm) hth (fxV_info F) (fxV_one F) ?_)
      clear hth
      obtain ⟨wd, hwd⟩ : ∃ X, X = wc.setCells gr (j * 5) (fxV F).toList := ⟨_, rfl⟩
      rw [← hwd] at HF2 HB2 HC2 HLN4 ⊢
      clear hwd
      go_wp2
      go_roundw
      case rel => exact ⟨j + 1, by omega, by go_num, HF2, HC2, HLN4, HB2⟩
      case measure => simp [intOf]; omega
    · obtain rfl : j = m + 1 := by omega
      have hw : (Bell.flown l p v t).take (m + 1) = Bell.flown l p v t := List.take_of_length_le (by rw [Bell.flown_len, hlm.out]; omega)
      have HFW : Hid (FixesAt wr gr 0 (m + 1) (Bell.flown l p v t)) := by have := hF.out; rw [hw] at this; exact this
      have HCK := Lib.hid (CheckTrack_any (some ⟨gr, 0, none⟩) (m + 1) (m + 1) (Bell.flown l p v t) wr ⟨HFW.out.1, fun _ => ⟨gr, 0, rfl, HFW.out⟩⟩ (by omega))
      obtain ⟨E, hE⟩ : ∃ E, E = trackE (Bell.flown l p v t) := ⟨_, rfl⟩
      rw [← hE] at HCK HF
      clear hw hF hC hLn hE
      go_wp2_with fail
      refine HCK.out.mono ?_
      rintro e wa ⟨rfl, hba⟩
      have HB := hb
      replace HB := Lib.hid (HB.out.trans (hba.mono HB.out.size))
      replace HFW := Lib.hid (HFW.out.keep hba)
      clear hba
      by_cases hE0 : E = 0
      case neg =>
        have hr : Hid (FlownPost l p v t (.returned (.tuple #[.slice none 0 0, .int .i64 E])) wa) := ⟨fun h => absurd HE0.out h, fun _ => ⟨fun _ => by rw [HF.out], fun h => absurd (HF.out.symm.trans h) hE0⟩⟩
        go_wp2
        (try simp only [Exit.inBlock, Exit.then])
        refine bodyPost_ret (v := .tuple #[.slice none 0 0, .int .i64 E]) (by simp [results, Tryz.results48, go_sem, asAddr]) rfl ?_
        exact ⟨HPP.out _ _ hr.out, HB.out⟩
      subst hE0
      have hr : Hid (∀ W, FixesAt W gr 0 (m + 1) (Bell.flown l p v t) → FlownPost l p v t (.returned (.tuple #[.slice (some ⟨gr, 0, none⟩) (m + 1) (m + 1), .int .i64 0])) W) := fun W hW => ⟨fun h => absurd HE0.out h, fun _ => ⟨fun h => absurd HF.out h, fun _ => ⟨gr, by rw [hlm.out], by rw [hlm.out]; exact hW⟩⟩⟩
      go_wp2
      (try simp only [Exit.inBlock, Exit.then])
      refine bodyPost_ret (v := .tuple #[.slice (some ⟨gr, 0, none⟩) (m + 1) (m + 1), .int .i64 0]) (by simp [results, Tryz.results48, go_sem, asAddr]) rfl ?_
      exact ⟨HPP.out _ _ (hr.out _ HFW.out), HB.out⟩
end Go.Proofs.YtmafmebcgmegeaaGreatDoor
