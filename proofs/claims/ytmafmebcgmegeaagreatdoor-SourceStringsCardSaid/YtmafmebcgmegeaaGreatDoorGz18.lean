/- Part. -/
import Derived.Test.YtmafmebcgmegeaaGreatDoorGz1
import Derived.BigQuiet
import Derived.Test.YtmafmebcgmegeaaGreatDoorGz14
namespace Go.Proofs.YtmafmebcgmegeaaGreatDoor
open Go.RowKit Go.Sort
structure GoodPath (l : List Bell.Pt) : Prop where
 lo : 2 <= l.length
 hi : l.length <= 16
 x : ∀ i, i < l.length -> -100000 <= (Bell.ptAt l i).x /\ (Bell.ptAt l i).x <= 100000
 y : ∀ i, i < l.length -> -100000 <= (Bell.ptAt l i).y /\ (Bell.ptAt l i).y <= 100000
theorem lengthE_zero {n : Nat} {k : Nat} (h : lengthE n (k : Int) = 0) : 2 <= n /\ n <= k := by
 unfold lengthE atMostE at h
 split at h
 ·cases h
 ·split at h
  ·cases h
  ·omega
theorem goodPath_of {l : List Bell.Pt} (h : pathE l = 0) : GoodPath l := by
 obtain ⟨h1, h2⟩ := andE_zero h; obtain ⟨a, b⟩ := lengthE_zero (k := 16) h1; have hz := firstR_zero h2; refine ⟨a, b, fun i hi => ?_, fun i hi => ?_⟩
 ·have := (firstE2_zero (andE_zero (hz i hi)).1).1; exact withinE_zero this
 ·have := (firstE2_zero (andE_zero (hz i hi)).1).2; exact withinE_zero this
theorem absI_upto {a b : Int} (h1 : -100000 <= a /\ a <= 100000) (h2 : -100000 <= b /\ b <= 100000) : 0 <= Bell.absI a b /\ Bell.absI a b <= 200000 := by unfold Bell.absI; omega
theorem lenTo_upto {l : List Bell.Pt} (g : GoodPath l) (i : Nat) (hi : i < l.length) : Bell.lenTo l i <= 400000 * i := by
 induction i with
 | zero => simp [Bell.lenTo]
 | succ i ih =>
   have h := ih (by omega); have h1 := absI_upto (g.x (i + 1) hi) (g.x i (by omega)); have h2 := absI_upto (g.y (i + 1) hi) (g.y i (by omega)); rw [Bell.lenTo]
   omega
set_option maxHeartbeats 1000000 in
set_option maxRecDepth 100000 in
theorem lengths_any (b o n c : Nat) (l : List Bell.Pt) (w : World) (hl : PtsAt w (some ⟨b, o, none⟩) n l) (hg : GoodPath l) (hcap : n <= c) (hc2 : c <= 9223372036854775807) :
  Calls Tryz.prog 129 #[.slice (some ⟨b, o, none⟩) n c] w fun e w' => ∃ g, e = .returned (.slice (some ⟨g, 0, none⟩) n n) /\ w.heap.size <= g /\ (∀ i, i < n -> w'.cell? ⟨g, i, none⟩ = some (.int .i64 (Bell.lenTo l i))) /\ Below w.heap.size w w' := by
 obtain ⟨i0, hi, hz0, hz1, hz2⟩ := info_parts infoInt; have hn := hl.1; have g1 := hg.lo; have g2 := hg.hi; obtain ⟨m, rfl⟩ : ∃ m, n = m + 1 := ⟨n - 1, by omega⟩; have hm1 : 1 <= m := by omega
 have hm2 : m <= 15 := by omega
 have hlm : Hid (l.length = m + 1) := hn; have HL := lh hl; have HG := lh hg
 have hsl : ∀ W, (Instr.slice 82 (.slice (some ⟨b, o, none⟩) (m + 1) c) (some (.int .i64 1)) none none).run Tryz.prog W = .ok (.slice (some ⟨b, o + 2, none⟩) m (c - 1)) W := fun W => by
  rw [run_slice_l W _ _ _ _ (by kernel_rfl) .i64 _ (by omega) (by omega), show Tryz.prog.elem 82 = 30 by kernel_rfl, show (Go.sizeOf 30).run Tryz.prog W = .ok 2 W by kernel_rfl]; have h1 : ¬ c = 1 := by omega
  simp [Result.andThen, sliced, Addr.add, h1]
 have HB : Hid (Below w.heap.size w w) := Below.refl _ _; clear hl hg hn g1 g2 hcap hc2
 go_enter Tryz.func129, Tryz.ntmps129
 go_upto_region 2 with (at_make; refine wpList_make_full _ rfl _ _ 22 rfl w.heap.size 3 i0 (.int .i64 0) 1 Tryz.underlying22 hi hz0 hz1 _ _ _ _ (m + 1) rfl rfl rfl rfl (by rw [hz2]; omega) (by unfold maxLen; omega) (Nat.le_refl _) ?_; intro w5 hown hg5)
 obtain ⟨cur, hbk, hcs, hgb, hcx⟩ := own_full hown; have hb5 : Below w.heap.size w w5 := Below.grown (Below.refl _ _) hg5 (Nat.le_refl _) (fun k hk => by cases hk)
 have hc0 : cur[0]? = some (.int .i64 0) := by
  rw [made_zero] at hcx; have : cur.toList[0]? = some (.int .i64 0) := by rw [hcx]; simp
  simpa using this
 obtain ⟨gr, hgr⟩ : ∃ g, g = w.heap.size := ⟨_, rfl⟩; have HGR := lh hgr; rw [<- hgr] at hbk ⊢; have HC0 : Hid (∃ cur, Blk w5 gr 3 cur /\ cur.size = m + 1 /\ ∀ i, i <= 0 -> cur[i]? = some (.int .i64 (Bell.lenTo l i))) := ⟨cur, hbk, by rw [hcs, Nat.mul_one], fun i hi => by obtain rfl : i = 0 := (by omega); exact hc0⟩; have HB5 : Hid (Below w.heap.size w w5) := hb5; clear hown hg5 hgb hgr hbk hb5 hc0 hcx hcs HB; go_wp2
 go_loopw [4, 5, 6, 13] (fun _ _ _ k wr => ∃ j : Nat, j <= m /\ k = .int .i64 j /\ Hid (∃ cur, Blk wr gr 3 cur /\ cur.size = m + 1 /\ ∀ i, i <= j -> cur[i]? = some (.int .i64 (Bell.lenTo l i))) /\ Hid (Below w.heap.size w wr)) (fun _ _ _ k _ => m - (intOf k).toNat)
 case atStart => exact ⟨0, Nat.zero_le _, rfl, HC0, HB5⟩
 case round =>
  obtain ⟨j, hj, rfl, hC, hb⟩ := hrel; clear HC0 HB5
  by_cases hlt : j < m
  ·obtain ⟨cur, hbk, hcs, hcx⟩ := hC.out; obtain ⟨b', o', e', hc⟩ := (HL.out.keep hb.out).2 (by omega)
   cases e'
   obtain ⟨c1, c2⟩ := hc (j + 1) (by omega); obtain ⟨d1, d2⟩ := hc j (by omega); rw [show o + (j + 1) * 2 = o + 2 + j * 2 by omega] at c1 c2; have x1 := HG.out.x (j + 1) (by rw [hlm.out]; omega); have y1 := HG.out.y (j + 1) (by rw [hlm.out]; omega); have u1 := HG.out.x j (by rw [hlm.out]; omega); have v1 := HG.out.y j (by rw [hlm.out]; omega); have hL1 := lenTo_upto HG.out j (by rw [hlm.out]; omega); have hL0 := Bell.lenTo_nonneg l j; have hS : Hid (Bell.lenTo l (j + 1) = Bell.lenTo l j + Bell.absI (Bell.ptAt l (j + 1)).x (Bell.ptAt l j).x + Bell.absI (Bell.ptAt l (j + 1)).y (Bell.ptAt l j).y) := rfl; obtain ⟨x, hx⟩ : ∃ x, x = (Bell.ptAt l (j + 1)).x := ⟨_, rfl⟩; obtain ⟨y, hy⟩ : ∃ y, y = (Bell.ptAt l (j + 1)).y := ⟨_, rfl⟩; obtain ⟨u, hu⟩ : ∃ u, u = (Bell.ptAt l j).x := ⟨_, rfl⟩; obtain ⟨v, hv⟩ : ∃ v, v = (Bell.ptAt l j).y := ⟨_, rfl⟩; rw [<- hx] at c1 x1 hS; rw [<- hy] at c2 y1 hS; rw [<- hu] at d1 u1 hS
   rw [<- hv] at d2 v1 hS; have hbl := World.block_lt_of_cell? _ _ d1; simp only at hbl; clear hc hx hy hu hv; have hcj := hcx j (Nat.le_refl _); obtain ⟨L, hL⟩ : ∃ L, L = Bell.lenTo l j := ⟨_, rfl⟩; rw [<- hL] at hcj hL1 hL0 hS; obtain ⟨DX, hDX⟩ : ∃ D, D = Bell.absI x u := ⟨_, rfl⟩; obtain ⟨DY, hDY⟩ : ∃ D, D = Bell.absI y v := ⟨_, rfl⟩; have a1 := absI_upto x1 u1; have a2 := absI_upto y1 v1; have r1 : ∀ ts t W, (Builtin.max_ ts t #[.int .i64 (x - u), .int .i64 (u - x)]).run Tryz.prog W = .ok (.int .i64 DX) W := fun ts t W => by rw [hDX]; exact run_max2' _ _ _ _ _ _
   have r2 : ∀ ts t W, (Builtin.max_ ts t #[.int .i64 (y - v), .int .i64 (v - y)]).run Tryz.prog W = .ok (.int .i64 DY) W := fun ts t W => by rw [hDY]; exact run_max2' _ _ _ _ _ _
   rw [<- hDX] at a1 hS; rw [<- hDY] at a2 hS; obtain ⟨x1, x2⟩ := x1; obtain ⟨y1, y2⟩ := y1; obtain ⟨u1, u2⟩ := u1; obtain ⟨v1, v2⟩ := v1; obtain ⟨a11, a12⟩ := a1; obtain ⟨a21, a22⟩ := a2; have hL2 : L <= 6000000 := by omega
   have s1 : IntKind.i64.wrap (x - u) = x - u := IntWalk.i64_in _ (by omega); have s2 : IntKind.i64.wrap (u - x) = u - x := IntWalk.i64_in _ (by omega); have s3 : IntKind.i64.wrap (y - v) = y - v := IntWalk.i64_in _ (by omega); have s4 : IntKind.i64.wrap (v - y) = v - y := IntWalk.i64_in _ (by omega); have s5 : IntKind.i64.wrap (L + DX) = L + DX := IntWalk.i64_in _ (by omega); have s6 : IntKind.i64.wrap (L + DX + DY) = L + DX + DY := IntWalk.i64_in _ (by omega); have s7 : IntKind.i64.wrap ((j : Int) + 1) = (j : Int) + 1 := IntWalk.i64_in _ (by omega); have HBK := lh hbk; have HCX := lh hcx; have HCS := lh hcs; have HCJ := lh hcj; have hji : (j : Int) < (m : Int) + 1 := by omega
   have hj0 : (0 : Int) <= (j : Int) := by omega
   have hjn : j < m + 1 := by omega
   clear hL hDX hDY hL1 hbk hcx hcs hC hcj
   go_upto_region 6 with fail
   have HB := hb; obtain ⟨wa, hwa⟩ : ∃ W, W = ((wr.alloc (.cells #[.int .i64 x, .int .i64 y] 30)).alloc (.cells #[.int .i64 u, .int .i64 v] 30)) := ⟨_, rfl⟩; rw [<- hwa]; have PX : Hid (Blk wa (wr.heap.size) 30 #[.int .i64 x, .int .i64 y]) := by show Blk _ _ _ _; rw [hwa]; exact (Blk.new _ _ _).alloc _
   have PB : Hid (Blk wa (wr.heap.size + 1) 30 #[.int .i64 u, .int .i64 v]) := by show Blk _ _ _ _; rw [hwa]; exact Blk.at_size _ _ (by simp)
   have hba : Below wr.heap.size wr wa := by rw [hwa]; exact (((Below.refl _ _).alloc (Nat.le_refl _) _).alloc (by simp) _)
   obtain ⟨gx, hgx⟩ : ∃ g, g = wr.heap.size := ⟨_, rfl⟩; obtain ⟨gy, hgy⟩ : ∃ g, g = wr.heap.size + 1 := ⟨_, rfl⟩; have HGwa : Hid (gx = wr.heap.size /\ gy = wr.heap.size + 1) := ⟨hgx, hgy⟩; rw [<- hgy] at PB
   try rw [<- hgy]
   rw [<- hgx] at PX
   try rw [<- hgx]
   clear hwa hgx hgy; replace HB := lh (HB.out.trans (hba.mono HB.out.size)); replace HBK := lh (HBK.out.below hba); clear hba; clear c1 c2 d1 d2 hb; have e0 := fun d os => cell_regrown (PX.out.cell 0) d os
   have e1 := fun d os => cell_regrown (PX.out.cell 1) d os
   have f0 := fun d os => cell_regrown (PB.out.cell 0) d os
   have f1 := fun d os => cell_regrown (PB.out.cell 1) d os
   have lj := fun d os => cell_regrown ((HBK.out.cell j).trans HCJ.out) d os
   refine wp_region_below_tail 31 (by kernel_rfl) (by kernel_rfl) ?_; simp only [List.take_succ_cons, List.take_zero, List.drop_succ_cons, List.drop_zero]
   repeat (go_big_quiet_step (fail))
   refine wpQuiet_nil ?_; intro wb hq1; obtain ⟨⟨dq, osq⟩, hq2⟩ := hq1; have hbb := below_regrown wa dq osq; rw [<- hq2] at hbb; clear hq2; replace HB := lh (HB.out.trans (hbb.mono HB.out.size)); replace HBK := lh (HBK.out.below hbb); clear hbb; clear e0 e1 f0 f1 lj r1 r2 s1 s2 s3 s4 s5 PX PB x1 x2 y1 y2 u1 u2 v1 v2; obtain ⟨z, hz⟩ : ∃ z, cur[j + 1]? = some z := ⟨_, Array.getElem?_eq_getElem (by rw [HCS.out]; omega)⟩; have hc1 := (HBK.out.cell (j + 1)).trans hz; have hf1 := HBK.out.frozen (j + 1); have hj1 : (j : Int) + 1 < (m : Int) + 1 := by omega
   obtain ⟨N, hN⟩ : ∃ N, N = L + DX + DY := ⟨_, rfl⟩; rw [<- hN] at hS ⊢
   have HC2 : Hid (∃ cur, Blk (wb.setCell ⟨gr, j + 1, none⟩ (.int .i64 N)) gr 3 cur /\ cur.size = m + 1 /\ ∀ i, i <= j + 1 -> cur[i]? = some (.int .i64 (Bell.lenTo l i))) := by
    refine ⟨_, HBK.out.set_ (j + 1) (.int .i64 N), by simpa using HCS.out, fun i hi => ?_⟩
    by_cases h : i = j + 1
    ·subst h; rw [hS.out]; rw [Array.getElem?_setIfInBounds_self_of_lt (by rw [HCS.out]; omega)]
    ·rw [Array.getElem?_setIfInBounds_ne (by omega)]; exact HCX.out i (by omega)
   have HB2 : Hid (Below w.heap.size w (wb.setCell ⟨gr, j + 1, none⟩ (.int .i64 N))) := HB.out.setCell (p := ⟨gr, j + 1, none⟩) (by rw [HGR.out]; exact Nat.le_refl _) _; clear hN s6 a11 a12 a21 a22 hL0 hL2 hz; go_wp2; go_roundw
   case rel => exact ⟨j + 1, by omega, by go_num, HC2, HB2⟩
   case measure => simp [intOf]; omega
  ·obtain rfl : j = m := by omega
   obtain ⟨cur, hbk, hcs, hcx⟩ := hC.out; have HCX := lh hcx; have HBK := lh hbk; clear hcx hbk hcs; go_wp2
   (try simp only [Exit.inBlock, Exit.then])
   refine bodyPost_ret (v := .slice (some ⟨gr, 0, none⟩) (j + 1) (j + 1)) (by simp [results, Tryz.results129, go_sem, asAddr]) rfl ?_; exact ⟨gr, rfl, by rw [HGR.out]; exact Nat.le_refl _, fun i hi => by rw [HBK.out.cell]; exact HCX.out i (by omega), hb.out⟩
theorem stepAt1_any (s : Bell.Sp) (d : Int) (g : Nat) (w : World) (hc : w.cell? ⟨g, 0, none⟩ = some (.int .i64 d)) :
  Calls Tryz.prog 180 #[.agg (spV s), .pointer (some ⟨g, 0, none⟩)] w fun e w' => e = .returned (.bool (decide (d < s.d))) /\ Below w.heap.size w w' := by
 unfold spV; have hb : Below w.heap.size w (w.alloc (.cells #[.int .i64 s.d, .int .i64 s.h, .int .i64 s.p] 166)) := (Below.refl _ w).alloc (Nat.le_refl _) _
 have hc1 : (w.alloc (.cells #[.int .i64 s.d, .int .i64 s.h, .int .i64 s.p] 166)).cell? ⟨g, 0, none⟩ = some (.int .i64 d) := by
  rw [hb.cell (p := ⟨g, 0, none⟩) (World.block_lt_of_cell? _ _ hc)]; exact hc
 have HB := lh hb; clear hb hc
 go_enter Tryz.func180, Tryz.ntmps180
 go_wp2
 go_ret
 exact ⟨rfl, HB.out⟩
theorem nextSp_at {p : List Bell.Sp} {d : Int} {k : Nat} (hk : k < p.length) (h1 : ∀ j, j < k -> (Bell.spAt p j).d <= d) (h2 : d < (Bell.spAt p k).d) : Bell.nextSp p d = k := by
 unfold Bell.nextSp; rw [List.findIdx_eq hk]; refine ⟨by simpa [Bell.spAt, hk] using h2, fun j hj => ?_⟩; have := h1 j hj
 simpa [Bell.spAt, show j < p.length by omega] using this
theorem nextSp_none {p : List Bell.Sp} {d : Int} (h1 : ∀ j, j < p.length -> (Bell.spAt p j).d <= d) : Bell.nextSp p d = p.length := by
 unfold Bell.nextSp; rw [List.findIdx_eq_length]; intro x hx; obtain ⟨i, hi, rfl⟩ := List.getElem_of_mem hx; have := h1 i hi
 simpa [Bell.spAt, hi] using this
def nextSpI (p : List Bell.Sp) (d : Int) : Int := if Bell.nextSp p d = p.length then -1 else (Bell.nextSp p d : Int)
set_option maxHeartbeats 1000000 in
set_option maxRecDepth 100000 in
theorem indexFunc_step (b o n c g : Nat) (s : List Bell.Sp) (p : Int) (w : World) (hs : SpsAt w (some ⟨b, o, none⟩) n s) (hn : n <= 8) (hc : w.cell? ⟨g, 0, none⟩ = some (.int .i64 p)) :
  Calls Tryz.prog 179 #[.slice (some ⟨b, o, none⟩) n c, .func (.func 180) #[] #[.pointer (some ⟨g, 0, none⟩)]] w
   fun e w' => e = .returned (.int .i64 (nextSpI s p)) /\ Below w.heap.size w w' := by
 have HS := lh hs; have HC := lh hc; have HN := lh hs.1; clear hs hc
 go_enter Tryz.func179, Tryz.ntmps179
 go_wp2
 go_loopw [5, 8] (fun _ k wr => ∃ j : Nat, j <= n /\ k = .int .i64 j /\ Hid (∀ q, q < j -> (Bell.spAt s q).d <= p) /\ Hid (Below w.heap.size w wr)) (fun _ k _ => n - (intOf k).toNat)
 case atStart => exact ⟨0, Nat.zero_le _, rfl, (fun q hq => by omega), Below.refl _ _⟩
 case round =>
  obtain ⟨j, hj, rfl, hp, hb⟩ := hrel
  by_cases hlt : j < n
  ·obtain ⟨b', o', e', hcc⟩ := (HS.out.keep hb.out).2 (by omega)
   cases e'
   obtain ⟨h1, h2, h3⟩ := hcc j hlt
   have hcr : Hid (wr.cell? ⟨g, 0, none⟩ = some (.int .i64 p)) := by
    show _ = _
    rw [hb.out.cell (p := ⟨g, 0, none⟩) (World.block_lt_of_cell? _ _ HC.out)]; exact HC.out
   obtain ⟨x, hx⟩ : ∃ x, x = Bell.spAt s j := ⟨_, rfl⟩; rw [<- hx] at h1 h2 h3; have HX := lh hx; clear hx hcc
   go_wp2_with fail
   refine (stepAt1_any x p g wr hcr.out).mono ?_; rintro e w2 ⟨rfl, hb2⟩; have HB2 := lh (hb.out.trans (hb2.mono hb.out.size)); clear hb2 h1 h2 h3
   by_cases hle : p < x.d
   ·have hd : decide (p < x.d) = true := decide_eq_true hle
    have hr : Hid (nextSpI s p = (j : Int)) := by
     show _ = _
     have := nextSp_at (p := s) (d := p) (k := j) (by rw [HN.out]; exact hlt) hp.out (by rw [<- HX.out]; exact hle); unfold nextSpI; rw [this, if_neg (by rw [HN.out]; omega)]
    rw [hd]; clear hle hd; go_wp2; go_ret; exact ⟨ret_int hr.out.symm, HB2.out⟩
   ·have hd : decide (p < x.d) = false := decide_eq_false hle
    have hq : Hid (∀ q, q < j + 1 -> (Bell.spAt s q).d <= p) := fun q hq => by
     by_cases hqj : q = j
     ·subst hqj; rw [<- HX.out]; omega
     ·exact hp.out q (by omega)
    rw [hd]; clear hle hd; go_wp2; go_roundw
    case rel => exact ⟨j + 1, by omega, by go_num, hq, HB2⟩
    case measure => simp [intOf]; omega
  ·have hr : Hid (nextSpI s p = -1) := by
    show _ = _
    have := nextSp_none (p := s) (d := p) (fun q hq => hp.out q (by rw [HN.out] at hq; omega)); unfold nextSpI; rw [this, if_pos rfl]
   go_wp2
   go_ret
   exact ⟨ret_int hr.out.symm, hb.out⟩
theorem stepAt2_st (x y k at_ bt : Int) (g1 g2 g3 : Nat) (w : World) (hx : -1000000 <= x /\ x <= 1000000) (hy : -1000000 <= y /\ y <= 1000000) (h0 : 0 <= at_) (h1 : at_ <= k) (h2 : k < bt) (h3 : bt <= 100000000)
  (c1 : w.cell? ⟨g1, 0, none⟩ = some (.int .i64 k)) (c2 : w.cell? ⟨g2, 0, none⟩ = some (.int .i64 at_)) (c3 : w.cell? ⟨g3, 0, none⟩ = some (.int .i64 bt)) :
  Calls Tryz.prog 181 #[.int .i64 x, .int .i64 y, .pointer (some ⟨g1, 0, none⟩), .pointer (some ⟨g2, 0, none⟩), .pointer (some ⟨g3, 0, none⟩)] w fun e w' => e = .returned (.int .i64 (Bell.betw x y (k - at_) (bt - at_))) /\ w' = w := by
 go_enter Tryz.func181, Tryz.ntmps181
 go_wp2_with fail
 refine (between_st x y (k - at_) (bt - at_) _ (by omega) (by omega) (by omega) (by omega) (by omega) (by omega) (by omega) (by omega)).mono ?_; rintro e w' ⟨rfl, rfl⟩; go_wp2; go_ret; exact ⟨rfl, rfl⟩
attribute [local go_sem] growsTo growUpon in
set_option maxHeartbeats 1000000 in
set_option maxRecDepth 100000 in
theorem stepAt_any (b o n c : Nat) (p : List Bell.Sp) (d : Int) (w : World) (hl : SpsAt w (some ⟨b, o, none⟩) n p) (hg : Bell.GoodSp p) (hn8 : n <= 8) (hm : ∀ i, i < p.length -> (Bell.spAt p i).d <= 400000) (hd0 : 0 <= d) :
  Calls Tryz.prog 130 #[.slice (some ⟨b, o, none⟩) n c, .int .i64 d] w fun e w' => e = .returned (.agg #[.int .i64 d, .int .i64 (Bell.heightAt p d), .int .i64 (Bell.powerAt p d)]) /\ Below w.heap.size w w' := by
 have hn := hl.1; have g1 := hg.lo; have HL := lh hl; have HIX := lh (fun (g : Nat) (W : World) (hb : Below w.heap.size w W) (hc : W.cell? ⟨g, 0, none⟩ = some (.int .i64 d)) => indexFunc_step b o n c g p d W (hl.keep hb) hn8 hc)
 have hk1 : Bell.nextSp p d ≠ p.length -> 1 <= Bell.nextSp p d /\ Bell.nextSp p d < p.length /\ (Bell.spAt p (Bell.nextSp p d - 1)).d <= d /\ d < (Bell.spAt p (Bell.nextSp p d)).d := fun h => by
  have := Bell.next_sp hg hd0 h
  omega
 obtain ⟨H, hH⟩ : ∃ x, x = Bell.heightAt p d := ⟨_, rfl⟩; obtain ⟨O, hO⟩ : ∃ x, x = Bell.powerAt p d := ⟨_, rfl⟩; rw [<- hH, <- hO]; have HB : Hid (Below w.heap.size w w) := Below.refl _ _; have HZ0 := hg.zero; have hh := hg.h0; have hp := hg.p0; have hHn : Bell.nextSp p d = p.length -> H = (Bell.spAt p (p.length - 1)).h := fun h => by rw [hH]; unfold Bell.heightAt; rw [if_pos h]
 have hOn : Bell.nextSp p d = p.length -> O = (Bell.spAt p (p.length - 1)).p := fun h => by rw [hO]; unfold Bell.powerAt; rw [if_pos h]
 have hHk : Bell.nextSp p d ≠ p.length -> H = Bell.betw (Bell.spAt p (Bell.nextSp p d - 1)).h (Bell.spAt p (Bell.nextSp p d)).h (d - (Bell.spAt p (Bell.nextSp p d - 1)).d) ((Bell.spAt p (Bell.nextSp p d)).d - (Bell.spAt p (Bell.nextSp p d - 1)).d) := fun h => by rw [hH]; unfold Bell.heightAt; rw [if_neg h]
 have hOk : Bell.nextSp p d ≠ p.length -> O = Bell.betw (Bell.spAt p (Bell.nextSp p d - 1)).p (Bell.spAt p (Bell.nextSp p d)).p (d - (Bell.spAt p (Bell.nextSp p d - 1)).d) ((Bell.spAt p (Bell.nextSp p d)).d - (Bell.spAt p (Bell.nextSp p d - 1)).d) := fun h => by rw [hO]; unfold Bell.powerAt; rw [if_neg h]
 have HHn := lh hHn; have HOn := lh hOn; have HHk := lh hHk; have HOk := lh hOk; have HK1 := lh hk1; have HHH := lh hh; have HPP := lh hp; have HM := lh hm; have HUP := lh hg.up; have hnl : Hid (p.length = n) := hn; have hn2 : 2 <= n := by rw [<- hn]; exact g1
 clear hl hg hk1 hH hO hHn hOn hHk hOk hh hp hm hn g1
 go_enter Tryz.func130, Tryz.ntmps130
 go_upto_region 1 with fail
 obtain ⟨wa, hwa⟩ : ∃ W, W = ((w.alloc (.cells #[.int .i64 d] 3)).alloc (.cells #[.int .i64 0, .int .i64 0, .int .i64 0] 166)) := ⟨_, rfl⟩; rw [<- hwa]; have D : Hid (Blk wa (w.heap.size) 3 #[.int .i64 d]) := by show Blk _ _ _ _; rw [hwa]; exact (Blk.new _ _ _).alloc _
 have Z : Hid (Blk wa (w.heap.size + 1) 166 #[.int .i64 0, .int .i64 0, .int .i64 0]) := by show Blk _ _ _ _; rw [hwa]; exact Blk.at_size _ _ (by simp)
 have hba : Below w.heap.size w wa := by rw [hwa]; exact (((Below.refl _ _).alloc (Nat.le_refl _) _).alloc (by simp) _)
 obtain ⟨gd, hgd⟩ : ∃ g, g = w.heap.size := ⟨_, rfl⟩; obtain ⟨gz, hgz⟩ : ∃ g, g = w.heap.size + 1 := ⟨_, rfl⟩; have HGwa : Hid (gd = w.heap.size /\ gz = w.heap.size + 1) := ⟨hgd, hgz⟩; rw [<- hgz] at Z
 try rw [<- hgz]
 rw [<- hgd] at D
 try rw [<- hgd]
 clear hwa hgd hgz; replace HB := lh (HB.out.trans (hba.mono HB.out.size)); clear hba; have d0 := D.out.cell 0; simp only [List.getElem?_toArray, List.getElem?_cons_zero] at d0
 go_wp2_with fail
 refine (HIX.out gd wa HB.out d0).mono ?_; rintro e wb ⟨rfl, hbb⟩; clear d0; replace HB := lh (HB.out.trans (hbb.mono HB.out.size)); replace D := lh (D.out.below hbb); replace Z := lh (Z.out.below hbb); clear hbb
 by_cases hN : Bell.nextSp p d = p.length
 ·have hv : nextSpI p d = -1 := by unfold nextSpI; rw [if_pos hN]
  have hH := HHn.out hN; have hO := HOn.out hN; rw [hv]; obtain ⟨m, rfl⟩ : ∃ m, n = m + 1 := ⟨n - 1, by omega⟩; obtain ⟨b', o', e', hcc⟩ := (HL.out.keep HB.out).2 (by omega)
  cases e'
  obtain ⟨c1, c2, c3⟩ := hcc m (by omega); rw [hnl.out, Nat.add_sub_cancel] at hH hO; obtain ⟨S, hS⟩ : ∃ x, x = Bell.spAt p m := ⟨_, rfl⟩; rw [<- hS] at c1 c2 c3 hH hO; have HHx := lh hH; have HOx := lh hO; clear hS hcc hH hO hv hN
  go_upto_region 4 with fail
  obtain ⟨wc, hwc⟩ : ∃ W, W = (wb.alloc (.cells #[.int .i64 S.d, .int .i64 S.h, .int .i64 S.p] 166)) := ⟨_, rfl⟩; rw [<- hwc]; have E : Hid (Blk wc (wb.heap.size) 166 #[.int .i64 S.d, .int .i64 S.h, .int .i64 S.p]) := by show Blk _ _ _ _; rw [hwc]; exact Blk.new _ _ _
  have hbc : Below wb.heap.size wb wc := by rw [hwc]; exact ((Below.refl _ _).alloc (Nat.le_refl _) _)
  obtain ⟨ge, hge⟩ : ∃ g, g = wb.heap.size := ⟨_, rfl⟩; have HGwc : Hid (ge = wb.heap.size) := hge; rw [<- hge] at E
  try rw [<- hge]
  clear hwc hge; replace HB := lh (HB.out.trans (hbc.mono HB.out.size)); replace D := lh (D.out.below hbc); replace Z := lh (Z.out.below hbc); clear hbc; clear c1 c2 c3; have d0 := D.out.cell 0; have e1 := E.out.cell 1; have e2 := E.out.cell 2; simp only [List.getElem?_toArray, List.getElem?_cons_zero, List.getElem?_cons_succ] at d0 e1 e2; have hlv := (Z.out.setRow #[.int .i64 d, .int .i64 S.h, .int .i64 S.p]).lv Tryz.prog (T := 166) Tryz.underlying166 rfl (by kernel_rfl); have HLV := lh hlv; clear hlv
  go_wp2_with (refine wpList_store_row rfl 166 _ _ rfl gz #[.int .i64 d, .int .i64 S.h, .int .i64 S.p] rfl rfl 166 _ Z.out (by kernel_rfl) rfl (by simp [Value.oneCell']) ?_)
  refine bodyPost_ret (v := .agg #[.int .i64 d, .int .i64 S.h, .int .i64 S.p]) (by simp [results, Tryz.results130, asAddr]; exact HLV.out) rfl ?_; exact ⟨by rw [HHx.out, HOx.out], HB.out.setRow' (by rw [HGwa.out.2]; omega) _⟩
 ·obtain ⟨k1, k2, k3, k4⟩ := HK1.out hN; have hv : nextSpI p d = (Bell.nextSp p d : Int) := by unfold nextSpI; rw [if_neg hN]
  have hH := HHk.out hN; have hO := HOk.out hN; rw [hv]; obtain ⟨q, hq⟩ : ∃ q, Bell.nextSp p d = q + 1 := ⟨Bell.nextSp p d - 1, by omega⟩; rw [hq] at k2 k3 k4 hH hO ⊢; rw [Nat.add_sub_cancel] at k3 hH hO; rw [show ((q + 1 : Nat) : Int) = (q : Int) + 1 by omega]; obtain ⟨b', o', e', hcc⟩ := (HL.out.keep HB.out).2 (by omega)
  cases e'
  have k5 : q + 1 < n := by rw [<- hnl.out]; exact k2
  obtain ⟨c1, c2, c3⟩ := hcc q (by omega); obtain ⟨f1, f2, f3⟩ := hcc (q + 1) k5; have ha := HHH.out q (by omega); have hb' := HHH.out (q + 1) k2; have pa := HPP.out q (by omega); have pb := HPP.out (q + 1) k2; have m2 := HM.out (q + 1) k2; obtain ⟨S, hS⟩ : ∃ x, x = Bell.spAt p q := ⟨_, rfl⟩; obtain ⟨T, hT⟩ : ∃ x, x = Bell.spAt p (q + 1) := ⟨_, rfl⟩; rw [<- hS] at c1 c2 c3 hH hO ha pa k3; rw [<- hT] at f1 f2 f3 hH hO hb' pb k4 m2
  have hS0 : Hid (0 <= S.d) := by
   show 0 <= S.d
   rw [hS]; rcases Nat.eq_zero_or_pos q with h | h
   ·rw [h, HZ0]; exact Int.le_refl _
   ·have := HUP.out 0 q h (by omega); rw [HZ0] at this; omega
  have HHx := lh hH; have HOx := lh hO; clear hS hT hcc hH hO hv hN k1 k2 hq
  go_upto_region 5 with fail
  have q1 : (q : Int) < (n : Int) := by omega
  have q2 : (q : Int) + 1 < (n : Int) := by omega
  have q3 : (0 : Int) <= (q : Int) := by omega
  have q4 : IntKind.i64.wrap (q : Int) = (q : Int) := IntWalk.i64_in _ (by omega); have q5 : q < n := by omega
  have hbl := World.block_lt_of_cell? _ _ c1; simp only at hbl; have e1 : (b = wb.heap.size) = False := by simp; omega
  have e2 : (b = wb.heap.size + 1) = False := by simp; omega
  apply via3 (A := fun (W : World) (a : Nat) => Hid (Blk W a 166 #[.int .i64 S.d, .int .i64 S.h, .int .i64 S.p])) (B := fun (W : World) (a : Nat) => Hid (Blk W a 166 #[.int .i64 T.d, .int .i64 T.h, .int .i64 T.p])) (C := fun W => Hid (Below wb.heap.size wb W))
  ·intro key
   go_region
   all_goals
    first
    | (obtain ⟨w2, hw2⟩ : ∃ W, W = ((wb.alloc (.cells #[.int .i64 S.d, .int .i64 S.h, .int .i64 S.p] 166)).alloc (.cells #[.int .i64 T.d, .int .i64 T.h, .int .i64 T.p] 166)).drew := ⟨_, rfl⟩
       rw [<- hw2]; have P2 : Hid (Blk w2 (wb.heap.size) 166 #[.int .i64 S.d, .int .i64 S.h, .int .i64 S.p]) := by show Blk _ _ _ _; rw [hw2]; exact ((Blk.new _ _ _).alloc _).drew
       have F2 : Hid (Blk w2 (wb.heap.size + 1) 166 #[.int .i64 T.d, .int .i64 T.h, .int .i64 T.p]) := by show Blk _ _ _ _; rw [hw2]; exact (Blk.at_size _ _ (by simp)).drew
       have hb2 : Hid (Below wb.heap.size wb w2) := by show Below _ _ _; rw [hw2]; exact (((Below.refl _ _).alloc (Nat.le_refl _) _).alloc (by simp) _).drew
       obtain ⟨gP, hgP⟩ : ∃ x, x = wb.heap.size := ⟨_, rfl⟩; obtain ⟨gF, hgF⟩ : ∃ x, x = wb.heap.size + 1 := ⟨_, rfl⟩; rw [<- hgP] at P2; rw [<- hgF] at F2; rw [<- hgF, <- hgP]; exact key w2 gP gF P2 F2 hb2)
    | (obtain ⟨w2, hw2⟩ : ∃ W, W = ((wb.alloc (.cells #[.int .i64 T.d, .int .i64 T.h, .int .i64 T.p] 166)).alloc (.cells #[.int .i64 S.d, .int .i64 S.h, .int .i64 S.p] 166)).drew := ⟨_, rfl⟩
       rw [<- hw2]; have F2 : Hid (Blk w2 (wb.heap.size) 166 #[.int .i64 T.d, .int .i64 T.h, .int .i64 T.p]) := by show Blk _ _ _ _; rw [hw2]; exact ((Blk.new _ _ _).alloc _).drew
       have P2 : Hid (Blk w2 (wb.heap.size + 1) 166 #[.int .i64 S.d, .int .i64 S.h, .int .i64 S.p]) := by show Blk _ _ _ _; rw [hw2]; exact (Blk.at_size _ _ (by simp)).drew
       have hb2 : Hid (Below wb.heap.size wb w2) := by show Below _ _ _; rw [hw2]; exact (((Below.refl _ _).alloc (Nat.le_refl _) _).alloc (by simp) _).drew
       obtain ⟨gF, hgF⟩ : ∃ x, x = wb.heap.size := ⟨_, rfl⟩; obtain ⟨gP, hgP⟩ : ∃ x, x = wb.heap.size + 1 := ⟨_, rfl⟩; rw [<- hgF] at F2; rw [<- hgP] at P2; rw [<- hgP, <- hgF]; exact key w2 gP gF P2 F2 hb2)
  intro w2 g1 g2 Bg1 Bg2 hbw2; replace hbw2 := hbw2.out; replace HB := lh (HB.out.trans (hbw2.mono HB.out.size)); replace D := lh (D.out.below hbw2); replace Z := lh (Z.out.below hbw2); clear hbw2; have F2 := Bg1; have T2 := Bg2; clear hbl e1 e2 c1 c2 c3 f1 f2 f3 q1 q2 q3 q4 q5; obtain ⟨ha1, ha2⟩ := ha; obtain ⟨hb1, hb2⟩ := hb'; obtain ⟨pa1, pa2⟩ := pa; obtain ⟨pb1, pb2⟩ := pb; have hS1 := hS0.out
  go_upto_region 7 with fail
  have dd := fun d os => cell_regrown (D.out.cell 0) d os
  have s0 := fun d os => cell_regrown (F2.out.cell 0) d os
  have s1 := fun d os => cell_regrown (F2.out.cell 1) d os
  have s2 := fun d os => cell_regrown (F2.out.cell 2) d os
  have t0 := fun d os => cell_regrown (T2.out.cell 0) d os
  have t1 := fun d os => cell_regrown (T2.out.cell 1) d os
  have t2 := fun d os => cell_regrown (T2.out.cell 2) d os
  have ch := fun nd ns => Calls.regrown_of (Calls.grow_same (stepAt2_st S.h T.h d S.d T.d gd g1 g2 (grow (redrawn w2 nd) ns) (by omega) (by omega) hS1 k3 k4 (by omega) (dd nd ns) (s0 nd ns) (t0 nd ns)))
  have cp := fun nd ns => Calls.regrown_of (Calls.grow_same (stepAt2_st S.p T.p d S.d T.d gd g1 g2 (grow (redrawn w2 nd) ns) (by omega) (by omega) hS1 k3 k4 (by omega) (dd nd ns) (s0 nd ns) (t0 nd ns)))
  refine wp_region_below_tail 14 (by kernel_rfl) (by kernel_rfl) ?_; simp only [List.take_succ_cons, List.take_zero, List.drop_succ_cons, List.drop_zero]
  iterate 6 (quiet_step (fail))
  quiet_step (exact ch _ _)
  iterate 5 (quiet_step (fail))
  quiet_step (exact cp _ _)
  iterate 1 (quiet_step (fail))
  refine wpQuiet_nil ?_; intro w3 hq1; obtain ⟨⟨dq, osq⟩, hq2⟩ := hq1; have hb3 := below_regrown w2 dq osq; rw [<- hq2] at hb3; clear hq2; replace HB := lh (HB.out.trans (hb3.mono HB.out.size)); replace Z := lh (Z.out.below hb3); clear hb3; clear dd s0 s1 s2 t0 t1 t2 ch cp F2 T2 D; have hlv := (Z.out.setRow #[.int .i64 d, .int .i64 (Bell.betw S.h T.h (d - S.d) (T.d - S.d)), .int .i64 (Bell.betw S.p T.p (d - S.d) (T.d - S.d))]).lv Tryz.prog (T := 166) Tryz.underlying166 rfl (by kernel_rfl); have HLV := lh hlv; clear hlv
  go_wp2_with (refine wpList_store_row rfl 166 _ _ rfl gz #[.int .i64 d, .int .i64 (Bell.betw S.h T.h (d - S.d) (T.d - S.d)), .int .i64 (Bell.betw S.p T.p (d - S.d) (T.d - S.d))] rfl rfl 166 _ Z.out (by kernel_rfl) rfl (by simp [Value.oneCell']) ?_)
  refine bodyPost_ret (v := .agg #[.int .i64 d, .int .i64 (Bell.betw S.h T.h (d - S.d) (T.d - S.d)), .int .i64 (Bell.betw S.p T.p (d - S.d) (T.d - S.d))]) (by simp [results, Tryz.results130, asAddr]; exact HLV.out) rfl ?_; exact ⟨by rw [HHx.out, HOx.out], HB.out.setRow' (by rw [HGwa.out.2]; omega) _⟩
end Go.Proofs.YtmafmebcgmegeaaGreatDoor
