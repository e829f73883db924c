/- Texts Q7 of the proof. -/
import Derived.BigQuiet
import Derived.Test.YtmafmebcgmegeaaGreatDoorY22
namespace Go.Proofs.YtmafmebcgmegeaaGreatDoor
open Go.RowKit Go.Sort
/-- The points of a path without a fault. -/
structure GoodPath (l : List Bell.Pt) : Prop where
  lo : 2 ≤ l.length
  hi : l.length ≤ 16
  x : ∀ i, i < l.length → -100000 ≤ (Bell.ptAt l i).x ∧ (Bell.ptAt l i).x ≤ 100000
  y : ∀ i, i < l.length → -100000 ≤ (Bell.ptAt l i).y ∧ (Bell.ptAt l i).y ≤ 100000
theorem lengthE_zero {n : Nat} {k : Nat} (h : lengthE n (k : Int) = 0) : 2 ≤ n ∧ n ≤ k := by
  unfold lengthE atMostE at h
  split at h
  · cases h
  · split at h
    · cases h
    · omega
theorem goodPath_of {l : List Bell.Pt} (h : pathE l = 0) : GoodPath l := by
  obtain ⟨h1, h2⟩ := andE_zero h
  obtain ⟨a, b⟩ := lengthE_zero (k := 16) h1
  have hz := firstR_zero h2
  refine ⟨a, b, fun i hi => ?_, fun i hi => ?_⟩
  · have := (firstE2_zero (andE_zero (hz i hi)).1).1
    exact withinE_zero this
  · have := (firstE2_zero (andE_zero (hz i hi)).1).2
    exact withinE_zero this
theorem absI_upto {a b : Int} (h1 : -100000 ≤ a ∧ a ≤ 100000) (h2 : -100000 ≤ b ∧ b ≤ 100000) : 0 ≤ Bell.absI a b ∧ Bell.absI a b ≤ 200000 := by unfold Bell.absI; omega
theorem lenTo_upto {l : List Bell.Pt} (g : GoodPath l) (i : Nat) (hi : i < l.length) : Bell.lenTo l i ≤ 400000 * i := by
  induction i with
  | zero => simp [Bell.lenTo]
  | succ i ih =>
    have h := ih (by omega)
    have h1 := absI_upto (g.x (i + 1) hi) (g.x i (by omega))
    have h2 := absI_upto (g.y (i + 1) hi) (g.y i (by omega))
    rw [Bell.lenTo]
    omega
set_option maxHeartbeats 1000000 in
set_option maxRecDepth 100000 in
theorem lengths_any (b o n c : Nat) (l : List Bell.Pt) (w : World) (hl : PtsAt w (some ⟨b, o, none⟩) n l) (hg : GoodPath l) (hcap : n ≤ c) (hc2 : c ≤ 9223372036854775807) :
    Calls Tryz.prog 129 #[.slice (some ⟨b, o, none⟩) n c] w fun e w' => ∃ g, e = .returned (.slice (some ⟨g, 0, none⟩) n n) ∧ w.heap.size ≤ g ∧ (∀ i, i < n → w'.cell? ⟨g, i, none⟩ = some (.int .i64 (Bell.lenTo l i))) ∧ Below w.heap.size w w' := by
  obtain ⟨i0, hi, hz0, hz1, hz2⟩ := info_parts infoInt
  have hn := hl.1
  have g1 := hg.lo
  have g2 := hg.hi
  obtain ⟨m, rfl⟩ : ∃ m, n = m + 1 := ⟨n - 1, by omega⟩
  have hm1 : 1 ≤ m := by omega
  have hm2 : m ≤ 15 := by omega
  have hlm : Hid (l.length = m + 1) := hn
  have HL := Lib.hid hl
  have HG := Lib.hid hg
  have hsl : ∀ W, (Instr.slice 82 (.slice (some ⟨b, o, none⟩) (m + 1) c) (some (.int .i64 1)) none none).run Tryz.prog W = .ok (.slice (some ⟨b, o + 2, none⟩) m (c - 1)) W := fun W => by
    rw [run_slice_l W _ _ _ _ (by kernel_rfl) .i64 _ (by omega) (by omega), show Tryz.prog.elem 82 = 30 by kernel_rfl, show (Go.sizeOf 30).run Tryz.prog W = .ok 2 W by kernel_rfl]
    have h1 : ¬ c = 1 := by omega
    simp [Result.andThen, sliced, Addr.add, h1]
  have HB : Hid (Below w.heap.size w w) := Below.refl _ _
  clear hl hg hn g1 g2 hcap hc2
  go_enter Tryz.func129, Tryz.ntmps129
  go_upto_region 2 with (at_make; refine wpList_make_full _ rfl _ _ 22 rfl w.heap.size 3 i0 (.int .i64 0) 1 Tryz.underlying22 hi hz0 hz1 _ _ _ _ (m + 1) rfl rfl rfl rfl (by rw [hz2]; omega) (by unfold maxLen; omega) (Nat.le_refl _) ?_; intro w5 hown hg5)
  obtain ⟨cur, hbk, hcs, hgb, hcx⟩ := own_full hown
  have hb5 : Below w.heap.size w w5 := Below.grown (Below.refl _ _) hg5 (Nat.le_refl _) (fun k hk => by cases hk)
  have hc0 : cur[0]? = some (.int .i64 0) := by
    rw [made_zero] at hcx
    have : cur.toList[0]? = some (.int .i64 0) := by rw [hcx]; simp
    simpa using this
  obtain ⟨gr, hgr⟩ : ∃ g, g = w.heap.size := ⟨_, rfl⟩
  have HGR := Lib.hid hgr
  rw [← hgr] at hbk ⊢
  have HC0 : Hid (∃ cur, Blk w5 gr 3 cur ∧ cur.size = m + 1 ∧ ∀ i, i ≤ 0 → cur[i]? = some (.int .i64 (Bell.lenTo l i))) := ⟨cur, hbk, by rw [hcs, Nat.mul_one], fun i hi => by obtain rfl : i = 0 := (by omega); exact hc0⟩
  have HB5 : Hid (Below w.heap.size w w5) := hb5
  clear hown hg5 hgb hgr hbk hb5 hc0 hcx hcs HB
  go_wp2
  go_loopw [4, 5, 6, 13] (fun _ _ _ k wr => ∃ j : Nat, j ≤ m ∧ k = .int .i64 j ∧ Hid (∃ cur, Blk wr gr 3 cur ∧ cur.size = m + 1 ∧ ∀ i, i ≤ j → cur[i]? = some (.int .i64 (Bell.lenTo l i))) ∧ Hid (Below w.heap.size w wr)) (fun _ _ _ k _ => m - (intOf k).toNat)
  case atStart => exact ⟨0, Nat.zero_le _, rfl, HC0, HB5⟩
  case round =>
    obtain ⟨j, hj, rfl, hC, hb⟩ := hrel
    clear HC0 HB5
    by_cases hlt : j < m
    · obtain ⟨cur, hbk, hcs, hcx⟩ := hC.out
      obtain ⟨b', o', e', hc⟩ := (HL.out.keep hb.out).2 (by omega)
      cases e'
      obtain ⟨c1, c2⟩ := hc (j + 1) (by omega)
      obtain ⟨d1, d2⟩ := hc j (by omega)
      rw [show o + (j + 1) * 2 = o + 2 + j * 2 by omega] at c1 c2
      have x1 := HG.out.x (j + 1) (by rw [hlm.out]; omega)
      have y1 := HG.out.y (j + 1) (by rw [hlm.out]; omega)
      have u1 := HG.out.x j (by rw [hlm.out]; omega)
      have v1 := HG.out.y j (by rw [hlm.out]; omega)
      have hL1 := lenTo_upto HG.out j (by rw [hlm.out]; omega)
      have hL0 := Bell.lenTo_nonneg l j
      have hS : Hid (Bell.lenTo l (j + 1) = Bell.lenTo l j + Bell.absI (Bell.ptAt l (j + 1)).x (Bell.ptAt l j).x + Bell.absI (Bell.ptAt l (j + 1)).y (Bell.ptAt l j).y) := rfl
      obtain ⟨x, hx⟩ : ∃ x, x = (Bell.ptAt l (j + 1)).x := ⟨_, rfl⟩
      obtain ⟨y, hy⟩ : ∃ y, y = (Bell.ptAt l (j + 1)).y := ⟨_, rfl⟩
      obtain ⟨u, hu⟩ : ∃ u, u = (Bell.ptAt l j).x := ⟨_, rfl⟩
      obtain ⟨v, hv⟩ : ∃ v, v = (Bell.ptAt l j).y := ⟨_, rfl⟩
      rw [← hx] at c1 x1 hS
      rw [← hy] at c2 y1 hS
      rw [← hu] at d1 u1 hS
      rw [← hv] at d2 v1 hS
      have hbl := World.block_lt_of_cell? _ _ d1
      simp only at hbl
      clear hc hx hy hu hv
      have hcj := hcx j (Nat.le_refl _)
      obtain ⟨L, hL⟩ : ∃ L, L = Bell.lenTo l j := ⟨_, rfl⟩
      rw [← hL] at hcj hL1 hL0 hS
      obtain ⟨DX, hDX⟩ : ∃ D, D = Bell.absI x u := ⟨_, rfl⟩
      obtain ⟨DY, hDY⟩ : ∃ D, D = Bell.absI y v := ⟨_, rfl⟩
      have a1 := absI_upto x1 u1
      have a2 := absI_upto y1 v1
      have r1 : ∀ ts t W, (Builtin.max_ ts t #[.int .i64 (x - u), .int .i64 (u - x)]).run Tryz.prog W = .ok (.int .i64 DX) W := fun ts t W => by rw [hDX]; exact run_max2' _ _ _ _ _ _
      have r2 : ∀ ts t W, (Builtin.max_ ts t #[.int .i64 (y - v), .int .i64 (v - y)]).run Tryz.prog W = .ok (.int .i64 DY) W := fun ts t W => by rw [hDY]; exact run_max2' _ _ _ _ _ _
      rw [← hDX] at a1 hS
      rw [← hDY] at a2 hS
      obtain ⟨x1, x2⟩ := x1
      obtain ⟨y1, y2⟩ := y1
      obtain ⟨u1, u2⟩ := u1
      obtain ⟨v1, v2⟩ := v1
      obtain ⟨a11, a12⟩ := a1
      obtain ⟨a21, a22⟩ := a2
      have hL2 : L ≤ 6000000 := by omega
      have s1 : IntKind.i64.wrap (x - u) = x - u := IntWalk.i64_in _ (by omega)
      have s2 : IntKind.i64.wrap (u - x) = u - x := IntWalk.i64_in _ (by omega)
      have s3 : IntKind.i64.wrap (y - v) = y - v := IntWalk.i64_in _ (by omega)
      have s4 : IntKind.i64.wrap (v - y) = v - y := IntWalk.i64_in _ (by omega)
      have s5 : IntKind.i64.wrap (L + DX) = L + DX := IntWalk.i64_in _ (by omega)
      have s6 : IntKind.i64.wrap (L + DX + DY) = L + DX + DY := IntWalk.i64_in _ (by omega)
      have s7 : IntKind.i64.wrap ((j : Int) + 1) = (j : Int) + 1 := IntWalk.i64_in _ (by omega)
      have HBK := Lib.hid hbk
      have HCX := Lib.hid hcx
      have HCS := Lib.hid hcs
      have HCJ := Lib.hid hcj
      have hji : (j : Int) < (m : Int) + 1 := by omega
      have hj0 : (0 : Int) ≤ (j : Int) := by omega
      have hjn : j < m + 1 := by omega
      clear hL hDX hDY hL1 hbk hcx hcs hC hcj
      go_upto_region 6 with fail
      have HB := hb
      obtain ⟨wa, hwa⟩ : ∃ W, W = ((wr.alloc (.cells #[.int .i64 x, .int .i64 y] 30)).alloc (.cells #[.int .i64 u, .int .i64 v] 30)) := ⟨_, rfl⟩
      rw [← hwa]
      have PX : Hid (Blk wa (wr.heap.size) 30 #[.int .i64 x, .int .i64 y]) := by show Blk _ _ _ _; rw [hwa]; exact (Blk.new _ _ _).alloc _
      have PB : Hid (Blk wa (wr.heap.size + 1) 30 #[.int .i64 u, .int .i64 v]) := by show Blk _ _ _ _; rw [hwa]; exact Blk.at_size _ _ (by simp)
      have hba : Below wr.heap.size wr wa := by rw [hwa]; exact (((Below.refl _ _).alloc (Nat.le_refl _) _).alloc (by simp) _)
      obtain ⟨gx, hgx⟩ : ∃ g, g = wr.heap.size := ⟨_, rfl⟩
      obtain ⟨gy, hgy⟩ : ∃ g, g = wr.heap.size + 1 := ⟨_, rfl⟩
      have HGwa : Hid (gx = wr.heap.size ∧ gy = wr.heap.size + 1) := ⟨hgx, hgy⟩
      rw [← hgy] at PB
      try rw [← hgy]
      rw [← hgx] at PX
      try rw [← hgx]
      clear hwa hgx hgy
      replace HB := Lib.hid (HB.out.trans (hba.mono HB.out.size))
      replace HBK := Lib.hid (HBK.out.below hba)
      clear hba
      clear c1 c2 d1 d2 hb
      have e0 := fun d os => cell_regrown (PX.out.cell 0) d os
      have e1 := fun d os => cell_regrown (PX.out.cell 1) d os
      have f0 := fun d os => cell_regrown (PB.out.cell 0) d os
      have f1 := fun d os => cell_regrown (PB.out.cell 1) d os
      have lj := fun d os => cell_regrown ((HBK.out.cell j).trans HCJ.out) d os
      refine wp_region_below_tail 31 (by kernel_rfl) (by kernel_rfl) ?_
      simp only [List.take_succ_cons, List.take_zero, List.drop_succ_cons, List.drop_zero]
      repeat (go_big_quiet_step (fail))
      refine wpQuiet_nil ?_
      intro wb hq1
      obtain ⟨⟨dq, osq⟩, hq2⟩ := hq1
      have hbb := below_regrown wa dq osq
      rw [← hq2] at hbb
      clear hq2
      replace HB := Lib.hid (HB.out.trans (hbb.mono HB.out.size))
      replace HBK := Lib.hid (HBK.out.below hbb)
      clear hbb
      clear e0 e1 f0 f1 lj r1 r2 s1 s2 s3 s4 s5 PX PB x1 x2 y1 y2 u1 u2 v1 v2
      obtain ⟨z, hz⟩ : ∃ z, cur[j + 1]? = some z := ⟨_, Array.getElem?_eq_getElem (by rw [HCS.out]; omega)⟩
      have hc1 := (HBK.out.cell (j + 1)).trans hz
      have hf1 := HBK.out.frozen (j + 1)
      have hj1 : (j : Int) + 1 < (m : Int) + 1 := by omega
      obtain ⟨N, hN⟩ : ∃ N, N = L + DX + DY := ⟨_, rfl⟩
      rw [← hN] at hS ⊢
      have HC2 : Hid (∃ cur, Blk (wb.setCell ⟨gr, j + 1, none⟩ (.int .i64 N)) gr 3 cur ∧ cur.size = m + 1 ∧ ∀ i, i ≤ j + 1 → cur[i]? = some (.int .i64 (Bell.lenTo l i))) := by
        refine ⟨_, HBK.out.set_ (j + 1) (.int .i64 N), by simpa using HCS.out, fun i hi => ?_⟩
        by_cases h : i = j + 1
        · subst h
          rw [hS.out]
          rw [Array.getElem?_setIfInBounds_self_of_lt (by rw [HCS.out]; omega)]
        · rw [Array.getElem?_setIfInBounds_ne (by omega)]
          exact HCX.out i (by omega)
      have HB2 : Hid (Below w.heap.size w (wb.setCell ⟨gr, j + 1, none⟩ (.int .i64 N))) := HB.out.setCell (p := ⟨gr, j + 1, none⟩) (by rw [HGR.out]; exact Nat.le_refl _) _
      clear hN s6 a11 a12 a21 a22 hL0 hL2 hz
      go_wp2
      go_roundw
      case rel => exact ⟨j + 1, by omega, by go_num, HC2, HB2⟩
      case measure => simp [intOf]; omega
    · obtain rfl : j = m := by omega
      obtain ⟨cur, hbk, hcs, hcx⟩ := hC.out
      have HCX := Lib.hid hcx
      have HBK := Lib.hid hbk
      clear hcx hbk hcs
      go_wp2
      (try simp only [Exit.inBlock, Exit.then])
      refine bodyPost_ret (v := .slice (some ⟨gr, 0, none⟩) (j + 1) (j + 1)) (by simp [results, Tryz.results129, go_sem, asAddr]) rfl ?_
      exact ⟨gr, rfl, by rw [HGR.out]; exact Nat.le_refl _, fun i hi => by rw [HBK.out.cell]; exact HCX.out i (by omega), hb.out⟩
end Go.Proofs.YtmafmebcgmegeaaGreatDoor
