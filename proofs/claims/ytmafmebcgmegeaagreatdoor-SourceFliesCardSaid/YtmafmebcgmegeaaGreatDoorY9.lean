/- Texts I4 of the proof. -/
import Derived.Test.YtmafmebcgmegeaaGreatDoorY7
import Derived.Test.YtmafmebcgmegeaaGreatDoorY8
namespace Go.Proofs.YtmafmebcgmegeaaGreatDoor
open Go.RowKit Go.Sort
attribute [local go_sem] growsTo growUpon
set_option maxHeartbeats 2000000 in
set_option maxRecDepth 100000 in
theorem boxSquares_any (a b c x y z r s t : Int) (w : World) (h1 : Three 400000 a b c) (h2 : Three 400000 x y z) (h3 : Three 400000 r s t) :
    Calls Tryz.prog 185 #[.agg #[.int .i64 a, .int .i64 b, .int .i64 c], .agg #[.int .i64 x, .int .i64 y, .int .i64 z], .agg #[.int .i64 r, .int .i64 s, .int .i64 t]] w
      fun e w' => e = .returned (.agg #[.int .i64 (nearSq (a - r) (x - r) + nearSq (b - s) (y - s) + nearSq (c - t) (z - t)), .int .i64 (farSq (a - r) (x - r) + farSq (b - s) (y - s) + farSq (c - t) (z - t))]) ∧ Below w.heap.size w w' := by
  obtain ⟨⟨a1, a2⟩, ⟨b1, b2⟩, ⟨c1, c2⟩⟩ := h1
  obtain ⟨⟨x1, x2⟩, ⟨y1, y2⟩, ⟨z1, z2⟩⟩ := h2
  obtain ⟨⟨r1, r2⟩, ⟨s1, s2⟩, ⟨t1, t2⟩⟩ := h3
  go_enter Tryz.func185, Tryz.ntmps185
  go_wp2_with fail
  obtain ⟨w0, hw0⟩ : ∃ X, X = (((w.alloc (.cells #[.int .i64 a, .int .i64 b, .int .i64 c] 28)).alloc (.cells #[.int .i64 x, .int .i64 y, .int .i64 z] 28)).alloc (.cells #[.int .i64 r, .int .i64 s, .int .i64 t] 28)).alloc (.cells #[.int .i64 0, .int .i64 0] 253) := ⟨_, rfl⟩
  rw [← hw0]
  have A0 : Hid (Blk w0 w.heap.size 28 #[.int .i64 a, .int .i64 b, .int .i64 c]) := by show Blk _ _ _ _; rw [hw0]; exact (((Blk.new _ _ _).alloc _).alloc _).alloc _
  have X0 : Hid (Blk w0 (w.heap.size + 1) 28 #[.int .i64 x, .int .i64 y, .int .i64 z]) := by show Blk _ _ _ _; rw [hw0]; exact ((Blk.at_size _ _ (by simp)).alloc _).alloc _
  have R0 : Hid (Blk w0 (w.heap.size + 1 + 1) 28 #[.int .i64 r, .int .i64 s, .int .i64 t]) := by show Blk _ _ _ _; rw [hw0]; exact (Blk.at_size _ _ (by simp)).alloc _
  have Z0 : Hid (Blk w0 (w.heap.size + 1 + 1 + 1) 253 #[.int .i64 0, .int .i64 0]) := by show Blk _ _ _ _; rw [hw0]; exact Blk.at_size _ _ (by simp)
  have HB : Hid (Below w.heap.size w w0) := by show Below _ _ _; rw [hw0]; exact ((((Below.refl _ _).alloc (Nat.le_refl _) _).alloc (by simp) _).alloc (by simp; omega) _).alloc (by simp; omega) _
  obtain ⟨ga, hga⟩ : ∃ g, g = w.heap.size := ⟨_, rfl⟩
  rw [← hga] at A0 X0 R0 Z0 ⊢
  replace hga : w.heap.size ≤ ga + 1 + 1 + 1 := by omega
  clear hw0
  have l1 := fun d os => (A0.out.below (below_regrown w0 d os)).lv Tryz.prog (T := 28) Tryz.underlying28 rfl (by kernel_rfl)
  have l2 := fun d os => (X0.out.below (below_regrown w0 d os)).lv Tryz.prog (T := 28) Tryz.underlying28 rfl (by kernel_rfl)
  have l3 := fun d os => (R0.out.below (below_regrown w0 d os)).lv Tryz.prog (T := 28) Tryz.underlying28 rfl (by kernel_rfl)
  have c1 := fun d os => minus_any a b c r s t (grow (redrawn w0 d) os) (by omega) (by omega) (by omega) (by omega) (by omega) (by omega)
  have c2 := fun d os => minus_any x y z r s t (grow (redrawn w0 d) os) (by omega) (by omega) (by omega) (by omega) (by omega) (by omega)
  refine wp_region_made 8 [(6, 7, #[.int .i64 0, .int .i64 0, .int .i64 0], 28), (7, 8, #[.int .i64 0, .int .i64 0, .int .i64 0], 28)] (by kernel_rfl) (by kernel_rfl) (by kernel_rfl) ?_ ?_
  · intro x hx o ho ev W
    simp only [List.mem_cons, List.not_mem_nil, or_false] at hx
    rcases hx with rfl | rfl <;> (obtain rfl := Option.some.inj ho; go_simp)
  simp only [List.take_succ_cons, List.take_zero, List.drop_succ_cons, List.drop_zero]
  refine wpG_load _ _ rfl rfl (by rfl) _ _ rfl l1 ?_
  refine wpG_load _ _ rfl rfl (by rfl) _ _ rfl l3 ?_
  refine wpG_step (by rfl) (fun K hK => ?_)
  go_simp
  first
    | (refine hK _ ?_; clear hK K)
    | (apply Exists.intro
       refine ⟨fun d os => ?_, hK _ ?_⟩
       (exact c1 _ _)
       clear hK K)
  refine wpG_load _ _ rfl rfl (by rfl) _ _ rfl l2 ?_
  refine wpG_load _ _ rfl rfl (by rfl) _ _ rfl l3 ?_
  refine wpG_step (by rfl) (fun K hK => ?_)
  go_simp
  first
    | (refine hK _ ?_; clear hK K)
    | (apply Exists.intro
       refine ⟨fun d os => ?_, hK _ ?_⟩
       (exact c2 _ _)
       clear hK K)
  refine wpG_skip rfl ?_
  refine wpG_skip rfl ?_
  refine wpG_nil ?_
  intro gs w1 hM
  obtain ⟨B1, ge1⟩ := hM.blk 6 _ rfl (by omega) (by simp)
  obtain ⟨B2, ge2⟩ := hM.blk 7 _ rfl (by omega) (by simp)
  have hne := hM.apart 6 7 _ _ rfl rfl (by omega) (by omega) (by simp) (by simp) (by omega)
  have hb := hM.below
  simp only [putAll, alOf, List.find?, Nat.reduceBEq, Option.map, Act.put, List.setIfInBounds_toArray, List.set_cons_zero, List.set_cons_succ]
  clear l1 l2 l3 c1 c2 hM
  obtain ⟨g1, hg1⟩ : ∃ g, g = gs 6 := ⟨_, rfl⟩
  obtain ⟨g2, hg2⟩ : ∃ g, g = gs 7 := ⟨_, rfl⟩
  rw [← hg1] at B1 ge1 hne ⊢
  rw [← hg2] at B2 ge2 hne ⊢
  clear hg1 hg2 gs
  refine wpList_store_row rfl 28 _ _ rfl g1 #[.int .i64 (a - r), .int .i64 (b - s), .int .i64 (c - t)] rfl rfl 28 _ B1 (by kernel_rfl) rfl (by simp [Value.oneCell']) ?_
  refine wpList_store_row rfl 28 _ _ rfl g2 #[.int .i64 (x - r), .int .i64 (y - s), .int .i64 (z - t)] rfl rfl 28 _ (B2.setRow_far hne.symm _) (by kernel_rfl) rfl (by simp [Value.oneCell']) ?_
  obtain ⟨w2, hw2⟩ : ∃ X, X = (w1.setRow g1 #[.int .i64 (a - r), .int .i64 (b - s), .int .i64 (c - t)]).setRow g2 #[.int .i64 (x - r), .int .i64 (y - s), .int .i64 (z - t)] := ⟨_, rfl⟩
  rw [← hw2]
  have F2 : Hid (Blk w2 g1 28 #[.int .i64 (a - r), .int .i64 (b - s), .int .i64 (c - t)]) := by show Blk _ _ _ _; rw [hw2]; exact (B1.setRow _).setRow_far hne _
  have T2 : Hid (Blk w2 g2 28 #[.int .i64 (x - r), .int .i64 (y - s), .int .i64 (z - t)]) := by show Blk _ _ _ _; rw [hw2]; exact (B2.setRow_far hne.symm _).setRow _
  have hb2 : Below w0.heap.size w0 w2 := by rw [hw2]; exact (hb.setRow' ge1 _).setRow' ge2 _
  have Z2 := Lib.hid (Z0.out.below hb2)
  have HB2 := Lib.hid (HB.out.trans (hb2.mono HB.out.size))
  clear hw2 hb hb2 hne ge1 ge2 B1 B2 A0 X0 R0 Z0 HB
  simp only [Act.put]
  go_wp2_with fail
  have p1 := (a - r, x - r)
  have f0 := fun d os => cell_regrown (F2.out.cell 0) d os
  have f1 := fun d os => cell_regrown (F2.out.cell 1) d os
  have f2 := fun d os => cell_regrown (F2.out.cell 2) d os
  have h0 := fun d os => cell_regrown (T2.out.cell 0) d os
  have h1 := fun d os => cell_regrown (T2.out.cell 1) d os
  have h2 := fun d os => cell_regrown (T2.out.cell 2) d os
  have c1 := fun d os => reaches_st (a - r) (x - r) (grow (redrawn w2 d) os) (by omega) (by omega) (by omega) (by omega)
  have c2 := fun d os => reaches_st (b - s) (y - s) (grow (redrawn w2 d) os) (by omega) (by omega) (by omega) (by omega)
  have c3 := fun d os => reaches_st (c - t) (z - t) (grow (redrawn w2 d) os) (by omega) (by omega) (by omega) (by omega)
  obtain ⟨n1, n1'⟩ := nearSq_in (a := a - r) (b := x - r) (by omega) (by omega) (by omega) (by omega)
  obtain ⟨n2, n2'⟩ := nearSq_in (a := b - s) (b := y - s) (by omega) (by omega) (by omega) (by omega)
  obtain ⟨n3, n3'⟩ := nearSq_in (a := c - t) (b := z - t) (by omega) (by omega) (by omega) (by omega)
  obtain ⟨m1, m1'⟩ := farSq_in (a := a - r) (b := x - r) (by omega) (by omega) (by omega) (by omega)
  obtain ⟨m2, m2'⟩ := farSq_in (a := b - s) (b := y - s) (by omega) (by omega) (by omega) (by omega)
  obtain ⟨m3, m3'⟩ := farSq_in (a := c - t) (b := z - t) (by omega) (by omega) (by omega) (by omega)
  clear a1 a2 b1 b2 x1 x2 y1 y2 z1 z2 r1 r2 s1 s2 t1 t2 p1
  refine wp_region_made 18 [(15, 9, #[.int .i64 0, .int .i64 0], 253), (16, 10, #[.int .i64 0, .int .i64 0], 253), (17, 11, #[.int .i64 0, .int .i64 0], 253)] (by kernel_rfl) (by kernel_rfl) (by kernel_rfl) ?_ ?_
  · intro x hx o ho ev W
    simp only [List.mem_cons, List.not_mem_nil, or_false] at hx
    rcases hx with rfl | rfl | rfl <;> (obtain rfl := Option.some.inj ho; go_simp)
  simp only [List.take_succ_cons, List.take_zero, List.drop_succ_cons, List.drop_zero]
  refine wpG_step (by rfl) (fun K hK => ?_)
  go_simp
  first
    | (refine hK _ ?_; clear hK K)
    | (apply Exists.intro
       refine ⟨fun d os => ?_, hK _ ?_⟩
       (fail)
       clear hK K)
  refine wpG_step (by rfl) (fun K hK => ?_)
  go_simp
  first
    | (refine hK _ ?_; clear hK K)
    | (apply Exists.intro
       refine ⟨fun d os => ?_, hK _ ?_⟩
       (fail)
       clear hK K)
  refine wpG_step (by rfl) (fun K hK => ?_)
  go_simp
  first
    | (refine hK _ ?_; clear hK K)
    | (apply Exists.intro
       refine ⟨fun d os => ?_, hK _ ?_⟩
       (fail)
       clear hK K)
  refine wpG_step (by rfl) (fun K hK => ?_)
  go_simp
  first
    | (refine hK _ ?_; clear hK K)
    | (apply Exists.intro
       refine ⟨fun d os => ?_, hK _ ?_⟩
       (fail)
       clear hK K)
  refine wpG_step (by rfl) (fun K hK => ?_)
  go_simp
  first
    | (refine hK _ ?_; clear hK K)
    | (apply Exists.intro
       refine ⟨fun d os => ?_, hK _ ?_⟩
       (exact c1 _ _)
       clear hK K)
  refine wpG_step (by rfl) (fun K hK => ?_)
  go_simp
  first
    | (refine hK _ ?_; clear hK K)
    | (apply Exists.intro
       refine ⟨fun d os => ?_, hK _ ?_⟩
       (fail)
       clear hK K)
  refine wpG_step (by rfl) (fun K hK => ?_)
  go_simp
  first
    | (refine hK _ ?_; clear hK K)
    | (apply Exists.intro
       refine ⟨fun d os => ?_, hK _ ?_⟩
       (fail)
       clear hK K)
  refine wpG_step (by rfl) (fun K hK => ?_)
  go_simp
  first
    | (refine hK _ ?_; clear hK K)
    | (apply Exists.intro
       refine ⟨fun d os => ?_, hK _ ?_⟩
       (fail)
       clear hK K)
  refine wpG_step (by rfl) (fun K hK => ?_)
  go_simp
  first
    | (refine hK _ ?_; clear hK K)
    | (apply Exists.intro
       refine ⟨fun d os => ?_, hK _ ?_⟩
       (fail)
       clear hK K)
  refine wpG_step (by rfl) (fun K hK => ?_)
  go_simp
  first
    | (refine hK _ ?_; clear hK K)
    | (apply Exists.intro
       refine ⟨fun d os => ?_, hK _ ?_⟩
       (exact c2 _ _)
       clear hK K)
  refine wpG_step (by rfl) (fun K hK => ?_)
  go_simp
  first
    | (refine hK _ ?_; clear hK K)
    | (apply Exists.intro
       refine ⟨fun d os => ?_, hK _ ?_⟩
       (fail)
       clear hK K)
  refine wpG_step (by rfl) (fun K hK => ?_)
  go_simp
  first
    | (refine hK _ ?_; clear hK K)
    | (apply Exists.intro
       refine ⟨fun d os => ?_, hK _ ?_⟩
       (fail)
       clear hK K)
  refine wpG_step (by rfl) (fun K hK => ?_)
  go_simp
  first
    | (refine hK _ ?_; clear hK K)
    | (apply Exists.intro
       refine ⟨fun d os => ?_, hK _ ?_⟩
       (fail)
       clear hK K)
  refine wpG_step (by rfl) (fun K hK => ?_)
  go_simp
  first
    | (refine hK _ ?_; clear hK K)
    | (apply Exists.intro
       refine ⟨fun d os => ?_, hK _ ?_⟩
       (fail)
       clear hK K)
  refine wpG_step (by rfl) (fun K hK => ?_)
  go_simp
  first
    | (refine hK _ ?_; clear hK K)
    | (apply Exists.intro
       refine ⟨fun d os => ?_, hK _ ?_⟩
       (exact c3 _ _)
       clear hK K)
  refine wpG_skip rfl ?_
  refine wpG_skip rfl ?_
  refine wpG_skip rfl ?_
  refine wpG_nil ?_
  intro gs w3 hM
  obtain ⟨B1, ge1⟩ := hM.blk 15 _ rfl (by omega) (by simp)
  obtain ⟨B2, ge2⟩ := hM.blk 16 _ rfl (by omega) (by simp)
  obtain ⟨B3, ge3⟩ := hM.blk 17 _ rfl (by omega) (by simp)
  have ne12 := hM.apart 15 16 _ _ rfl rfl (by omega) (by omega) (by simp) (by simp) (by omega)
  have ne13 := hM.apart 15 17 _ _ rfl rfl (by omega) (by omega) (by simp) (by simp) (by omega)
  have ne23 := hM.apart 16 17 _ _ rfl rfl (by omega) (by omega) (by simp) (by simp) (by omega)
  have hb := hM.below
  simp only [putAll, alOf, List.find?, Nat.reduceBEq, Option.map, Act.put, List.setIfInBounds_toArray, List.set_cons_zero, List.set_cons_succ]
  clear f0 f1 f2 h0 h1 h2 c1 c2 c3 hM
  obtain ⟨g3, hg3⟩ : ∃ g, g = gs 15 := ⟨_, rfl⟩
  obtain ⟨g4, hg4⟩ : ∃ g, g = gs 16 := ⟨_, rfl⟩
  obtain ⟨g5, hg5⟩ : ∃ g, g = gs 17 := ⟨_, rfl⟩
  rw [← hg3] at B1 ge1 ne12 ne13 ⊢
  rw [← hg4] at B2 ge2 ne12 ne23 ⊢
  rw [← hg5] at B3 ge3 ne13 ne23 ⊢
  clear hg3 hg4 hg5 gs
  obtain ⟨u1, hu1⟩ : ∃ u, u = nearSq (a - r) (x - r) := ⟨_, rfl⟩
  obtain ⟨u2, hu2⟩ : ∃ u, u = nearSq (b - s) (y - s) := ⟨_, rfl⟩
  obtain ⟨u3, hu3⟩ : ∃ u, u = nearSq (c - t) (z - t) := ⟨_, rfl⟩
  obtain ⟨v1, hv1⟩ : ∃ u, u = farSq (a - r) (x - r) := ⟨_, rfl⟩
  obtain ⟨v2, hv2⟩ : ∃ u, u = farSq (b - s) (y - s) := ⟨_, rfl⟩
  obtain ⟨v3, hv3⟩ : ∃ u, u = farSq (c - t) (z - t) := ⟨_, rfl⟩
  simp only [← hu1, ← hu2, ← hu3, ← hv1, ← hv2, ← hv3] at n1 n1' n2 n2' n3 n3' m1 m1' m2 m2' m3 m3' ⊢
  have HU : Hid (nearSq (a - r) (x - r) + nearSq (b - s) (y - s) + nearSq (c - t) (z - t) = u1 + u2 + u3) := by show _ = _; rw [hu1, hu2, hu3]
  have HV : Hid (farSq (a - r) (x - r) + farSq (b - s) (y - s) + farSq (c - t) (z - t) = v1 + v2 + v3) := by show _ = _; rw [hv1, hv2, hv3]
  clear hu1 hu2 hu3 hv1 hv2 hv3
  refine wpList_store_row rfl 253 _ _ rfl g3 #[.int .i64 u1, .int .i64 v1] rfl rfl 253 _ B1 (by kernel_rfl) rfl (by simp [Value.oneCell']) ?_
  refine wpList_store_row rfl 253 _ _ rfl g4 #[.int .i64 u2, .int .i64 v2] rfl rfl 253 _ (B2.setRow_far ne12.symm _) (by kernel_rfl) rfl (by simp [Value.oneCell']) ?_
  refine wpList_store_row rfl 253 _ _ rfl g5 #[.int .i64 u3, .int .i64 v3] rfl rfl 253 _ ((B3.setRow_far ne13.symm _).setRow_far ne23.symm _) (by kernel_rfl) rfl (by simp [Value.oneCell']) ?_
  obtain ⟨w4, hw4⟩ : ∃ X, X = ((w3.setRow g3 #[.int .i64 u1, .int .i64 v1]).setRow g4 #[.int .i64 u2, .int .i64 v2]).setRow g5 #[.int .i64 u3, .int .i64 v3] := ⟨_, rfl⟩
  rw [← hw4]
  have X4 : Blk w4 g3 253 #[.int .i64 u1, .int .i64 v1] := by rw [hw4]; exact ((B1.setRow _).setRow_far ne12 _).setRow_far ne13 _
  have Y4 : Blk w4 g4 253 #[.int .i64 u2, .int .i64 v2] := by rw [hw4]; exact ((B2.setRow_far ne12.symm _).setRow _).setRow_far ne23 _
  have Q4 : Blk w4 g5 253 #[.int .i64 u3, .int .i64 v3] := by rw [hw4]; exact ((B3.setRow_far ne13.symm _).setRow_far ne23.symm _).setRow _
  have hb4 : Below w2.heap.size w2 w4 := by rw [hw4]; exact ((hb.setRow' ge1 _).setRow' ge2 _).setRow' ge3 _
  have Z4 := Z2.out.below hb4
  have HB4 := Lib.hid (HB2.out.trans (hb4.mono HB2.out.size))
  have hgr : Hid (w.heap.size ≤ ga + 1 + 1 + 1) := hga
  clear hw4 hb hb4 ne12 ne13 ne23 ge1 ge2 ge3 B1 B2 B3 F2 T2 Z2 HB2
  have xc0 := X4.cell 0; have xf0 := X4.frozen 0; have xc1 := X4.cell 1; have xf1 := X4.frozen 1
  simp only [List.getElem?_toArray, List.getElem?_cons_zero, List.getElem?_cons_succ] at xc0 xc1
  clear X4
  have yc0 := Y4.cell 0; have yf0 := Y4.frozen 0; have yc1 := Y4.cell 1; have yf1 := Y4.frozen 1
  simp only [List.getElem?_toArray, List.getElem?_cons_zero, List.getElem?_cons_succ] at yc0 yc1
  clear Y4
  have qc0 := Q4.cell 0; have qf0 := Q4.frozen 0; have qc1 := Q4.cell 1; have qf1 := Q4.frozen 1
  simp only [List.getElem?_toArray, List.getElem?_cons_zero, List.getElem?_cons_succ] at qc0 qc1
  clear Q4
  have HZ4 := Lib.hid Z4
  have zc0 := Z4.cell 0; have zf0 := Z4.frozen 0; have zc1 := Z4.cell 1; have zf1 := Z4.frozen 1
  simp only [List.getElem?_toArray, List.getElem?_cons_zero, List.getElem?_cons_succ] at zc0 zc1
  clear Z4
  simp only [Act.put]
  go_wp2_with fail
  have hlv := ((HZ4.out.set_ 0 (.int .i64 (u1 + u2 + u3))).set_ 1 (.int .i64 (v1 + v2 + v3))).lv Tryz.prog (T := 253) Tryz.underlying253 rfl (by kernel_rfl)
  refine bodyPost_ret (v := .agg #[.int .i64 (u1 + u2 + u3), .int .i64 (v1 + v2 + v3)]) (by simp [results, Tryz.results185, asAddr]; exact hlv) rfl ?_
  exact ⟨by rw [HU.out, HV.out], (HB4.out.setCell (p := ⟨ga + 1 + 1 + 1, 0, none⟩) hgr.out _).setCell (p := ⟨ga + 1 + 1 + 1, 1, none⟩) hgr.out _⟩
end Go.Proofs.YtmafmebcgmegeaaGreatDoor
