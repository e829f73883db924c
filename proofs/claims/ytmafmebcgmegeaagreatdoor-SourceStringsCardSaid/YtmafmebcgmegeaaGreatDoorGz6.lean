/- Part. -/
import Derived.Test.YtmafmebcgmegeaaGreatDoorGz1
import Derived.Test.YtmafmebcgmegeaaGreatDoorGz4
import Derived.Test.YtmafmebcgmegeaaGreatDoorGz5
import Derived.WalkMore
import Derived.Deep.Cut
namespace Go.Proofs.YtmafmebcgmegeaaGreatDoor
open Go.RowKit Go.Sort
attribute [local go_sem] growsTo growUpon
set_option maxHeartbeats 2000000 in
set_option maxRecDepth 100000 in
theorem boxSquares_any (a b c x y z r s t : Int) (w : World) (h1 : Three 400000 a b c) (h2 : Three 400000 x y z) (h3 : Three 400000 r s t) :
  Calls Tryz.prog 185 #[.agg #[.int .i64 a, .int .i64 b, .int .i64 c], .agg #[.int .i64 x, .int .i64 y, .int .i64 z], .agg #[.int .i64 r, .int .i64 s, .int .i64 t]] w
   fun e w' => e = .returned (.agg #[.int .i64 (nearSq (a - r) (x - r) + nearSq (b - s) (y - s) + nearSq (c - t) (z - t)), .int .i64 (farSq (a - r) (x - r) + farSq (b - s) (y - s) + farSq (c - t) (z - t))]) /\ Below w.heap.size w w' := by
 obtain ⟨⟨a1, a2⟩, ⟨b1, b2⟩, ⟨c1, c2⟩⟩ := h1; obtain ⟨⟨x1, x2⟩, ⟨y1, y2⟩, ⟨z1, z2⟩⟩ := h2; obtain ⟨⟨r1, r2⟩, ⟨s1, s2⟩, ⟨t1, t2⟩⟩ := h3
 go_enter Tryz.func185, Tryz.ntmps185
 go_wp2_with fail
 obtain ⟨w0, hw0⟩ : ∃ X, X = (((w.alloc (.cells #[.int .i64 a, .int .i64 b, .int .i64 c] 28)).alloc (.cells #[.int .i64 x, .int .i64 y, .int .i64 z] 28)).alloc (.cells #[.int .i64 r, .int .i64 s, .int .i64 t] 28)).alloc (.cells #[.int .i64 0, .int .i64 0] 253) := ⟨_, rfl⟩; rw [<- hw0]; have A0 : Hid (Blk w0 w.heap.size 28 #[.int .i64 a, .int .i64 b, .int .i64 c]) := by show Blk _ _ _ _; rw [hw0]; exact (((Blk.new _ _ _).alloc _).alloc _).alloc _
 have X0 : Hid (Blk w0 (w.heap.size + 1) 28 #[.int .i64 x, .int .i64 y, .int .i64 z]) := by show Blk _ _ _ _; rw [hw0]; exact ((Blk.at_size _ _ (by simp)).alloc _).alloc _
 have R0 : Hid (Blk w0 (w.heap.size + 1 + 1) 28 #[.int .i64 r, .int .i64 s, .int .i64 t]) := by show Blk _ _ _ _; rw [hw0]; exact (Blk.at_size _ _ (by simp)).alloc _
 have Z0 : Hid (Blk w0 (w.heap.size + 1 + 1 + 1) 253 #[.int .i64 0, .int .i64 0]) := by show Blk _ _ _ _; rw [hw0]; exact Blk.at_size _ _ (by simp)
 have HB : Hid (Below w.heap.size w w0) := by show Below _ _ _; rw [hw0]; exact ((((Below.refl _ _).alloc (Nat.le_refl _) _).alloc (by simp) _).alloc (by simp; omega) _).alloc (by simp; omega) _
 obtain ⟨ga, hga⟩ : ∃ g, g = w.heap.size := ⟨_, rfl⟩; rw [<- hga] at A0 X0 R0 Z0 ⊢; replace hga : w.heap.size <= ga + 1 + 1 + 1 := by omega
 clear hw0; have l1 := fun d os => (A0.out.below (below_regrown w0 d os)).lv Tryz.prog (T := 28) Tryz.underlying28 rfl (by kernel_rfl)
 have l2 := fun d os => (X0.out.below (below_regrown w0 d os)).lv Tryz.prog (T := 28) Tryz.underlying28 rfl (by kernel_rfl)
 have l3 := fun d os => (R0.out.below (below_regrown w0 d os)).lv Tryz.prog (T := 28) Tryz.underlying28 rfl (by kernel_rfl)
 have c1 := fun d os => minus_any a b c r s t (grow (redrawn w0 d) os) (by omega) (by omega) (by omega) (by omega) (by omega) (by omega)
 have c2 := fun d os => minus_any x y z r s t (grow (redrawn w0 d) os) (by omega) (by omega) (by omega) (by omega) (by omega) (by omega)
 refine wp_region_made 8 [(6, 7, #[.int .i64 0, .int .i64 0, .int .i64 0], 28), (7, 8, #[.int .i64 0, .int .i64 0, .int .i64 0], 28)] (by kernel_rfl) (by kernel_rfl) (by kernel_rfl) ?_ ?_
 ·intro x hx o ho ev W; simp only [List.mem_cons, List.not_mem_nil, or_false] at hx; rcases hx with rfl | rfl <;> (obtain rfl := Option.some.inj ho; go_simp)
 simp only [List.take_succ_cons, List.take_zero, List.drop_succ_cons, List.drop_zero]; refine wpG_load _ _ rfl rfl (by rfl) _ _ rfl l1 ?_; refine wpG_load _ _ rfl rfl (by rfl) _ _ rfl l3 ?_; refine wpG_step (by rfl) (fun K hK => ?_)
 go_simp
 first
  | (refine hK _ ?_; clear hK K)
  | (apply Exists.intro
     refine ⟨fun d os => ?_, hK _ ?_⟩
     (exact c1 _ _)
     clear hK K)
 refine wpG_load _ _ rfl rfl (by rfl) _ _ rfl l2 ?_; refine wpG_load _ _ rfl rfl (by rfl) _ _ rfl l3 ?_; refine wpG_step (by rfl) (fun K hK => ?_)
 go_simp
 first
  | (refine hK _ ?_; clear hK K)
  | (apply Exists.intro
     refine ⟨fun d os => ?_, hK _ ?_⟩
     (exact c2 _ _)
     clear hK K)
 refine wpG_skip rfl ?_; refine wpG_skip rfl ?_; refine wpG_nil ?_; intro gs w1 hM; obtain ⟨B1, ge1⟩ := hM.blk 6 _ rfl (by omega) (by simp); obtain ⟨B2, ge2⟩ := hM.blk 7 _ rfl (by omega) (by simp); have hne := hM.apart 6 7 _ _ rfl rfl (by omega) (by omega) (by simp) (by simp) (by omega); have hb := hM.below; simp only [putAll, alOf, List.find?, Nat.reduceBEq, Option.map, Act.put, List.setIfInBounds_toArray, List.set_cons_zero, List.set_cons_succ]; clear l1 l2 l3 c1 c2 hM; obtain ⟨g1, hg1⟩ : ∃ g, g = gs 6 := ⟨_, rfl⟩; obtain ⟨g2, hg2⟩ : ∃ g, g = gs 7 := ⟨_, rfl⟩; rw [<- hg1] at B1 ge1 hne ⊢; rw [<- hg2] at B2 ge2 hne ⊢; clear hg1 hg2 gs; refine wpList_store_row rfl 28 _ _ rfl g1 #[.int .i64 (a - r), .int .i64 (b - s), .int .i64 (c - t)] rfl rfl 28 _ B1 (by kernel_rfl) rfl (by simp [Value.oneCell']) ?_; refine wpList_store_row rfl 28 _ _ rfl g2 #[.int .i64 (x - r), .int .i64 (y - s), .int .i64 (z - t)] rfl rfl 28 _ (B2.setRow_far hne.symm _) (by kernel_rfl) rfl (by simp [Value.oneCell']) ?_
 obtain ⟨w2, hw2⟩ : ∃ X, X = (w1.setRow g1 #[.int .i64 (a - r), .int .i64 (b - s), .int .i64 (c - t)]).setRow g2 #[.int .i64 (x - r), .int .i64 (y - s), .int .i64 (z - t)] := ⟨_, rfl⟩; rw [<- hw2]; have F2 : Hid (Blk w2 g1 28 #[.int .i64 (a - r), .int .i64 (b - s), .int .i64 (c - t)]) := by show Blk _ _ _ _; rw [hw2]; exact (B1.setRow _).setRow_far hne _
 have T2 : Hid (Blk w2 g2 28 #[.int .i64 (x - r), .int .i64 (y - s), .int .i64 (z - t)]) := by show Blk _ _ _ _; rw [hw2]; exact (B2.setRow_far hne.symm _).setRow _
 have hb2 : Below w0.heap.size w0 w2 := by rw [hw2]; exact (hb.setRow' ge1 _).setRow' ge2 _
 have Z2 := lh (Z0.out.below hb2); have HB2 := lh (HB.out.trans (hb2.mono HB.out.size)); clear hw2 hb hb2 hne ge1 ge2 B1 B2 A0 X0 R0 Z0 HB; simp only [Act.put]
 go_wp2_with fail
 have p1 := (a - r, x - r); have f0 := fun d os => cell_regrown (F2.out.cell 0) d os
 have f1 := fun d os => cell_regrown (F2.out.cell 1) d os
 have f2 := fun d os => cell_regrown (F2.out.cell 2) d os
 have h0 := fun d os => cell_regrown (T2.out.cell 0) d os
 have h1 := fun d os => cell_regrown (T2.out.cell 1) d os
 have h2 := fun d os => cell_regrown (T2.out.cell 2) d os
 have c1 := fun d os => reaches_st (a - r) (x - r) (grow (redrawn w2 d) os) (by omega) (by omega) (by omega) (by omega)
 have c2 := fun d os => reaches_st (b - s) (y - s) (grow (redrawn w2 d) os) (by omega) (by omega) (by omega) (by omega)
 have c3 := fun d os => reaches_st (c - t) (z - t) (grow (redrawn w2 d) os) (by omega) (by omega) (by omega) (by omega)
 obtain ⟨n1, n1'⟩ := nearSq_in (a := a - r) (b := x - r) (by omega) (by omega) (by omega) (by omega); obtain ⟨n2, n2'⟩ := nearSq_in (a := b - s) (b := y - s) (by omega) (by omega) (by omega) (by omega); obtain ⟨n3, n3'⟩ := nearSq_in (a := c - t) (b := z - t) (by omega) (by omega) (by omega) (by omega); obtain ⟨m1, m1'⟩ := farSq_in (a := a - r) (b := x - r) (by omega) (by omega) (by omega) (by omega); obtain ⟨m2, m2'⟩ := farSq_in (a := b - s) (b := y - s) (by omega) (by omega) (by omega) (by omega); obtain ⟨m3, m3'⟩ := farSq_in (a := c - t) (b := z - t) (by omega) (by omega) (by omega) (by omega); clear a1 a2 b1 b2 x1 x2 y1 y2 z1 z2 r1 r2 s1 s2 t1 t2 p1; refine wp_region_made 18 [(15, 9, #[.int .i64 0, .int .i64 0], 253), (16, 10, #[.int .i64 0, .int .i64 0], 253), (17, 11, #[.int .i64 0, .int .i64 0], 253)] (by kernel_rfl) (by kernel_rfl) (by kernel_rfl) ?_ ?_
 ·intro x hx o ho ev W; simp only [List.mem_cons, List.not_mem_nil, or_false] at hx; rcases hx with rfl | rfl | rfl <;> (obtain rfl := Option.some.inj ho; go_simp)
 simp only [List.take_succ_cons, List.take_zero, List.drop_succ_cons, List.drop_zero]; refine wpG_step (by rfl) (fun K hK => ?_)
 go_simp
 first
  | (refine hK _ ?_; clear hK K)
  | (apply Exists.intro
     refine ⟨fun d os => ?_, hK _ ?_⟩
     (fail)
     clear hK K)
 refine wpG_step (by rfl) (fun K hK => ?_)
 go_simp
 first
  | (refine hK _ ?_; clear hK K)
  | (apply Exists.intro
     refine ⟨fun d os => ?_, hK _ ?_⟩
     (fail)
     clear hK K)
 refine wpG_step (by rfl) (fun K hK => ?_)
 go_simp
 first
  | (refine hK _ ?_; clear hK K)
  | (apply Exists.intro
     refine ⟨fun d os => ?_, hK _ ?_⟩
     (fail)
     clear hK K)
 refine wpG_step (by rfl) (fun K hK => ?_)
 go_simp
 first
  | (refine hK _ ?_; clear hK K)
  | (apply Exists.intro
     refine ⟨fun d os => ?_, hK _ ?_⟩
     (fail)
     clear hK K)
 refine wpG_step (by rfl) (fun K hK => ?_)
 go_simp
 first
  | (refine hK _ ?_; clear hK K)
  | (apply Exists.intro
     refine ⟨fun d os => ?_, hK _ ?_⟩
     (exact c1 _ _)
     clear hK K)
 refine wpG_step (by rfl) (fun K hK => ?_)
 go_simp
 first
  | (refine hK _ ?_; clear hK K)
  | (apply Exists.intro
     refine ⟨fun d os => ?_, hK _ ?_⟩
     (fail)
     clear hK K)
 refine wpG_step (by rfl) (fun K hK => ?_)
 go_simp
 first
  | (refine hK _ ?_; clear hK K)
  | (apply Exists.intro
     refine ⟨fun d os => ?_, hK _ ?_⟩
     (fail)
     clear hK K)
 refine wpG_step (by rfl) (fun K hK => ?_)
 go_simp
 first
  | (refine hK _ ?_; clear hK K)
  | (apply Exists.intro
     refine ⟨fun d os => ?_, hK _ ?_⟩
     (fail)
     clear hK K)
 refine wpG_step (by rfl) (fun K hK => ?_)
 go_simp
 first
  | (refine hK _ ?_; clear hK K)
  | (apply Exists.intro
     refine ⟨fun d os => ?_, hK _ ?_⟩
     (fail)
     clear hK K)
 refine wpG_step (by rfl) (fun K hK => ?_)
 go_simp
 first
  | (refine hK _ ?_; clear hK K)
  | (apply Exists.intro
     refine ⟨fun d os => ?_, hK _ ?_⟩
     (exact c2 _ _)
     clear hK K)
 refine wpG_step (by rfl) (fun K hK => ?_)
 go_simp
 first
  | (refine hK _ ?_; clear hK K)
  | (apply Exists.intro
     refine ⟨fun d os => ?_, hK _ ?_⟩
     (fail)
     clear hK K)
 refine wpG_step (by rfl) (fun K hK => ?_)
 go_simp
 first
  | (refine hK _ ?_; clear hK K)
  | (apply Exists.intro
     refine ⟨fun d os => ?_, hK _ ?_⟩
     (fail)
     clear hK K)
 refine wpG_step (by rfl) (fun K hK => ?_)
 go_simp
 first
  | (refine hK _ ?_; clear hK K)
  | (apply Exists.intro
     refine ⟨fun d os => ?_, hK _ ?_⟩
     (fail)
     clear hK K)
 refine wpG_step (by rfl) (fun K hK => ?_)
 go_simp
 first
  | (refine hK _ ?_; clear hK K)
  | (apply Exists.intro
     refine ⟨fun d os => ?_, hK _ ?_⟩
     (fail)
     clear hK K)
 refine wpG_step (by rfl) (fun K hK => ?_)
 go_simp
 first
  | (refine hK _ ?_; clear hK K)
  | (apply Exists.intro
     refine ⟨fun d os => ?_, hK _ ?_⟩
     (exact c3 _ _)
     clear hK K)
 refine wpG_skip rfl ?_; refine wpG_skip rfl ?_; refine wpG_skip rfl ?_; refine wpG_nil ?_; intro gs w3 hM; obtain ⟨B1, ge1⟩ := hM.blk 15 _ rfl (by omega) (by simp); obtain ⟨B2, ge2⟩ := hM.blk 16 _ rfl (by omega) (by simp); obtain ⟨B3, ge3⟩ := hM.blk 17 _ rfl (by omega) (by simp); have ne12 := hM.apart 15 16 _ _ rfl rfl (by omega) (by omega) (by simp) (by simp) (by omega); have ne13 := hM.apart 15 17 _ _ rfl rfl (by omega) (by omega) (by simp) (by simp) (by omega); have ne23 := hM.apart 16 17 _ _ rfl rfl (by omega) (by omega) (by simp) (by simp) (by omega); have hb := hM.below; simp only [putAll, alOf, List.find?, Nat.reduceBEq, Option.map, Act.put, List.setIfInBounds_toArray, List.set_cons_zero, List.set_cons_succ]; clear f0 f1 f2 h0 h1 h2 c1 c2 c3 hM; obtain ⟨g3, hg3⟩ : ∃ g, g = gs 15 := ⟨_, rfl⟩; obtain ⟨g4, hg4⟩ : ∃ g, g = gs 16 := ⟨_, rfl⟩; obtain ⟨g5, hg5⟩ : ∃ g, g = gs 17 := ⟨_, rfl⟩
 rw [<- hg3] at B1 ge1 ne12 ne13 ⊢; rw [<- hg4] at B2 ge2 ne12 ne23 ⊢; rw [<- hg5] at B3 ge3 ne13 ne23 ⊢; clear hg3 hg4 hg5 gs; obtain ⟨u1, hu1⟩ : ∃ u, u = nearSq (a - r) (x - r) := ⟨_, rfl⟩; obtain ⟨u2, hu2⟩ : ∃ u, u = nearSq (b - s) (y - s) := ⟨_, rfl⟩; obtain ⟨u3, hu3⟩ : ∃ u, u = nearSq (c - t) (z - t) := ⟨_, rfl⟩; obtain ⟨v1, hv1⟩ : ∃ u, u = farSq (a - r) (x - r) := ⟨_, rfl⟩; obtain ⟨v2, hv2⟩ : ∃ u, u = farSq (b - s) (y - s) := ⟨_, rfl⟩; obtain ⟨v3, hv3⟩ : ∃ u, u = farSq (c - t) (z - t) := ⟨_, rfl⟩; simp only [<- hu1, <- hu2, <- hu3, <- hv1, <- hv2, <- hv3] at n1 n1' n2 n2' n3 n3' m1 m1' m2 m2' m3 m3' ⊢; have HU : Hid (nearSq (a - r) (x - r) + nearSq (b - s) (y - s) + nearSq (c - t) (z - t) = u1 + u2 + u3) := by show _ = _; rw [hu1, hu2, hu3]
 have HV : Hid (farSq (a - r) (x - r) + farSq (b - s) (y - s) + farSq (c - t) (z - t) = v1 + v2 + v3) := by show _ = _; rw [hv1, hv2, hv3]
 clear hu1 hu2 hu3 hv1 hv2 hv3; refine wpList_store_row rfl 253 _ _ rfl g3 #[.int .i64 u1, .int .i64 v1] rfl rfl 253 _ B1 (by kernel_rfl) rfl (by simp [Value.oneCell']) ?_; refine wpList_store_row rfl 253 _ _ rfl g4 #[.int .i64 u2, .int .i64 v2] rfl rfl 253 _ (B2.setRow_far ne12.symm _) (by kernel_rfl) rfl (by simp [Value.oneCell']) ?_; refine wpList_store_row rfl 253 _ _ rfl g5 #[.int .i64 u3, .int .i64 v3] rfl rfl 253 _ ((B3.setRow_far ne13.symm _).setRow_far ne23.symm _) (by kernel_rfl) rfl (by simp [Value.oneCell']) ?_; obtain ⟨w4, hw4⟩ : ∃ X, X = ((w3.setRow g3 #[.int .i64 u1, .int .i64 v1]).setRow g4 #[.int .i64 u2, .int .i64 v2]).setRow g5 #[.int .i64 u3, .int .i64 v3] := ⟨_, rfl⟩; rw [<- hw4]; have X4 : Blk w4 g3 253 #[.int .i64 u1, .int .i64 v1] := by rw [hw4]; exact ((B1.setRow _).setRow_far ne12 _).setRow_far ne13 _
 have Y4 : Blk w4 g4 253 #[.int .i64 u2, .int .i64 v2] := by rw [hw4]; exact ((B2.setRow_far ne12.symm _).setRow _).setRow_far ne23 _
 have Q4 : Blk w4 g5 253 #[.int .i64 u3, .int .i64 v3] := by rw [hw4]; exact ((B3.setRow_far ne13.symm _).setRow_far ne23.symm _).setRow _
 have hb4 : Below w2.heap.size w2 w4 := by rw [hw4]; exact ((hb.setRow' ge1 _).setRow' ge2 _).setRow' ge3 _
 have Z4 := Z2.out.below hb4; have HB4 := lh (HB2.out.trans (hb4.mono HB2.out.size)); have hgr : Hid (w.heap.size <= ga + 1 + 1 + 1) := hga; clear hw4 hb hb4 ne12 ne13 ne23 ge1 ge2 ge3 B1 B2 B3 F2 T2 Z2 HB2; have xc0 := X4.cell 0; have xf0 := X4.frozen 0; have xc1 := X4.cell 1; have xf1 := X4.frozen 1; simp only [List.getElem?_toArray, List.getElem?_cons_zero, List.getElem?_cons_succ] at xc0 xc1; clear X4; have yc0 := Y4.cell 0; have yf0 := Y4.frozen 0; have yc1 := Y4.cell 1; have yf1 := Y4.frozen 1; simp only [List.getElem?_toArray, List.getElem?_cons_zero, List.getElem?_cons_succ] at yc0 yc1; clear Y4; have qc0 := Q4.cell 0; have qf0 := Q4.frozen 0; have qc1 := Q4.cell 1; have qf1 := Q4.frozen 1; simp only [List.getElem?_toArray, List.getElem?_cons_zero, List.getElem?_cons_succ] at qc0 qc1; clear Q4; have HZ4 := lh Z4; have zc0 := Z4.cell 0; have zf0 := Z4.frozen 0; have zc1 := Z4.cell 1; have zf1 := Z4.frozen 1
 simp only [List.getElem?_toArray, List.getElem?_cons_zero, List.getElem?_cons_succ] at zc0 zc1; clear Z4; simp only [Act.put]
 go_wp2_with fail
 have hlv := ((HZ4.out.set_ 0 (.int .i64 (u1 + u2 + u3))).set_ 1 (.int .i64 (v1 + v2 + v3))).lv Tryz.prog (T := 253) Tryz.underlying253 rfl (by kernel_rfl); refine bodyPost_ret (v := .agg #[.int .i64 (u1 + u2 + u3), .int .i64 (v1 + v2 + v3)]) (by simp [results, Tryz.results185, asAddr]; exact hlv) rfl ?_; exact ⟨by rw [HU.out, HV.out], (HB4.out.setCell (p := ⟨ga + 1 + 1 + 1, 0, none⟩) hgr.out _).setCell (p := ⟨ga + 1 + 1 + 1, 1, none⟩) hgr.out _⟩
def fxV (a : Bell.Fx) : Array Value := #[.int .i64 a.t, .int .i64 a.x, .int .i64 a.y, .int .i64 a.z, .int .i64 a.p]
def FixAt (w : World) (b o : Nat) (a : Bell.Fx) : Prop :=
 w.cell? ⟨b, o, none⟩ = some (.int .i64 a.t) /\ w.cell? ⟨b, o + 1, none⟩ = some (.int .i64 a.x) /\ w.cell? ⟨b, o + 2, none⟩ = some (.int .i64 a.y) /\ w.cell? ⟨b, o + 3, none⟩ = some (.int .i64 a.z) /\ w.cell? ⟨b, o + 4, none⟩ = some (.int .i64 a.p)
def FixesAt (w : World) (b off n : Nat) (l : List Bell.Fx) : Prop := l.length = n /\ ∀ i, i < n -> FixAt w b (off + i * 5) (Bell.fxAt l i)
theorem FixAt.keep {w w' : World} {b o : Nat} {a : Bell.Fx} (h : FixAt w b o a) (hb : Below w.heap.size w w') : FixAt w' b o a := by
 obtain ⟨h0, h1, h2, h3, h4⟩ := h
 have k : ∀ {j : Nat} {v : Value}, w.cell? ⟨b, j, none⟩ = some v -> w'.cell? ⟨b, j, none⟩ = some v := fun {j v} hc => by
  rw [hb.cell (p := ⟨b, j, none⟩) (World.block_lt_of_cell? _ _ hc)]; exact hc
 exact ⟨k h0, k h1, k h2, k h3, k h4⟩
theorem FixesAt.keep {w w' : World} {b off n : Nat} {l : List Bell.Fx} (h : FixesAt w b off n l) (hb : Below w.heap.size w w') : FixesAt w' b off n l :=
 ⟨h.1, fun i hi => (h.2 i hi).keep hb⟩
theorem FixAt.lv {w : World} {b o : Nat} {a : Bell.Fx} (h : FixAt w b o a) : (loadVar 152 ⟨b, o, none⟩).run Tryz.prog w = .ok (.agg (fxV a)) w := by
 obtain ⟨h0, h1, h2, h3, h4⟩ := h
 simp [fxV, go_sem, h0, h1, h2, h3, h4]
theorem Blk.set5 {w : World} {g : Nat} {t : TypeId} {a0 a1 a2 a3 a4 : Value} (h : Blk w g t #[a0, a1, a2, a3, a4]) (b0 b1 b2 b3 b4 : Value) : Blk (((((w.setCell ⟨g, 0, none⟩ b0).setCell ⟨g, 1, none⟩ b1).setCell ⟨g, 2, none⟩ b2).setCell ⟨g, 3, none⟩ b3).setCell ⟨g, 4, none⟩ b4) g t #[b0, b1, b2, b3, b4] :=
 ((((h.set_ 0 b0).set_ 1 b1).set_ 2 b2).set_ 3 b3).set_ 4 b4
theorem Blk.far5 {w : World} {g k : Nat} {t : TypeId} {cs : Array Value} (h : Blk w g t cs) (hne : g ≠ k) (b0 b1 b2 b3 b4 : Value) : Blk (((((w.setCell ⟨k, 0, none⟩ b0).setCell ⟨k, 1, none⟩ b1).setCell ⟨k, 2, none⟩ b2).setCell ⟨k, 3, none⟩ b3).setCell ⟨k, 4, none⟩ b4) g t cs :=
 ((((h.far (p := ⟨k, 0, none⟩) hne b0).far (p := ⟨k, 1, none⟩) hne b1).far (p := ⟨k, 2, none⟩) hne b2).far (p := ⟨k, 3, none⟩) hne b3).far (p := ⟨k, 4, none⟩) hne b4
theorem Below.set5 {B : Nat} {a w : World} {k : Nat} (h : Below B a w) (hk : B <= k) (b0 b1 b2 b3 b4 : Value) : Below B a (((((w.setCell ⟨k, 0, none⟩ b0).setCell ⟨k, 1, none⟩ b1).setCell ⟨k, 2, none⟩ b2).setCell ⟨k, 3, none⟩ b3).setCell ⟨k, 4, none⟩ b4) :=
 ((((h.setCell (p := ⟨k, 0, none⟩) hk b0).setCell (p := ⟨k, 1, none⟩) hk b1).setCell (p := ⟨k, 2, none⟩) hk b2).setCell (p := ⟨k, 3, none⟩) hk b3).setCell (p := ⟨k, 4, none⟩) hk b4
theorem seg_at {l : List Bell.Fx} {k : Nat} {t : Int} (hk : k <= l.length) (h1 : ∀ j, j < k -> (Bell.fxAt l j).t <= t) (h2 : k < l.length -> t < (Bell.fxAt l k).t) : Bell.segIx l t = k - 1 := by
 unfold Bell.segIx
 congr 1
 rcases Nat.lt_or_ge k l.length with hlt | hge
 ·refine (List.findIdx_eq hlt).2 ⟨?_, fun j hj => ?_⟩
  ·have := h2 hlt; rw [Bell.fxAt_get hlt] at this; exact decide_eq_true this
  ·have := h1 j hj; rw [Bell.fxAt_get (by omega)] at this; exact decide_eq_false (by omega)
 ·obtain rfl : k = l.length := by omega
  refine List.findIdx_eq_length.2 fun x hx => ?_
  obtain ⟨j, hj, rfl⟩ := List.getElem_of_mem hx; have := h1 j hj; rw [Bell.fxAt_get hj] at this; exact decide_eq_false (by omega)
set_option maxRecDepth 100000 in
theorem last_any (b off m c : Nat) (l : List Bell.Fx) (w : World) (hl : FixesAt w b off (m + 1) l) (hm : m <= 140737488351232) :
  Calls Tryz.prog 116 #[.slice (some ⟨b, off, none⟩) (m + 1) c] w fun e w' => e = .returned (.agg (fxV (Bell.fxAt l m))) /\ Below w.heap.size w w' := by
 obtain ⟨P, hP⟩ : ∃ P, P = Bell.fxAt l m := ⟨_, rfl⟩; have HL := lh hl; have HP := lh hP; rw [<- hP]; clear hP hl
 go_enter Tryz.func116, Tryz.ntmps116
 go_upto_region 1 with fail
 obtain ⟨w1, hw1⟩ : ∃ X, X = w.alloc (.cells #[.int .i64 0, .int .i64 0, .int .i64 0, .int .i64 0, .int .i64 0] 152) := ⟨_, rfl⟩; rw [<- hw1]; have HZ : Blk w1 w.heap.size 152 #[.int .i64 0, .int .i64 0, .int .i64 0, .int .i64 0, .int .i64 0] := by rw [hw1]; exact Blk.new w _ _
 have HB : Below w.heap.size w w1 := by rw [hw1]; exact (Below.refl _ w).alloc (Nat.le_refl _) _
 obtain ⟨h0, h1, h2, h3, h4⟩ := (HL.out.keep HB).2 m (by omega); rw [<- HP.out] at h0 h1 h2 h3 h4; have hz := lh HZ; have hB := lh HB; clear hw1 HZ HB
 go_wp2_with (refine wpList_store_row rfl 152 _ _ rfl w.heap.size (fxV P) rfl rfl 152 _ hz.out (by kernel_rfl) rfl (by simp [Value.oneCell', fxV]) ?_)
 have hlv := (hz.out.setRow (fxV P)).lv Tryz.prog (T := 152) Tryz.underlying152 rfl (by kernel_rfl); refine bodyPost_ret (v := .agg (fxV P)) (by simp [results, Tryz.results116, asAddr]; exact hlv) rfl ?_; exact ⟨rfl, hB.out.setRow' (Nat.le_refl _) _⟩
set_option maxHeartbeats 2000000 in
set_option maxRecDepth 100000 in
theorem segment_any (b off n c : Nat) (l : List Bell.Fx) (t : Int) (w : World) (hl : FixesAt w b off n l) (hn : n <= 140737488351232) (i : Nat) (hi : Bell.segIx l t = i) (hin : i + 1 < n) :
  Calls Tryz.prog 175 #[.slice (some ⟨b, off, none⟩) n c, .int .i64 t] w fun e w' => e = .returned (.tuple #[.agg (fxV (Bell.fxAt l i)), .agg (fxV (Bell.fxAt l (i + 1)))]) /\ Below w.heap.size w w' := by
 have HL := lh hl; have HI := lh hi; obtain ⟨A, hA⟩ : ∃ A, A = Bell.fxAt l i := ⟨_, rfl⟩; obtain ⟨B, hB⟩ : ∃ B, B = Bell.fxAt l (i + 1) := ⟨_, rfl⟩; rw [<- hA, <- hB]; have HA := lh hA; have HB9 := lh hB; clear hl hi hA hB
 go_enter Tryz.func175, Tryz.ntmps175
 go_upto_region 1 with fail
 obtain ⟨w1, hw1⟩ : ∃ X, X = (w.alloc (.cells #[.int .i64 0, .int .i64 0, .int .i64 0, .int .i64 0, .int .i64 0] 152)).alloc (.cells #[.int .i64 0, .int .i64 0, .int .i64 0, .int .i64 0, .int .i64 0] 152) := ⟨_, rfl⟩; rw [<- hw1]; have HX : Hid (Blk w1 w.heap.size 152 #[.int .i64 0, .int .i64 0, .int .i64 0, .int .i64 0, .int .i64 0]) := by show Blk _ _ _ _; rw [hw1]; exact (Blk.new w _ _).alloc _
 have HY : Hid (Blk w1 (w.heap.size + 1) 152 #[.int .i64 0, .int .i64 0, .int .i64 0, .int .i64 0, .int .i64 0]) := by show Blk _ _ _ _; rw [hw1]; exact Blk.at_size _ _ (by simp)
 have HB : Hid (Below w.heap.size w w1) := by show Below _ _ _; rw [hw1]; exact ((Below.refl _ _).alloc (Nat.le_refl _) _).alloc (by simp) _
 have HL1 := lh (HL.out.keep HB.out); have hbn : b < w.heap.size := World.block_lt_of_cell? _ _ (HL.out.2 0 (by omega)).1; obtain ⟨g1, hg1⟩ : ∃ g, g = w.heap.size := ⟨_, rfl⟩; rw [<- hg1] at HX HY hbn ⊢; have HG := lh hg1; clear hw1 hg1 HL; go_wp2
 go_step3
 go_wp2
 go_step3
 go_wp2
 go_loopw [6, 7, 8, 11, 17] (fun at_ _ _ k _ wr => ∃ j : Nat, j <= n /\ k = .int .i64 j /\ at_ = .int .i64 ((j - 1 : Nat) : Int) /\ Hid (∀ q, q < j -> (Bell.fxAt l q).t <= t) /\ Hid (Below w1.heap.size w1 wr)) (fun _ _ _ k _ _ => n - (intOf k).toNat)
 case atStart => exact ⟨0, Nat.zero_le _, rfl, rfl, (fun q hq => by omega), Below.refl _ _⟩
 case round =>
  obtain ⟨j, hj, rfl, rfl, hp, hb⟩ := hrel; have HLr := lh (HL1.out.keep hb.out); have HXr := lh (HX.out.below hb.out); have HYr := lh (HY.out.below hb.out)
  by_cases hlt : j < n
  ·have hc := HLr.out.2 j hlt; obtain ⟨P, hP⟩ : ∃ P, P = Bell.fxAt l j := ⟨_, rfl⟩; rw [<- hP] at hc; have HP := lh hP; clear hP; obtain ⟨h0, h1, h2, h3, h4⟩ := hc
   by_cases hgt : t < P.t
   ·have hs : Hid (j - 1 = i) := by show _ = _; rw [<- HI.out]; exact (seg_at (by rw [HL1.out.1]; omega) hp.out (fun _ => by rw [<- HP.out]; exact hgt)).symm
    rw [hs.out]; go_wp2; obtain ⟨W, hW⟩ : ∃ X, X = wr.alloc (.cells #[.int .i64 P.t, .int .i64 P.x, .int .i64 P.y, .int .i64 P.z, .int .i64 P.p] 152) := ⟨_, rfl⟩; rw [<- hW]; have HBW : Hid (Below w1.heap.size w1 W) := by show Below _ _ _; rw [hW]; exact hb.out.alloc hb.out.size _
    have HXW := HX.out.below HBW.out; have HYW := HY.out.below HBW.out; have HLW := HL1.out.keep HBW.out; obtain ⟨a0, a1, a2, a3, a4⟩ := HLW.2 i (by omega); obtain ⟨b0, b1, b2, b3, b4⟩ := HLW.2 (i + 1) (by omega); have n1 : b ≠ g1 := by omega
    have n2 : b ≠ g1 + 1 := by omega
    rw [<- HA.out] at a0 a1 a2 a3 a4; rw [<- HB9.out] at b0 b1 b2 b3 b4; have HXH := lh HXW; have HYH := lh HYW; have xc0 := HXW.cell 0; have xf0 := HXW.frozen 0; have xc1 := HXW.cell 1; have xf1 := HXW.frozen 1; have xc2 := HXW.cell 2; have xf2 := HXW.frozen 2; have xc3 := HXW.cell 3; have xf3 := HXW.frozen 3; have xc4 := HXW.cell 4; have xf4 := HXW.frozen 4; simp only [List.getElem?_toArray, List.getElem?_cons_zero, List.getElem?_cons_succ] at xc0 xc1 xc2 xc3 xc4; clear HXW; have yc0 := HYW.cell 0; have yf0 := HYW.frozen 0; have yc1 := HYW.cell 1; have yf1 := HYW.frozen 1; have yc2 := HYW.cell 2; have yf2 := HYW.frozen 2; have yc3 := HYW.cell 3; have yf3 := HYW.frozen 3; have yc4 := HYW.cell 4; have yf4 := HYW.frozen 4; simp only [List.getElem?_toArray, List.getElem?_cons_zero, List.getElem?_cons_succ] at yc0 yc1 yc2 yc3 yc4; clear HYW; have HBF := lh (HB.out.trans (HBW.out.mono HB.out.size))
    clear hW h0 h1 h2 h3 h4 HLr HXr HYr hgt HLW hlt
    go_region
    have FX := (((HXH.out.set5 (.int .i64 A.t) (.int .i64 A.x) (.int .i64 A.y) (.int .i64 A.z) (.int .i64 A.p)).far5 (k := g1 + 1) (by omega) (.int .i64 B.t) (.int .i64 B.x) (.int .i64 B.y) (.int .i64 B.z) (.int .i64 B.p)).drew).lv Tryz.prog (T := 152) Tryz.underlying152 rfl (by kernel_rfl); have FY := (((HYH.out.far5 (k := g1) (by omega) (.int .i64 A.t) (.int .i64 A.x) (.int .i64 A.y) (.int .i64 A.z) (.int .i64 A.p)).set5 (.int .i64 B.t) (.int .i64 B.x) (.int .i64 B.y) (.int .i64 B.z) (.int .i64 B.p)).drew).lv Tryz.prog (T := 152) Tryz.underlying152 rfl (by kernel_rfl); have hbe := ((Below.set5 (k := g1 + 1) (Below.set5 (k := g1) HBF.out (by rw [HG.out]; exact Nat.le_refl _) (.int .i64 A.t) (.int .i64 A.x) (.int .i64 A.y) (.int .i64 A.z) (.int .i64 A.p)) (by rw [HG.out]; omega) (.int .i64 B.t) (.int .i64 B.x) (.int .i64 B.y) (.int .i64 B.z) (.int .i64 B.p)).drew); have HFX := lh FX
    have HFY := lh FY; have HBE := lh hbe; clear FX FY hbe; go_wp2
    delta Exit.noGoto
    dsimp only
    refine bodyPost_ret (v := .tuple #[.agg (fxV A), .agg (fxV B)]) (by simp [results, Tryz.results175, asAddr, HFX.out, HFY.out]; exact ⟨rfl, rfl⟩) rfl ?_; exact ⟨rfl, HBE.out⟩
   ·have hq : Hid (∀ q, q < j + 1 -> (Bell.fxAt l q).t <= t) := fun q hq => by
     by_cases hqj : q = j
     ·subst hqj; rw [<- HP.out]; omega
     ·exact hp.out q (by omega)
    have hbx : Hid (Below w1.heap.size w1 (wr.alloc (.cells #[.int .i64 P.t, .int .i64 P.x, .int .i64 P.y, .int .i64 P.z, .int .i64 P.p] 152))) := hb.out.alloc hb.out.size _; go_wp2; go_roundw
    case rel => exact ⟨j + 1, by omega, by go_num, by simp, hq, hbx⟩
    case measure => simp [intOf]; omega
  ·exfalso
   have := seg_at (l := l) (k := n) (t := t) (by rw [HL1.out.1]; omega) (fun q hq => hp.out q (by omega)) (fun h => by rw [HL1.out.1] at h; omega); rw [HI.out] at this
   omega
theorem Calls.grow_same {P : Program} {f : FuncId} {args : Array Value} {W : World} {v : Value} (h : Calls P f args W fun e w' => e = .returned v /\ w' = W) : Calls P f args W fun e w' => e = .returned v /\ Below W.heap.size W w' :=
 h.mono fun _ _ ⟨h1, h2⟩ => ⟨h1, by rw [h2]; exact Below.refl _ _⟩
theorem stateAt_st (x y k at_ bt : Int) (g1 g2 g3 : Nat) (w : World) (hx : -1000000 <= x /\ x <= 1000000) (hy : -1000000 <= y /\ y <= 1000000) (h0 : 0 <= at_) (h1 : at_ <= k) (h2 : k < bt) (h3 : bt <= 100000000)
  (c1 : w.cell? ⟨g1, 0, none⟩ = some (.int .i64 k)) (c2 : w.cell? ⟨g2, 0, none⟩ = some (.int .i64 at_)) (c3 : w.cell? ⟨g3, 0, none⟩ = some (.int .i64 bt)) :
  Calls Tryz.prog 176 #[.int .i64 x, .int .i64 y, .pointer (some ⟨g1, 0, none⟩), .pointer (some ⟨g2, 0, none⟩), .pointer (some ⟨g3, 0, none⟩)] w fun e w' => e = .returned (.int .i64 (Bell.betw x y (k - at_) (bt - at_))) /\ w' = w := by
 go_enter Tryz.func176, Tryz.ntmps176
 go_wp2_with fail
 refine (between_st x y (k - at_) (bt - at_) _ (by omega) (by omega) (by omega) (by omega) (by omega) (by omega) (by omega) (by omega)).mono ?_; rintro e w' ⟨rfl, rfl⟩; go_wp2; go_ret; exact ⟨rfl, rfl⟩
def stV (s : Bell.St) : Array Value := #[.int .i64 s.x, .int .i64 s.y, .int .i64 s.z, .int .i64 s.hx, .int .i64 s.hy, .int .i64 s.p]
set_option maxHeartbeats 4000000 in
set_option maxRecDepth 100000 in
theorem state_any (b off n c : Nat) (l : List Bell.Fx) (k : Int) (w : World) (hl : FixesAt w b off n l) (hg : Bell.GoodTr l) (h1 : (Bell.fxAt l 0).t <= k) (h2 : k < (Bell.fxAt l (l.length - 1)).t) :
  Calls Tryz.prog 117 #[.slice (some ⟨b, off, none⟩) n c, .int .i64 k] w fun e w' => e = .returned (.agg (stV (Bell.stAt l k))) /\ Below w.heap.size w w' := by
 obtain ⟨i, i1, i2, i3, i4⟩ := Bell.seg_ex hg.lo h1 h2; have hn : n <= 16 := by have := hg.hi; rw [hl.1] at this; exact this
 have hin : i + 1 < n := by rw [<- hl.1]; exact i1
 have hs : Hid (Bell.stAt l k = Bell.stOf (Bell.fxAt l i) (Bell.fxAt l (i + 1)) k) := by show _ = _; unfold Bell.stAt; rw [i4]
 have ga := hg.pts i (by omega); have gb := hg.pts (i + 1) i1; have HS := lh (fun W (hb : Below w.heap.size w W) => segment_any b off n c l k W (hl.keep hb) (by omega) i i4 hin); rw [hs.out]; obtain ⟨A, hA⟩ : ∃ A, A = Bell.fxAt l i := ⟨_, rfl⟩; obtain ⟨B, hB⟩ : ∃ B, B = Bell.fxAt l (i + 1) := ⟨_, rfl⟩; rw [<- hA] at ga i2 HS ⊢; rw [<- hB] at gb i3 HS ⊢; clear hl hg h1 h2 i1 i4 hs hA hB; obtain ⟨at0, at1, ax0, ax1, ay0, ay1, az0, az1, ap0, ap1⟩ := ga; obtain ⟨bt0, bt1, bx0, bx1, by0, by1, bz0, bz1, bp0, bp1⟩ := gb
 go_enter Tryz.func117, Tryz.ntmps117
 go_wp2_with fail
 obtain ⟨w1, hw1⟩ : ∃ X, X = (w.alloc (.cells #[.int .i64 k] 3)).alloc (.cells #[.int .i64 0, .int .i64 0, .int .i64 0, .int .i64 0, .int .i64 0, .int .i64 0] 46) := ⟨_, rfl⟩; rw [<- hw1]; have HK : Hid (Blk w1 w.heap.size 3 #[.int .i64 k]) := by show Blk _ _ _ _; rw [hw1]; exact (Blk.new _ _ _).alloc _
 have HZ : Hid (Blk w1 (w.heap.size + 1) 46 #[.int .i64 0, .int .i64 0, .int .i64 0, .int .i64 0, .int .i64 0, .int .i64 0]) := by show Blk _ _ _ _; rw [hw1]; exact Blk.at_size _ _ (by simp)
 have HB : Hid (Below w.heap.size w w1) := by show Below _ _ _; rw [hw1]; exact ((Below.refl _ _).alloc (Nat.le_refl _) _).alloc (by simp) _
 obtain ⟨gk, hgk⟩ : ∃ g, g = w.heap.size := ⟨_, rfl⟩; rw [<- hgk] at HK HZ ⊢; have HG := lh hgk; clear hw1 hgk; refine (HS.out w1 HB.out).mono ?_; rintro e w2 ⟨rfl, hb2⟩; have HK2 := lh (HK.out.below hb2); have HZ2 := lh (HZ.out.below hb2); have HB2 := lh (HB.out.trans (hb2.mono HB.out.size)); clear hb2 HK HZ HB HS; simp only [fxV]
 go_wp2_with fail
 obtain ⟨w3, hw3⟩ : ∃ X, X = (w2.alloc (.cells #[.int .i64 A.t, .int .i64 A.x, .int .i64 A.y, .int .i64 A.z, .int .i64 A.p] 152)).alloc (.cells #[.int .i64 B.t, .int .i64 B.x, .int .i64 B.y, .int .i64 B.z, .int .i64 B.p] 152) := ⟨_, rfl⟩; rw [<- hw3]; have HA3 : Hid (Blk w3 w2.heap.size 152 #[.int .i64 A.t, .int .i64 A.x, .int .i64 A.y, .int .i64 A.z, .int .i64 A.p]) := by show Blk _ _ _ _; rw [hw3]; exact (Blk.new _ _ _).alloc _
 have HF3 : Hid (Blk w3 (w2.heap.size + 1) 152 #[.int .i64 B.t, .int .i64 B.x, .int .i64 B.y, .int .i64 B.z, .int .i64 B.p]) := by show Blk _ _ _ _; rw [hw3]; exact Blk.at_size _ _ (by simp)
 have hb3 : Below w2.heap.size w2 w3 := by rw [hw3]; exact ((Below.refl _ _).alloc (Nat.le_refl _) _).alloc (by simp) _
 have HK3 := lh (HK2.out.below hb3); have HZ3 := lh (HZ2.out.below hb3); have HB3 := lh (HB2.out.trans (hb3.mono HB2.out.size)); obtain ⟨ga, hga⟩ : ∃ g, g = w2.heap.size := ⟨_, rfl⟩; rw [<- hga] at HA3 HF3 ⊢; clear hw3 hga hb3 HK2 HZ2 HB2; have bl := fun d os => below_regrown w3 d os
 have a0 := fun d os => cell_regrown (HA3.out.cell 0) d os
 have a1 := fun d os => cell_regrown (HA3.out.cell 1) d os
 have a2 := fun d os => cell_regrown (HA3.out.cell 2) d os
 have a3 := fun d os => cell_regrown (HA3.out.cell 3) d os
 have a4 := fun d os => cell_regrown (HA3.out.cell 4) d os
 have f0 := fun d os => cell_regrown (HF3.out.cell 0) d os
 have f1 := fun d os => cell_regrown (HF3.out.cell 1) d os
 have f2 := fun d os => cell_regrown (HF3.out.cell 2) d os
 have f3 := fun d os => cell_regrown (HF3.out.cell 3) d os
 have f4 := fun d os => cell_regrown (HF3.out.cell 4) d os
 have cx := fun d os => Calls.regrown_of (Calls.grow_same (stateAt_st A.x B.x k A.t B.t gk ga (ga + 1) (grow (redrawn w3 d) os) (by omega) (by omega) (by omega) (by omega) (by omega) (by omega) (cell_regrown (HK3.out.cell 0) d os) (a0 d os) (f0 d os)))
 have cy := fun d os => Calls.regrown_of (Calls.grow_same (stateAt_st A.y B.y k A.t B.t gk ga (ga + 1) (grow (redrawn w3 d) os) (by omega) (by omega) (by omega) (by omega) (by omega) (by omega) (cell_regrown (HK3.out.cell 0) d os) (a0 d os) (f0 d os)))
 have cz := fun d os => Calls.regrown_of (Calls.grow_same (stateAt_st A.z B.z k A.t B.t gk ga (ga + 1) (grow (redrawn w3 d) os) (by omega) (by omega) (by omega) (by omega) (by omega) (by omega) (cell_regrown (HK3.out.cell 0) d os) (a0 d os) (f0 d os)))
 have cp := fun d os => Calls.regrown_of (Calls.grow_same (stateAt_st A.p B.p k A.t B.t gk ga (ga + 1) (grow (redrawn w3 d) os) (by omega) (by omega) (by omega) (by omega) (by omega) (by omega) (cell_regrown (HK3.out.cell 0) d os) (a0 d os) (f0 d os)))
 have cm := fun d os => Calls.regrown_of (minus_any B.x B.y B.z A.x A.y A.z (grow (redrawn w3 d) os) (by omega) (by omega) (by omega) (by omega) (by omega) (by omega))
 have cf := fun d os => Calls.regrown_of (flat_any (B.x - A.x) (B.y - A.y) (B.z - A.z) (grow (redrawn w3 d) os))
 clear at0 at1 ax0 ax1 ay0 ay1 az0 az1 ap0 ap1 bt0 bt1 bx0 bx1 by0 by1 bz0 bz1 bp0 bp1 bl i2 i3 i hn hin; refine wp_region_below_tail 38 (by kernel_rfl) (by kernel_rfl) ?_; simp only [List.take_succ_cons, List.take_zero, List.drop_succ_cons, List.drop_zero]
 iterate 7 (quiet_step (fail))
 quiet_step (exact cx _ _)
 iterate 7 (quiet_step (fail))
 quiet_step (exact cy _ _)
 iterate 7 (quiet_step (fail))
 quiet_step (exact cz _ _)
 iterate 5 (quiet_step (fail))
 quiet_step (exact cm _ _)
 quiet_step (exact cf _ _)
 iterate 5 (quiet_step (fail))
 quiet_step (exact cp _ _)
 quiet_step (fail)
 refine wpQuiet_nil ?_; intro _ hw'; obtain ⟨⟨dq, osq⟩, hw''⟩ := hw'; have hb4 := below_regrown w3 dq osq; rw [<- hw''] at hb4; have HZ4 := lh (HZ3.out.below hb4); have HB4 := lh (HB3.out.trans (hb4.mono HB3.out.size)); clear hw'' hb4 a0 a1 a2 a3 a4 f0 f1 f2 f3 f4 cx cy cz cp cm cf; refine wpList_store_row rfl 46 _ _ rfl (gk + 1) (stV (Bell.stOf A B k)) rfl rfl 46 _ HZ4.out (by kernel_rfl) rfl (by simp [Value.oneCell', stV]) ?_; have hlv := (HZ4.out.setRow (stV (Bell.stOf A B k))).lv Tryz.prog (T := 46) Tryz.underlying46 rfl (by kernel_rfl); have HLV := lh hlv; clear hlv; go_wp2; refine bodyPost_ret (v := .agg (stV (Bell.stOf A B k))) (by simp [results, Tryz.results117, asAddr]; exact HLV.out) rfl ?_; exact ⟨rfl, HB4.out.setRow' (by rw [HG.out]; omega) _⟩
end Go.Proofs.YtmafmebcgmegeaaGreatDoor
