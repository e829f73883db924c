/- Heard, of a type, a state and a receiver without a fault. -/
import Derived.Test.YtnbionhahifacaaDoorIh
import Derived.Test.YtnbionhahifacaaDoorIc
namespace Go.Proofs.YtnbionhahifacaaDoor
open Go.RowKit Go.Sort

theorem plE_good {r : Bell.Pl} (h : GoodPl r) : placeE r.x r.y r.z = 0 := by
  obtain ⟨h1, h2, h3⟩ := h
  simp [placeE, firstE, withinE_in h1.1 h1.2, withinE_in h2.1 h2.2, withinE_in h3.1 h3.2]

set_option maxHeartbeats 4000000 in
set_option maxRecDepth 100000 in
theorem Heard_ok {cs : Array Value} {nm : ByteArray} {sh : List Int} {T : Bell.Ty} {sa : Option Addr} {sn sc qb qo qn qc gb go gn gc : Nat} (s : Bell.St) (r : Bell.Pl) (w : World) (hT : TyOk w cs nm sh T sa sn sc qb qo qn qc gb go gn gc) (hs : Bell.GoodSt s) (hr : GoodPl r) :
    Calls Tryd.prog 20 #[.agg cs, .agg (stV s), .agg (plV r)] w fun e w' => e = .returned (.tuple #[.int .i64 (Bell.heardOf T s r), .int .i64 0]) ∧ Below w.heap.size w w' := by
  have HO := Lib.hid hT
  have HS := Lib.hid hs
  have HR := Lib.hid hr
  clear hT hs hr
  obtain ⟨V, hV⟩ : ∃ V, V = Bell.heardOf T s r := ⟨_, rfl⟩
  have HH := Lib.hid (fun W (hb : Below w.heap.size w W) => heard_any s r W (HO.out.mem.keep hb) HO.out.good HS.out HR.out)
  rw [← hV] at HH ⊢
  clear hV
  have HSC := Lib.hid (fun W => stateCheck_any s W)
  rw [stE_good HS.out] at HSC
  have HPC := Lib.hid (fun W => checkPlace_any r.x r.y r.z W)
  rw [plE_good HR.out] at HPC
  obtain ⟨sv, hsv⟩ : ∃ v, v = stV s := ⟨_, rfl⟩
  obtain ⟨rv, hrv⟩ : ∃ v, v = plV r := ⟨_, rfl⟩
  have is : Hid ((Tryd.prog.info? 72).map (·.size) = some sv.size) := by show _ = _; rw [hsv]; kernel_rfl
  have ir : Hid ((Tryd.prog.info? 29).map (·.size) = some rv.size) := by show _ = _; rw [hrv]; kernel_rfl
  rw [← hsv] at HH HSC ⊢
  rw [← hrv] at HH ⊢
  have hrv2 : Hid (#[.int .i64 r.x, .int .i64 r.y, .int .i64 r.z] = rv) := by show _ = _; rw [hrv]; rfl
  rw [hrv2.out] at HPC
  clear hsv hrv hrv2
  go_enter Tryd.func20, Tryd.ntmps20
  go_upto_region 1 with fail
  obtain ⟨w1, hw1⟩ : ∃ W, W = ((w.alloc (.cells cs 47)).alloc (.cells sv 72)).alloc (.cells rv 29) := ⟨_, rfl⟩
  rw [← hw1]
  have T1 : Hid (Blk w1 w.heap.size 47 cs) := by show Blk _ _ _ _; rw [hw1]; exact ((Blk.new _ _ _).alloc _).alloc _
  have S1 : Hid (Blk w1 (w.heap.size + 1) 72 sv) := by show Blk _ _ _ _; rw [hw1]; exact (Blk.at_size _ _ (by simp)).alloc _
  have R1 : Hid (Blk w1 (w.heap.size + 1 + 1) 29 rv) := by show Blk _ _ _ _; rw [hw1]; exact Blk.at_size _ _ (by simp)
  have HB1 : Hid (Below w.heap.size w w1) := by show Below _ _ _; rw [hw1]; exact (((Below.refl _ _).alloc (Nat.le_refl _) _).alloc (by simp) _).alloc (by simp; omega) _
  obtain ⟨g, hg⟩ : ∃ g, g = w.heap.size := ⟨_, rfl⟩
  rw [← hg] at T1 S1 R1 ⊢
  clear hw1 hg
  have bw : ∀ d os, Below w1.heap.size w1 (grow (redrawn w1 d) os) := fun d os => below_regrown w1 d os
  have kp : ∀ d os, Below w.heap.size w (grow (redrawn w1 d) os) := fun d os => HB1.out.trans ((bw d os).mono HB1.out.size)
  have lT := fun d os => HO.out.mem.lv (T1.out.below (bw d os))
  have lS := fun d os => (S1.out.below (bw d os)).lv Tryd.prog (T := 72) Tryd.underlying72 rfl is.out
  have lR := fun d os => (R1.out.below (bw d os)).lv Tryd.prog (T := 29) Tryd.underlying29 rfl ir.out
  have c1 := fun d os => Calls.regrown_of (CheckType_ok (grow (redrawn w1 d) os) (HO.out.keep (kp d os)))
  have c2 := fun d os => Calls.regrown_of (HSC.out (grow (redrawn w1 d) os))
  have c3 := fun d os => Calls.regrown_of (HPC.out (grow (redrawn w1 d) os))
  refine wp_region_below_tail 6 (by kernel_rfl) (by kernel_rfl) ?_
  simp only [List.take_succ_cons, List.take_zero, List.drop_succ_cons, List.drop_zero]
  refine quiet_load _ _ rfl (by rfl) _ _ rfl lT ?_
  quiet_step (exact c1 _ _)
  refine quiet_load _ _ rfl (by rfl) _ _ rfl lS ?_
  quiet_step (exact c2 _ _)
  refine quiet_load _ _ rfl (by rfl) _ _ rfl lR ?_
  quiet_step (exact c3 _ _)
  refine wpQuiet_nil ?_
  intro w2 hw'
  obtain ⟨⟨dq, osq⟩, hw''⟩ := hw'
  have hb2 := bw dq osq
  rw [← hw''] at hb2
  have T2 := Lib.hid (T1.out.below hb2)
  have S2 := Lib.hid (S1.out.below hb2)
  have R2 := Lib.hid (R1.out.below hb2)
  have HB2 := Lib.hid (HB1.out.trans (hb2.mono HB1.out.size))
  clear hw'' hb2 lT lS lR c1 c2 c3 bw kp T1 S1 R1 HB1 HSC HPC
  go_wp2_with fail
  refine (first3 _ _ 0 0 0 _ (by go_simp) (by go_simp) (by go_simp)).mono ?_
  rw [show firstE [0, 0, 0] = 0 from rfl]
  rintro e w3 ⟨rfl, rfl⟩
  obtain ⟨w4, hw4⟩ : ∃ W, W = w2.alloc (.cells #[.int .i64 0, .int .i64 0, .int .i64 0] 42) := ⟨_, rfl⟩
  rw [← hw4]
  have hb4 : Below w2.heap.size w2 w4 := by rw [hw4]; exact (Below.refl _ _).alloc (Nat.le_refl _) _
  have T4 := Lib.hid (T2.out.below hb4)
  have S4 := Lib.hid (S2.out.below hb4)
  have R4 := Lib.hid (R2.out.below hb4)
  have HB4 := Lib.hid (HB2.out.trans (hb4.mono HB2.out.size))
  have IT := Lib.hid HO.out.mem.info
  clear hw4 hb4 T2 S2 R2 HB2
  go_wp2_with (first
    | (refine wpList_load_row rfl 47 _ rfl g rfl 47 cs (0, 0) _ T4.out Tryd.underlying47 rfl IT.out ?_)
    | (refine wpList_load_row rfl 72 _ rfl (g + 1) rfl 72 sv (0, 0) _ S4.out Tryd.underlying72 rfl is.out ?_)
    | (refine wpList_load_row rfl 29 _ rfl (g + 1 + 1) rfl 29 rv (0, 0) _ R4.out Tryd.underlying29 rfl ir.out ?_))
  refine (HH.out w4 HB4.out).mono ?_
  rintro e w5 ⟨rfl, hb5⟩
  have HB5 := Lib.hid (HB4.out.trans (hb5.mono HB4.out.size))
  clear hb5
  go_wp2
  go_ret2
  exact ⟨rfl, HB5.out⟩

/-! states: what it hands back, and the boxes that it has made. -/
attribute [local go_sem] growsTo growUpon
set_option maxHeartbeats 1000000 in
set_option maxRecDepth 100000 in
theorem states_of (b off n c : Nat) (l : List Bell.Fx) (f t : Int) (w : World) (hl : FixesAt w b off n l) (hg : Bell.GoodTr l) :
    Calls Tryd.prog 35 #[.slice (some ⟨b, off, none⟩) n c, .agg #[.int .i64 f, .int .i64 t]] w fun e w' => ∃ g1 g2 g3, e = .returned (.func (.func 66) #[] #[.pointer (some ⟨g1, 0, none⟩), .pointer (some ⟨g2, 0, none⟩), .pointer (some ⟨g3, 0, none⟩)]) ∧
      Blk w' g1 3 #[.int .i64 (min t (Bell.fxAt l (l.length - 1)).t)] ∧ Blk w' g2 3 #[.int .i64 (max f (Bell.fxAt l 0).t)] ∧ Blk w' g3 49 #[.slice (some ⟨b, off, none⟩) n c] ∧ (w.heap.size ≤ g1 ∧ w.heap.size ≤ g2 ∧ w.heap.size ≤ g3) ∧ Below w.heap.size w w' := by
  have hn := hl.1
  have n1 := hg.lo
  have n2 := hg.hi
  obtain ⟨m, rfl⟩ : ∃ m, n = m + 1 := ⟨n - 1, by omega⟩
  have HL := Lib.hid hl
  have hln : l.length - 1 = m := by omega
  rw [hln]
  obtain ⟨A, hA⟩ : ∃ A, A = Bell.fxAt l 0 := ⟨_, rfl⟩
  obtain ⟨B, hB⟩ : ∃ B, B = Bell.fxAt l m := ⟨_, rfl⟩
  have hL := Lib.hid (fun W (hb : Below w.heap.size w W) => last_any b off m c l W (hl.keep hb) (by omega))
  have h0 := Lib.hid (fun W (hb : Below w.heap.size w W) => ((hl.keep hb).2 0 (by omega)).1)
  rw [← hB] at hL ⊢
  rw [← hA] at h0 ⊢
  simp only [fxV] at hL
  obtain ⟨F, hF⟩ : ∃ x, x = max f A.t := ⟨_, rfl⟩
  obtain ⟨U, hU⟩ : ∃ x, x = min t B.t := ⟨_, rfl⟩
  have r1 : ∀ ts tt W, (Builtin.max_ ts tt #[.int .i64 f, .int .i64 A.t]).run Tryd.prog W = .ok (.int .i64 F) W := fun ts tt W => by rw [hF]; exact run_max2' _ _ _ _ _ _
  have r2 : ∀ ts tt W, (Builtin.min_ ts tt #[.int .i64 t, .int .i64 B.t]).run Tryd.prog W = .ok (.int .i64 U) W := fun ts tt W => by rw [hU]; exact run_min2' _ _ _ _ _ _
  have hfl := fix_tick B.t B.x B.y B.z B.p
  rw [← hF, ← hU]
  have hm1 : 0 < m + 1 := by omega
  clear hl hg hn n1 n2 hln hA hB hF hU HL
  go_enter Tryd.func35, Tryd.ntmps35
  go_upto_region 1 with fail
  obtain ⟨w1, hw1⟩ : ∃ W, W = (w.alloc (.cells #[.slice (some ⟨b, off, none⟩) (m + 1) c] 49)).alloc (.cells #[.int .i64 f, .int .i64 t] 41) := ⟨_, rfl⟩
  rw [← hw1]
  have L1 : Hid (Blk w1 w.heap.size 49 #[.slice (some ⟨b, off, none⟩) (m + 1) c]) := by show Blk _ _ _ _; rw [hw1]; exact (Blk.new _ _ _).alloc _
  have S1 : Hid (Blk w1 (w.heap.size + 1) 41 #[.int .i64 f, .int .i64 t]) := by show Blk _ _ _ _; rw [hw1]; exact Blk.at_size _ _ (by simp)
  have HB1 : Hid (Below w.heap.size w w1) := by show Below _ _ _; rw [hw1]; exact ((Below.refl _ _).alloc (Nat.le_refl _) _).alloc (by simp) _
  obtain ⟨g, hg⟩ : ∃ g, g = w.heap.size := ⟨_, rfl⟩
  rw [← hg] at L1 S1 ⊢
  have HGE := Lib.hid hg
  clear hw1 hg
  have a0 := fun d os => cell_regrown (S1.out.cell 0) d os
  have a1 := fun d os => cell_regrown (L1.out.cell 0) d os
  have a2 := fun d os => cell_regrown (h0.out w1 HB1.out) d os
  simp only [Nat.zero_mul, Nat.add_zero] at a2
  refine wp_region_made 8 [(7, 5, #[.int .i64 0], 3)] (by kernel_rfl) (by kernel_rfl) (by kernel_rfl) ?_ ?_
  · intro x hx o ho ev W
    simp only [List.mem_cons, List.not_mem_nil, or_false] at hx
    rcases hx with rfl; (obtain rfl := Option.some.inj ho; go_simp)
  simp only [List.take_succ_cons, List.take_zero, List.drop_succ_cons, List.drop_zero]
  refine wpG_step (by rfl) (fun K hK => ?_)
  go_simp
  first
    | (refine hK _ ?_; clear hK K)
    | (apply Exists.intro
       refine ⟨fun d os => ?_, hK _ ?_⟩
       (fail)
       clear hK K)
  refine wpG_step (by rfl) (fun K hK => ?_)
  go_simp
  first
    | (refine hK _ ?_; clear hK K)
    | (apply Exists.intro
       refine ⟨fun d os => ?_, hK _ ?_⟩
       (fail)
       clear hK K)
  refine wpG_step (by rfl) (fun K hK => ?_)
  go_simp
  first
    | (refine hK _ ?_; clear hK K)
    | (apply Exists.intro
       refine ⟨fun d os => ?_, hK _ ?_⟩
       (fail)
       clear hK K)
  refine wpG_step (by rfl) (fun K hK => ?_)
  go_simp
  first
    | (refine hK _ ?_; clear hK K)
    | (apply Exists.intro
       refine ⟨fun d os => ?_, hK _ ?_⟩
       (fail)
       clear hK K)
  refine wpG_step (by rfl) (fun K hK => ?_)
  go_simp
  first
    | (refine hK _ ?_; clear hK K)
    | (apply Exists.intro
       refine ⟨fun d os => ?_, hK _ ?_⟩
       (fail)
       clear hK K)
  refine wpG_step (by rfl) (fun K hK => ?_)
  go_simp
  first
    | (refine hK _ ?_; clear hK K)
    | (apply Exists.intro
       refine ⟨fun d os => ?_, hK _ ?_⟩
       (fail)
       clear hK K)
  refine wpG_step (by rfl) (fun K hK => ?_)
  go_simp
  first
    | (refine hK _ ?_; clear hK K)
    | (apply Exists.intro
       refine ⟨fun d os => ?_, hK _ ?_⟩
       (fail)
       clear hK K)
  refine wpG_skip rfl ?_
  refine wpG_nil ?_
  intro gs w2 hM
  obtain ⟨B1, ge1⟩ := hM.blk 7 _ rfl (by omega) (by simp)
  have hb := hM.below
  simp only [putAll, alOf, List.find?, Nat.reduceBEq, Option.map, Act.put, List.setIfInBounds_toArray, List.set_cons_zero, List.set_cons_succ]
  obtain ⟨g2, hg2⟩ : ∃ g, g = gs 7 := ⟨_, rfl⟩
  rw [← hg2] at B1 ge1 ⊢
  have L2 := L1.out.below hb
  have S2 := S1.out.below hb
  have HB2 := HB1.out.trans (hb.mono HB1.out.size)
  have HL1 : Hid (g + 1 < w1.heap.size ∧ w1.heap.size ≤ g2) := by have h1 := lt_of_block S1.out; exact ⟨h1, ge1⟩
  clear a0 a1 a2 hM hg2 gs L1 S1 hb
  have hgl : g2 ≠ g := by have h1 := lt_of_block S2; have h2 := HL1.out; omega
  have hgs : g2 ≠ g + 1 := by have h2 := HL1.out; omega
  have bc := B1.cell 0
  have bf := B1.frozen 0
  simp only [List.getElem?_toArray, List.getElem?_cons_zero] at bc
  have hB2 := Lib.hid HB2
  have hL2 := Lib.hid L2
  have hS2 := Lib.hid S2
  have hB1 := Lib.hid B1
  have hge := Lib.hid (show w.heap.size ≤ g2 by have := HB1.out.size; omega)
  have HG2 := Lib.hid hge.out
  clear B1 L2 S2 HB2 ge1
  go_upto_region 2 with fail
  obtain ⟨w3, hw3⟩ : ∃ W, W = w2.setCell ⟨g2, 0, none⟩ (.int .i64 F) := ⟨_, rfl⟩
  rw [← hw3]
  have F3 : Hid (Blk w3 g2 3 #[.int .i64 F]) := by show Blk _ _ _ _; rw [hw3]; exact hB1.out.set_ 0 _
  have L3 : Hid (Blk w3 g 49 #[.slice (some ⟨b, off, none⟩) (m + 1) c]) := by show Blk _ _ _ _; rw [hw3]; exact hL2.out.far (p := ⟨g2, 0, none⟩) hgl.symm _
  have S3 : Hid (Blk w3 (g + 1) 41 #[.int .i64 f, .int .i64 t]) := by show Blk _ _ _ _; rw [hw3]; exact hS2.out.far (p := ⟨g2, 0, none⟩) hgs.symm _
  have HB3 : Hid (Below w.heap.size w w3) := by show Below _ _ _; rw [hw3]; exact hB2.out.setCell (p := ⟨g2, 0, none⟩) hge.out _
  clear hw3 hgl hgs bc bf hB1 hL2 hS2 hB2 hge
  have a0 := fun d os => cell_regrown (S3.out.cell 1) d os
  have a1 := fun d os => cell_regrown (L3.out.cell 0) d os
  have cL := fun d os => hL.out (grow (redrawn w3 d) os) (HB3.out.trans ((below_regrown w3 d os).mono HB3.out.size))
  refine wp_region_made 7 [(6, 6, #[.int .i64 0], 3)] (by kernel_rfl) (by kernel_rfl) (by kernel_rfl) ?_ ?_
  · intro x hx o ho ev W
    simp only [List.mem_cons, List.not_mem_nil, or_false] at hx
    rcases hx with rfl; (obtain rfl := Option.some.inj ho; go_simp)
  simp only [List.take_succ_cons, List.take_zero, List.drop_succ_cons, List.drop_zero]
  refine wpG_step (by rfl) (fun K hK => ?_)
  go_simp
  first
    | (refine hK _ ?_; clear hK K)
    | (apply Exists.intro
       refine ⟨fun d os => ?_, hK _ ?_⟩
       (fail)
       clear hK K)
  refine wpG_step (by rfl) (fun K hK => ?_)
  go_simp
  first
    | (refine hK _ ?_; clear hK K)
    | (apply Exists.intro
       refine ⟨fun d os => ?_, hK _ ?_⟩
       (fail)
       clear hK K)
  refine wpG_step (by rfl) (fun K hK => ?_)
  go_simp
  first
    | (refine hK _ ?_; clear hK K)
    | (apply Exists.intro
       refine ⟨fun d os => ?_, hK _ ?_⟩
       (fail)
       clear hK K)
  refine wpG_step (by rfl) (fun K hK => ?_)
  go_simp
  first
    | (refine hK _ ?_; clear hK K)
    | (apply Exists.intro
       refine ⟨fun d os => ?_, hK _ ?_⟩
       (exact cL _ _)
       clear hK K)
  refine wpG_step (by rfl) (fun K hK => ?_)
  go_simp
  first
    | (refine hK _ ?_; clear hK K)
    | (apply Exists.intro
       refine ⟨fun d os => ?_, hK _ ?_⟩
       (fail)
       clear hK K)
  refine wpG_step (by rfl) (fun K hK => ?_)
  go_simp
  first
    | (refine hK _ ?_; clear hK K)
    | (apply Exists.intro
       refine ⟨fun d os => ?_, hK _ ?_⟩
       (fail)
       clear hK K)
  refine wpG_skip rfl ?_
  refine wpG_nil ?_
  intro gs w4 hM
  obtain ⟨U1, ge1⟩ := hM.blk 6 _ rfl (by omega) (by simp)
  have hb := hM.below
  simp only [putAll, alOf, List.find?, Nat.reduceBEq, Option.map, Act.put, List.setIfInBounds_toArray, List.set_cons_zero, List.set_cons_succ]
  obtain ⟨g1, hg1⟩ : ∃ g, g = gs 6 := ⟨_, rfl⟩
  rw [← hg1] at U1 ge1 ⊢
  have L4 := L3.out.below hb
  have F4 := F3.out.below hb
  have HB4 := HB3.out.trans (hb.mono HB3.out.size)
  have q1 := lt_of_block L3.out
  have q2 := lt_of_block F3.out
  have q3 := HB3.out.size
  clear a0 a1 cL hM hg1 gs L3 S3 F3 hb
  have hgl : g1 ≠ g := by omega
  have hgf : g1 ≠ g2 := by omega
  have bc := U1.cell 0
  have bf := U1.frozen 0
  simp only [List.getElem?_toArray, List.getElem?_cons_zero] at bc
  have hB4 := Lib.hid HB4
  have hL4 := Lib.hid L4
  have hF4 := Lib.hid F4
  have hU4 := Lib.hid U1
  have hge := Lib.hid (show w.heap.size ≤ g1 by omega)
  clear U1 L4 F4 HB4 ge1 q1 q2 q3
  go_wp2
  go_ret
  refine ⟨g1, g2, g, rfl, hU4.out.set_ 0 _, hF4.out.far (p := ⟨g1, 0, none⟩) hgf.symm _, hL4.out.far (p := ⟨g1, 0, none⟩) hgl.symm _, ⟨hge.out, HG2.out, by rw [HGE.out]; exact Nat.le_refl _⟩, hB4.out.setCell (p := ⟨g1, 0, none⟩) hge.out _⟩

end Go.Proofs.YtnbionhahifacaaDoor
