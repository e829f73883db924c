/- Texts Ii Ij of the proof. -/
import Derived.Test.YtmafmebcgmegeaaGreatDoorWy12
import Derived.RangeFuncNested
import Derived.RangeFuncBound
import Derived.RangeFuncLeaves
import Derived.Shelf.Abstract
import Derived.Shelf.RegionOpen
import Derived.OwnWalkIn
import Derived.TacticsInMore
import Derived.LoopNIn
import Derived.LoopIn
namespace Go.Proofs.YtmafmebcgmegeaaGreatDoor
open Go.RowKit Go.Sort
theorem plE_good {r : Bell.Pl} (h : GoodPl r) : placeE r.x r.y r.z = 0 := by
  obtain ⟨h1, h2, h3⟩ := h
  simp [placeE, firstE, withinE_in h1.1 h1.2, withinE_in h2.1 h2.2, withinE_in h3.1 h3.2]
set_option maxHeartbeats 4000000 in
set_option maxRecDepth 100000 in
theorem Heard_ok {cs : Array Value} {nm : ByteArray} {sh : List Int} {T : Bell.Ty} {sa : Option Addr} {sn sc qb qo qn qc gb go gn gc : Nat} (s : Bell.St) (r : Bell.Pl) (w : World) (hT : TyOk w cs nm sh T sa sn sc qb qo qn qc gb go gn gc) (hs : Bell.GoodSt s) (hr : GoodPl r) :
    Calls Tryz.prog 18 #[.agg cs, .agg (stV s), .agg (plV r)] w fun e w' => e = .returned (.tuple #[.int .i64 (Bell.heardOf T s r), .int .i64 0]) ∧ Below w.heap.size w w' := by
  have HO := Lib.hid hT
  have HS := Lib.hid hs
  have HR := Lib.hid hr
  clear hT hs hr
  obtain ⟨V, hV⟩ : ∃ V, V = Bell.heardOf T s r := ⟨_, rfl⟩
  have HH := Lib.hid (fun W (hb : Below w.heap.size w W) => heard_any s r W (HO.out.mem.keep hb) HO.out.good HS.out HR.out)
  rw [← hV] at HH ⊢
  clear hV
  have HSC := Lib.hid (fun W => stateCheck_any s W)
  rw [stE_good HS.out] at HSC
  have HPC := Lib.hid (fun W => checkPlace_any r.x r.y r.z W)
  rw [plE_good HR.out] at HPC
  obtain ⟨sv, hsv⟩ : ∃ v, v = stV s := ⟨_, rfl⟩
  obtain ⟨rv, hrv⟩ : ∃ v, v = plV r := ⟨_, rfl⟩
  have is : Hid ((Tryz.prog.info? 46).map (·.size) = some sv.size) := by show _ = _; rw [hsv]; kernel_rfl
  have ir : Hid ((Tryz.prog.info? 28).map (·.size) = some rv.size) := by show _ = _; rw [hrv]; kernel_rfl
  rw [← hsv] at HH HSC ⊢
  rw [← hrv] at HH ⊢
  have hrv2 : Hid (#[.int .i64 r.x, .int .i64 r.y, .int .i64 r.z] = rv) := by show _ = _; rw [hrv]; rfl
  rw [hrv2.out] at HPC
  clear hsv hrv hrv2
  go_enter Tryz.func18, Tryz.ntmps18
  go_upto_region 1 with fail
  obtain ⟨w1, hw1⟩ : ∃ W, W = ((w.alloc (.cells cs 42)).alloc (.cells sv 46)).alloc (.cells rv 28) := ⟨_, rfl⟩
  rw [← hw1]
  have T1 : Hid (Blk w1 w.heap.size 42 cs) := by show Blk _ _ _ _; rw [hw1]; exact ((Blk.new _ _ _).alloc _).alloc _
  have S1 : Hid (Blk w1 (w.heap.size + 1) 46 sv) := by show Blk _ _ _ _; rw [hw1]; exact (Blk.at_size _ _ (by simp)).alloc _
  have R1 : Hid (Blk w1 (w.heap.size + 1 + 1) 28 rv) := by show Blk _ _ _ _; rw [hw1]; exact Blk.at_size _ _ (by simp)
  have HB1 : Hid (Below w.heap.size w w1) := by show Below _ _ _; rw [hw1]; exact (((Below.refl _ _).alloc (Nat.le_refl _) _).alloc (by simp) _).alloc (by simp; omega) _
  obtain ⟨g, hg⟩ : ∃ g, g = w.heap.size := ⟨_, rfl⟩
  rw [← hg] at T1 S1 R1 ⊢
  clear hw1 hg
  have bw : ∀ d os, Below w1.heap.size w1 (grow (redrawn w1 d) os) := fun d os => below_regrown w1 d os
  have kp : ∀ d os, Below w.heap.size w (grow (redrawn w1 d) os) := fun d os => HB1.out.trans ((bw d os).mono HB1.out.size)
  have lT := fun d os => HO.out.mem.lv (T1.out.below (bw d os))
  have lS := fun d os => (S1.out.below (bw d os)).lv Tryz.prog (T := 46) Tryz.underlying46 rfl is.out
  have lR := fun d os => (R1.out.below (bw d os)).lv Tryz.prog (T := 28) Tryz.underlying28 rfl ir.out
  have c1 := fun d os => Calls.regrown_of (CheckType_ok (grow (redrawn w1 d) os) (HO.out.keep (kp d os)))
  have c2 := fun d os => Calls.regrown_of (HSC.out (grow (redrawn w1 d) os))
  have c3 := fun d os => Calls.regrown_of (HPC.out (grow (redrawn w1 d) os))
  refine wp_region_below_tail 6 (by kernel_rfl) (by kernel_rfl) ?_
  simp only [List.take_succ_cons, List.take_zero, List.drop_succ_cons, List.drop_zero]
  refine quiet_load _ _ rfl (by rfl) _ _ rfl lT ?_
  quiet_step (exact c1 _ _)
  refine quiet_load _ _ rfl (by rfl) _ _ rfl lS ?_
  quiet_step (exact c2 _ _)
  refine quiet_load _ _ rfl (by rfl) _ _ rfl lR ?_
  quiet_step (exact c3 _ _)
  refine wpQuiet_nil ?_
  intro w2 hw'
  obtain ⟨⟨dq, osq⟩, hw''⟩ := hw'
  have hb2 := bw dq osq
  rw [← hw''] at hb2
  have T2 := Lib.hid (T1.out.below hb2)
  have S2 := Lib.hid (S1.out.below hb2)
  have R2 := Lib.hid (R1.out.below hb2)
  have HB2 := Lib.hid (HB1.out.trans (hb2.mono HB1.out.size))
  clear hw'' hb2 lT lS lR c1 c2 c3 bw kp T1 S1 R1 HB1 HSC HPC
  go_wp2_with fail
  refine (first3 _ _ 0 0 0 _ (by go_simp) (by go_simp) (by go_simp)).mono ?_
  rw [show firstE [0, 0, 0] = 0 from rfl]
  rintro e w3 ⟨rfl, rfl⟩
  obtain ⟨w4, hw4⟩ : ∃ W, W = w2.alloc (.cells #[.int .i64 0, .int .i64 0, .int .i64 0] 37) := ⟨_, rfl⟩
  rw [← hw4]
  have hb4 : Below w2.heap.size w2 w4 := by rw [hw4]; exact (Below.refl _ _).alloc (Nat.le_refl _) _
  have T4 := Lib.hid (T2.out.below hb4)
  have S4 := Lib.hid (S2.out.below hb4)
  have R4 := Lib.hid (R2.out.below hb4)
  have HB4 := Lib.hid (HB2.out.trans (hb4.mono HB2.out.size))
  have IT := Lib.hid HO.out.mem.info
  clear hw4 hb4 T2 S2 R2 HB2
  go_wp2_with (first
    | (refine wpList_load_row rfl 42 _ rfl g rfl 42 cs (0, 0) _ T4.out Tryz.underlying42 rfl IT.out ?_)
    | (refine wpList_load_row rfl 46 _ rfl (g + 1) rfl 46 sv (0, 0) _ S4.out Tryz.underlying46 rfl is.out ?_)
    | (refine wpList_load_row rfl 28 _ rfl (g + 1 + 1) rfl 28 rv (0, 0) _ R4.out Tryz.underlying28 rfl ir.out ?_))
  refine (HH.out w4 HB4.out).mono ?_
  rintro e w5 ⟨rfl, hb5⟩
  have HB5 := Lib.hid (HB4.out.trans (hb5.mono HB4.out.size))
  clear hb5
  go_wp2
  go_ret2
  exact ⟨rfl, HB5.out⟩
/-! states: what it hands back, and the boxes that it has made. -/
attribute [local go_sem] growsTo growUpon
set_option maxHeartbeats 1000000 in
set_option maxRecDepth 100000 in
theorem states_of (b off n c : Nat) (l : List Bell.Fx) (f t : Int) (w : World) (hl : FixesAt w b off n l) (hg : Bell.GoodTr l) :
    Calls Tryz.prog 136 #[.slice (some ⟨b, off, none⟩) n c, .agg #[.int .i64 f, .int .i64 t]] w fun e w' => ∃ g1 g2 g3, e = .returned (.func (.func 184) #[] #[.pointer (some ⟨g1, 0, none⟩), .pointer (some ⟨g2, 0, none⟩), .pointer (some ⟨g3, 0, none⟩)]) ∧
      Blk w' g1 3 #[.int .i64 (min t (Bell.fxAt l (l.length - 1)).t)] ∧ Blk w' g2 3 #[.int .i64 (max f (Bell.fxAt l 0).t)] ∧ Blk w' g3 67 #[.slice (some ⟨b, off, none⟩) n c] ∧ (w.heap.size ≤ g1 ∧ w.heap.size ≤ g2 ∧ w.heap.size ≤ g3) ∧ Below w.heap.size w w' := by
  have hn := hl.1
  have n1 := hg.lo
  have n2 := hg.hi
  obtain ⟨m, rfl⟩ : ∃ m, n = m + 1 := ⟨n - 1, by omega⟩
  have HL := Lib.hid hl
  have hln : l.length - 1 = m := by omega
  rw [hln]
  obtain ⟨A, hA⟩ : ∃ A, A = Bell.fxAt l 0 := ⟨_, rfl⟩
  obtain ⟨B, hB⟩ : ∃ B, B = Bell.fxAt l m := ⟨_, rfl⟩
  have hL := Lib.hid (fun W (hb : Below w.heap.size w W) => last_any b off m c l W (hl.keep hb) (by omega))
  have h0 := Lib.hid (fun W (hb : Below w.heap.size w W) => ((hl.keep hb).2 0 (by omega)).1)
  rw [← hB] at hL ⊢
  rw [← hA] at h0 ⊢
  simp only [fxV] at hL
  obtain ⟨F, hF⟩ : ∃ x, x = max f A.t := ⟨_, rfl⟩
  obtain ⟨U, hU⟩ : ∃ x, x = min t B.t := ⟨_, rfl⟩
  have r1 : ∀ ts tt W, (Builtin.max_ ts tt #[.int .i64 f, .int .i64 A.t]).run Tryz.prog W = .ok (.int .i64 F) W := fun ts tt W => by rw [hF]; exact run_max2' _ _ _ _ _ _
  have r2 : ∀ ts tt W, (Builtin.min_ ts tt #[.int .i64 t, .int .i64 B.t]).run Tryz.prog W = .ok (.int .i64 U) W := fun ts tt W => by rw [hU]; exact run_min2' _ _ _ _ _ _
  have hfl := fix_tick B.t B.x B.y B.z B.p
  rw [← hF, ← hU]
  have hm1 : 0 < m + 1 := by omega
  clear hl hg hn n1 n2 hln hA hB hF hU HL
  go_enter Tryz.func136, Tryz.ntmps136
  go_upto_region 1 with fail
  obtain ⟨w1, hw1⟩ : ∃ W, W = (w.alloc (.cells #[.slice (some ⟨b, off, none⟩) (m + 1) c] 67)).alloc (.cells #[.int .i64 f, .int .i64 t] 93) := ⟨_, rfl⟩
  rw [← hw1]
  have L1 : Hid (Blk w1 w.heap.size 67 #[.slice (some ⟨b, off, none⟩) (m + 1) c]) := by show Blk _ _ _ _; rw [hw1]; exact (Blk.new _ _ _).alloc _
  have S1 : Hid (Blk w1 (w.heap.size + 1) 93 #[.int .i64 f, .int .i64 t]) := by show Blk _ _ _ _; rw [hw1]; exact Blk.at_size _ _ (by simp)
  have HB1 : Hid (Below w.heap.size w w1) := by show Below _ _ _; rw [hw1]; exact ((Below.refl _ _).alloc (Nat.le_refl _) _).alloc (by simp) _
  obtain ⟨g, hg⟩ : ∃ g, g = w.heap.size := ⟨_, rfl⟩
  rw [← hg] at L1 S1 ⊢
  have HGE := Lib.hid hg
  clear hw1 hg
  have a0 := fun d os => cell_regrown (S1.out.cell 0) d os
  have a1 := fun d os => cell_regrown (L1.out.cell 0) d os
  have a2 := fun d os => cell_regrown (h0.out w1 HB1.out) d os
  simp only [Nat.zero_mul, Nat.add_zero] at a2
  refine wp_region_made 8 [(7, 5, #[.int .i64 0], 3)] (by kernel_rfl) (by kernel_rfl) (by kernel_rfl) ?_ ?_
  · intro x hx o ho ev W
    simp only [List.mem_cons, List.not_mem_nil, or_false] at hx
    rcases hx with rfl; (obtain rfl := Option.some.inj ho; go_simp)
  simp only [List.take_succ_cons, List.take_zero, List.drop_succ_cons, List.drop_zero]
  refine wpG_step (by rfl) (fun K hK => ?_)
  go_simp
  first
    | (refine hK _ ?_; clear hK K)
    | (apply Exists.intro
       refine ⟨fun d os => ?_, hK _ ?_⟩
       (fail)
       clear hK K)
  refine wpG_step (by rfl) (fun K hK => ?_)
  go_simp
  first
    | (refine hK _ ?_; clear hK K)
    | (apply Exists.intro
       refine ⟨fun d os => ?_, hK _ ?_⟩
       (fail)
       clear hK K)
  refine wpG_step (by rfl) (fun K hK => ?_)
  go_simp
  first
    | (refine hK _ ?_; clear hK K)
    | (apply Exists.intro
       refine ⟨fun d os => ?_, hK _ ?_⟩
       (fail)
       clear hK K)
  refine wpG_step (by rfl) (fun K hK => ?_)
  go_simp
  first
    | (refine hK _ ?_; clear hK K)
    | (apply Exists.intro
       refine ⟨fun d os => ?_, hK _ ?_⟩
       (fail)
       clear hK K)
  refine wpG_step (by rfl) (fun K hK => ?_)
  go_simp
  first
    | (refine hK _ ?_; clear hK K)
    | (apply Exists.intro
       refine ⟨fun d os => ?_, hK _ ?_⟩
       (fail)
       clear hK K)
  refine wpG_step (by rfl) (fun K hK => ?_)
  go_simp
  first
    | (refine hK _ ?_; clear hK K)
    | (apply Exists.intro
       refine ⟨fun d os => ?_, hK _ ?_⟩
       (fail)
       clear hK K)
  refine wpG_step (by rfl) (fun K hK => ?_)
  go_simp
  first
    | (refine hK _ ?_; clear hK K)
    | (apply Exists.intro
       refine ⟨fun d os => ?_, hK _ ?_⟩
       (fail)
       clear hK K)
  refine wpG_skip rfl ?_
  refine wpG_nil ?_
  intro gs w2 hM
  obtain ⟨B1, ge1⟩ := hM.blk 7 _ rfl (by omega) (by simp)
  have hb := hM.below
  simp only [putAll, alOf, List.find?, Nat.reduceBEq, Option.map, Act.put, List.setIfInBounds_toArray, List.set_cons_zero, List.set_cons_succ]
  obtain ⟨g2, hg2⟩ : ∃ g, g = gs 7 := ⟨_, rfl⟩
  rw [← hg2] at B1 ge1 ⊢
  have L2 := L1.out.below hb
  have S2 := S1.out.below hb
  have HB2 := HB1.out.trans (hb.mono HB1.out.size)
  have HL1 : Hid (g + 1 < w1.heap.size ∧ w1.heap.size ≤ g2) := by have h1 := lt_of_block S1.out; exact ⟨h1, ge1⟩
  clear a0 a1 a2 hM hg2 gs L1 S1 hb
  have hgl : g2 ≠ g := by have h1 := lt_of_block S2; have h2 := HL1.out; omega
  have hgs : g2 ≠ g + 1 := by have h2 := HL1.out; omega
  have bc := B1.cell 0
  have bf := B1.frozen 0
  simp only [List.getElem?_toArray, List.getElem?_cons_zero] at bc
  have hB2 := Lib.hid HB2
  have hL2 := Lib.hid L2
  have hS2 := Lib.hid S2
  have hB1 := Lib.hid B1
  have hge := Lib.hid (show w.heap.size ≤ g2 by have := HB1.out.size; omega)
  have HG2 := Lib.hid hge.out
  clear B1 L2 S2 HB2 ge1
  go_upto_region 2 with fail
  obtain ⟨w3, hw3⟩ : ∃ W, W = w2.setCell ⟨g2, 0, none⟩ (.int .i64 F) := ⟨_, rfl⟩
  rw [← hw3]
  have F3 : Hid (Blk w3 g2 3 #[.int .i64 F]) := by show Blk _ _ _ _; rw [hw3]; exact hB1.out.set_ 0 _
  have L3 : Hid (Blk w3 g 67 #[.slice (some ⟨b, off, none⟩) (m + 1) c]) := by show Blk _ _ _ _; rw [hw3]; exact hL2.out.far (p := ⟨g2, 0, none⟩) hgl.symm _
  have S3 : Hid (Blk w3 (g + 1) 93 #[.int .i64 f, .int .i64 t]) := by show Blk _ _ _ _; rw [hw3]; exact hS2.out.far (p := ⟨g2, 0, none⟩) hgs.symm _
  have HB3 : Hid (Below w.heap.size w w3) := by show Below _ _ _; rw [hw3]; exact hB2.out.setCell (p := ⟨g2, 0, none⟩) hge.out _
  clear hw3 hgl hgs bc bf hB1 hL2 hS2 hB2 hge
  have a0 := fun d os => cell_regrown (S3.out.cell 1) d os
  have a1 := fun d os => cell_regrown (L3.out.cell 0) d os
  have cL := fun d os => hL.out (grow (redrawn w3 d) os) (HB3.out.trans ((below_regrown w3 d os).mono HB3.out.size))
  refine wp_region_made 7 [(6, 6, #[.int .i64 0], 3)] (by kernel_rfl) (by kernel_rfl) (by kernel_rfl) ?_ ?_
  · intro x hx o ho ev W
    simp only [List.mem_cons, List.not_mem_nil, or_false] at hx
    rcases hx with rfl; (obtain rfl := Option.some.inj ho; go_simp)
  simp only [List.take_succ_cons, List.take_zero, List.drop_succ_cons, List.drop_zero]
  refine wpG_step (by rfl) (fun K hK => ?_)
  go_simp
  first
    | (refine hK _ ?_; clear hK K)
    | (apply Exists.intro
       refine ⟨fun d os => ?_, hK _ ?_⟩
       (fail)
       clear hK K)
  refine wpG_step (by rfl) (fun K hK => ?_)
  go_simp
  first
    | (refine hK _ ?_; clear hK K)
    | (apply Exists.intro
       refine ⟨fun d os => ?_, hK _ ?_⟩
       (fail)
       clear hK K)
  refine wpG_step (by rfl) (fun K hK => ?_)
  go_simp
  first
    | (refine hK _ ?_; clear hK K)
    | (apply Exists.intro
       refine ⟨fun d os => ?_, hK _ ?_⟩
       (fail)
       clear hK K)
  refine wpG_step (by rfl) (fun K hK => ?_)
  go_simp
  first
    | (refine hK _ ?_; clear hK K)
    | (apply Exists.intro
       refine ⟨fun d os => ?_, hK _ ?_⟩
       (exact cL _ _)
       clear hK K)
  refine wpG_step (by rfl) (fun K hK => ?_)
  go_simp
  first
    | (refine hK _ ?_; clear hK K)
    | (apply Exists.intro
       refine ⟨fun d os => ?_, hK _ ?_⟩
       (fail)
       clear hK K)
  refine wpG_step (by rfl) (fun K hK => ?_)
  go_simp
  first
    | (refine hK _ ?_; clear hK K)
    | (apply Exists.intro
       refine ⟨fun d os => ?_, hK _ ?_⟩
       (fail)
       clear hK K)
  refine wpG_skip rfl ?_
  refine wpG_nil ?_
  intro gs w4 hM
  obtain ⟨U1, ge1⟩ := hM.blk 6 _ rfl (by omega) (by simp)
  have hb := hM.below
  simp only [putAll, alOf, List.find?, Nat.reduceBEq, Option.map, Act.put, List.setIfInBounds_toArray, List.set_cons_zero, List.set_cons_succ]
  obtain ⟨g1, hg1⟩ : ∃ g, g = gs 6 := ⟨_, rfl⟩
  rw [← hg1] at U1 ge1 ⊢
  have L4 := L3.out.below hb
  have F4 := F3.out.below hb
  have HB4 := HB3.out.trans (hb.mono HB3.out.size)
  have q1 := lt_of_block L3.out
  have q2 := lt_of_block F3.out
  have q3 := HB3.out.size
  clear a0 a1 cL hM hg1 gs L3 S3 F3 hb
  have hgl : g1 ≠ g := by omega
  have hgf : g1 ≠ g2 := by omega
  have bc := U1.cell 0
  have bf := U1.frozen 0
  simp only [List.getElem?_toArray, List.getElem?_cons_zero] at bc
  have hB4 := Lib.hid HB4
  have hL4 := Lib.hid L4
  have hF4 := Lib.hid F4
  have hU4 := Lib.hid U1
  have hge := Lib.hid (show w.heap.size ≤ g1 by omega)
  clear U1 L4 F4 HB4 ge1 q1 q2 q3
  go_wp2
  go_ret
  refine ⟨g1, g2, g, rfl, hU4.out.set_ 0 _, hF4.out.far (p := ⟨g1, 0, none⟩) hgf.symm _, hL4.out.far (p := ⟨g1, 0, none⟩) hgl.symm _, ⟨hge.out, HG2.out, by rw [HGE.out]; exact Nat.le_refl _⟩, hB4.out.setCell (p := ⟨g1, 0, none⟩) hge.out _⟩
end Go.Proofs.YtmafmebcgmegeaaGreatDoor

namespace Go.Proofs.YtmafmebcgmegeaaGreatDoor
open Go.RowKit Go.Sort
attribute [local go_sem] Oper.semAt_some
/-- Below `n₁` all is as it was, but for some blocks. -/
structure Steady (n₁ : Nat) (E : Nat → Prop) (A B : World) : Prop where
  os : B.os = A.os
  tape : B.tape = A.tape
  output : B.output = A.output
  size : A.heap.size ≤ B.heap.size
  block : ∀ k, k < n₁ → ¬ E k → B.heap[k]? = A.heap[k]?
theorem Steady.refl (n₁ : Nat) (E : Nat → Prop) (A : World) : Steady n₁ E A A := ⟨rfl, rfl, rfl, Nat.le_refl _, fun _ _ _ => rfl⟩
theorem Steady.trans {n₁ : Nat} {E : Nat → Prop} {A B C : World} (h : Steady n₁ E A B) (k : Steady n₁ E B C) : Steady n₁ E A C :=
  ⟨k.os.trans h.os, k.tape.trans h.tape, k.output.trans h.output, Nat.le_trans h.size k.size, fun i hi he => (k.block i hi he).trans (h.block i hi he)⟩
theorem Steady.of_below {n₁ : Nat} {E : Nat → Prop} {A B : World} (h : Below n₁ A B) : Steady n₁ E A B := ⟨h.os, h.tape, h.output, h.size, fun k hk _ => h.block k hk⟩
theorem Steady.blk {n₁ : Nat} {E : Nat → Prop} {A B : World} (h : Steady n₁ E A B) {g : Nat} {t : TypeId} {cs : Array Value} (hb : Blk A g t cs) (hg : g < n₁) (he : ¬ E g) : Blk B g t cs := (h.block g hg he).trans hb
theorem cell_same {A B : World} {p : Addr} (h : B.heap[p.block]? = A.heap[p.block]?) : B.cell? p = A.cell? p := by
  unfold World.cell?
  rw [h]
theorem Steady.fixes {n₁ : Nat} {E : Nat → Prop} {A B : World} (h : Steady n₁ E A B) {b off n : Nat} {l : List Bell.Fx} (hl : FixesAt A b off n l) (hb : b < n₁) (he : ¬ E b) : FixesAt B b off n l := by
  refine ⟨hl.1, fun i hi => ?_⟩
  obtain ⟨h0, h1, h2, h3, h4⟩ := hl.2 i hi
  have k : ∀ {j : Nat}, B.cell? ⟨b, j, none⟩ = A.cell? ⟨b, j, none⟩ := fun {j} => cell_same (p := ⟨b, j, none⟩) (h.block b hb he)
  exact ⟨k.trans h0, k.trans h1, k.trans h2, k.trans h3, k.trans h4⟩
theorem finRange_take {M k : Nat} (hk : k < M) : (List.finRange M).take (k + 1) = (List.finRange M).take k ++ [⟨k, hk⟩] := by
  rw [List.take_succ_eq_append_getElem (by simpa using hk)]
  simp
set_option maxHeartbeats 4000000 in
set_option maxRecDepth 100000 in
theorem states1_in (n : Nat) (hn : 1 ≤ n) (lp g1 g2 g3 n₁ : Nat) (E : Nat → Prop) (e1 : g1 < n₁ ∧ ¬ E g1) (e2 : g2 < n₁ ∧ ¬ E g2) (e3 : g3 < n₁ ∧ ¬ E g3) (b off N c : Nat) (eb : b < n₁ ∧ ¬ E b) (l : List Bell.Fx) (f t : Int) (M : Nat) (hM : M = (t - f).toNat)
    (hg : Bell.GoodTr l) (hf : (Bell.fxAt l 0).t ≤ f) (ht : t ≤ (Bell.fxAt l (l.length - 1)).t) (hf2 : f ≤ 100000000) (ht2 : 0 ≤ t)
    (J Jx : List (Fin M) → World → Prop) (B : Nat) (hJ : AbidesFrom B J)
    (hY : ∀ pre (x : Fin M) W1, J pre W1 → pre.length < M → YieldAt Fence.wide (n - 1) Tryz.prog lp #[.int .i64 (f + (x.val : Int)), .agg (stV (Bell.stAt l (f + (x.val : Int))))] W1 fun e W' =>
      (e = .returned (.bool true) ∧ J (pre ++ [x]) W' ∧ Steady n₁ E W1 W') ∨ (e = .returned (.bool false) ∧ Jx (pre ++ [x]) W'))
    (W : World) (hl : FixesAt W b off N l) (c1 : Blk W g1 3 #[.int .i64 t]) (c2 : Blk W g2 3 #[.int .i64 f]) (c3 : Blk W g3 67 #[.slice (some ⟨b, off, none⟩) N c]) (hsz : n₁ ≤ W.heap.size) (h0 : J [] W) :
    CallsIn Fence.wide n Tryz.prog 184 #[.func (.yield lp) #[] #[], .pointer (some ⟨g1, 0, none⟩), .pointer (some ⟨g2, 0, none⟩), .pointer (some ⟨g3, 0, none⟩)] W fun e W' => (∃ v, e = .returned v) ∧
      ((∃ ys, ys = List.finRange M ∧ J ys W') ∨ (∃ pre, True ∧ Jx pre W')) := by
  have gp0 := (hg.pts 0 (by have := hg.lo; omega)).t0
  have gpl := (hg.pts (l.length - 1) (by have := hg.lo; omega)).t1
  refine callsIn_of_wp Tryz.func184 rfl trivial ?_ rfl
  simp only [Tryz.ntmps184, List.size_toArray, List.length_cons, List.length_nil, Nat.reduceAdd, Nat.reduceSub, Array.replicate_succ, Array.replicate_zero, List.push_toArray, List.append_toArray, List.nil_append, List.cons_append]
  have k1 := c1.cell 0
  have k2 := c2.cell 0
  simp only [List.getElem?_toArray, List.getElem?_cons_zero] at k1 k2
  gi_wp2
  clear k1 k2
  gi_loopw [5, 9] (fun _ i wr => ∃ k : Nat, k ≤ M ∧ i = .int .i64 k ∧ Hid (J ((List.finRange M).take k) wr) ∧ Hid (Steady n₁ E W wr)) (fun _ i _ => M - (intOf i).toNat)
  case atStart => exact ⟨0, Nat.zero_le _, rfl, h0, Steady.refl _ _ _⟩
  case round =>
    obtain ⟨k, hk, rfl, hJs, hst⟩ := hrel
    by_cases hlt : k < M
    · have q1 : (k : Int) < t - f := by omega
      have x2 := (hst.out.blk c2 e2.1 e2.2).cell 0
      have x3 := (hst.out.blk c3 e3.1 e3.2).cell 0
      simp only [List.getElem?_toArray, List.getElem?_cons_zero] at x2 x3
      have y2 := fun d os => cell_regrown x2 d os
      have y3 := fun d os => cell_regrown x3 d os
      have hlr := hst.out.fixes hl eb.1 eb.2
      have cS := fun d os => Calls.regrown_of (state_any b off N c l (f + (k : Int)) (grow (redrawn wr d) os) (hlr.keep (below_regrown wr d os)) hg (by omega) (by omega))
      have w1 : IntKind.i64.wrap (f + (k : Int)) = f + (k : Int) := IntWalk.i64_in _ (by omega)
      gi_wp2
      refine wpIn_region_below_tail (Or.inl rfl) 9 (by kernel_rfl) (by kernel_rfl) (by kernel_rfl) ?_
      simp only [List.take_succ_cons, List.take_zero, List.drop_succ_cons, List.drop_zero]
      iterate 8 (quiet_step (fail))
      quiet_step (exact cS _ _)
      refine wpQuiet_nil ?_
      intro w2 hw'
      obtain ⟨⟨dq, osq⟩, hw''⟩ := hw'
      have hb2 := below_regrown wr dq osq
      rw [← hw''] at hb2
      have hst2 : Hid (Steady n₁ E W w2) := hst.out.trans (Steady.of_below (hb2.mono (Nat.le_trans hsz hst.out.size)))
      have hJ2 := hJ _ wr w2 none hJs.out ⟨hb2.os, hb2.tape, hb2.output, hb2.size, fun k hk _ => hb2.block k hk⟩ (fun r e => by cases e)
      obtain ⟨fn, tmps, assign, body, hy, hR⟩ := hY _ ⟨k, hlt⟩ w2 hJ2 (by simp; omega)
      clear hw'' hb2 y2 y3 x2 x3 cS hJs hst hlr w1 hJ2
      gi_wp2
      refine hR.mono ?_
      rintro e W3 (⟨rfl, hJ3, hk3⟩ | ⟨rfl, hJx3⟩)
      · have HJ3 : Hid (J ((List.finRange M).take (k + 1)) W3) := by show J _ _; rw [finRange_take hlt]; exact hJ3
        have hst3 : Hid (Steady n₁ E W W3) := hst2.out.trans hk3
        clear hJ3 hk3
        gi_wp2
        go_roundw
        case rel => exact ⟨k + 1, by omega, by go_num, HJ3, hst3⟩
        case measure => simp [intOf]; omega
      · gi_wp2
        refine bodyPost_ret (results_none rfl _ _ _) rfl ?_
        exact ⟨⟨_, rfl⟩, .inr ⟨_, trivial, hJx3⟩⟩
    · have q1 : ¬ (k : Int) < t - f := by omega
      have hall : Hid (J (List.finRange M) wr) := by
        have := hJs.out
        rw [List.take_of_length_le (by simp; omega)] at this
        exact this
      gi_wp2
      go_end0
      exact ⟨⟨_, rfl⟩, .inl hall.out⟩
end Go.Proofs.YtmafmebcgmegeaaGreatDoor
