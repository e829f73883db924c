/- Exposure, of a type, a track, a span and a receiver without a fault. -/
import Derived.Test.YtnbionhahifacaaDoorIk
namespace Go.Proofs.YtnbionhahifacaaDoor
open Go.RowKit Go.Sort

set_option maxHeartbeats 4000000 in
set_option maxRecDepth 100000 in
theorem Exposure_ok {cs : Array Value} {nm : ByteArray} {sh : List Int} {T : Bell.Ty} {sa : Option Addr} {sn sc qb qo qn qc gb go gn gc : Nat} (b off N c : Nat) (l : List Bell.Fx) (f t : Int) (r : Bell.Pl) (w : World) (hT : TyOk w cs nm sh T sa sn sc qb qo qn qc gb go gn gc)
    (hl : FixesAt w b off N l) (hg : Bell.GoodTr l) (hr : GoodPl r) (hf0 : 0 ≤ f) (hft : f ≤ t) (ht1 : t ≤ 100000000) :
    Calls Tryd.prog 7 #[.agg cs, .slice (some ⟨b, off, none⟩) N c, .agg #[.int .i64 f, .int .i64 t], .agg (plV r)] w fun e w' => e = .returned (.tuple #[.int .i64 (Bell.expoOf T l r f t), .int .i64 0]) ∧ Below w.heap.size w w' := by
  have HO := Lib.hid hT
  have HL := Lib.hid hl
  obtain ⟨V, hV⟩ : ∃ V, V = Bell.expoOf T l r f t := ⟨_, rfl⟩
  have HH := Lib.hid (fun W (hb : Below w.heap.size w W) => exposure_any b off N c l f t r W (hT.keep hb) (hl.keep hb) hg hr hf0 hft ht1)
  have HC := Lib.hid (fun W (hb : Below w.heap.size w W) => CheckTrack_ok b off N c l W (hl.keep hb) hg)
  have HTk := Lib.hid (fun W => checkTicks_ok f t W hf0 hft ht1)
  rw [← hV] at HH ⊢
  have HPC := Lib.hid (fun W => checkPlace_any r.x r.y r.z W)
  rw [plE_good hr] at HPC
  obtain ⟨rv, hrv⟩ : ∃ v, v = plV r := ⟨_, rfl⟩
  have ir : Hid ((Tryd.prog.info? 29).map (·.size) = some rv.size) := by show _ = _; rw [hrv]; kernel_rfl
  rw [← hrv] at HH ⊢
  have hrv2 : Hid (#[.int .i64 r.x, .int .i64 r.y, .int .i64 r.z] = rv) := by show _ = _; rw [hrv]; rfl
  rw [hrv2.out] at HPC
  clear hT hl hg hr hV hrv hrv2 hf0 hft ht1
  go_enter Tryd.func7, Tryd.ntmps7
  go_upto_region 1 with fail
  obtain ⟨w1, hw1⟩ : ∃ W, W = ((w.alloc (.cells cs 47)).alloc (.cells #[.int .i64 f, .int .i64 t] 41)).alloc (.cells rv 29) := ⟨_, rfl⟩
  rw [← hw1]
  have T1 : Hid (Blk w1 w.heap.size 47 cs) := by show Blk _ _ _ _; rw [hw1]; exact ((Blk.new _ _ _).alloc _).alloc _
  have S1 : Hid (Blk w1 (w.heap.size + 1) 41 #[.int .i64 f, .int .i64 t]) := by show Blk _ _ _ _; rw [hw1]; exact (Blk.at_size _ _ (by simp)).alloc _
  have R1 : Hid (Blk w1 (w.heap.size + 1 + 1) 29 rv) := by show Blk _ _ _ _; rw [hw1]; exact Blk.at_size _ _ (by simp)
  have HB1 : Hid (Below w.heap.size w w1) := by show Below _ _ _; rw [hw1]; exact (((Below.refl _ _).alloc (Nat.le_refl _) _).alloc (by simp) _).alloc (by simp; omega) _
  obtain ⟨g, hg⟩ : ∃ g, g = w.heap.size := ⟨_, rfl⟩
  rw [← hg] at T1 S1 R1 ⊢
  clear hw1 hg
  have bw : ∀ d os, Below w1.heap.size w1 (grow (redrawn w1 d) os) := fun d os => below_regrown w1 d os
  have kp : ∀ d os, Below w.heap.size w (grow (redrawn w1 d) os) := fun d os => HB1.out.trans ((bw d os).mono HB1.out.size)
  have lT := fun d os => HO.out.mem.lv (T1.out.below (bw d os))
  have lR := fun d os => (R1.out.below (bw d os)).lv Tryd.prog (T := 29) Tryd.underlying29 rfl ir.out
  have s0 := fun d os => cell_regrown (S1.out.cell 0) d os
  have s1 := fun d os => cell_regrown (S1.out.cell 1) d os
  have c1 := fun d os => Calls.regrown_of (CheckType_ok (grow (redrawn w1 d) os) (HO.out.keep (kp d os)))
  have c2 := fun d os => Calls.regrown_of (HC.out (grow (redrawn w1 d) os) (kp d os))
  have c3 := fun d os => Calls.regrown_of (HTk.out (grow (redrawn w1 d) os))
  have c4 := fun d os => Calls.regrown_of (HPC.out (grow (redrawn w1 d) os))
  refine wp_region_below_tail 8 (by kernel_rfl) (by kernel_rfl) ?_
  simp only [List.take_succ_cons, List.take_zero, List.drop_succ_cons, List.drop_zero]
  refine quiet_load _ _ rfl (by rfl) _ _ rfl lT ?_
  quiet_step (exact c1 _ _)
  quiet_step (fail)
  quiet_step (exact c2 _ _)
  quiet_step (fail)
  quiet_step (exact c3 _ _)
  refine quiet_load _ _ rfl (by rfl) _ _ rfl lR ?_
  quiet_step (exact c4 _ _)
  refine wpQuiet_nil ?_
  intro w2 hw'
  obtain ⟨⟨dq, osq⟩, hw''⟩ := hw'
  have hb2 := bw dq osq
  rw [← hw''] at hb2
  have T2 := Lib.hid (T1.out.below hb2)
  have S2 := Lib.hid (S1.out.below hb2)
  have R2 := Lib.hid (R1.out.below hb2)
  have HB2 := Lib.hid (HB1.out.trans (hb2.mono HB1.out.size))
  clear hw'' hb2 lT lR s0 s1 c1 c2 c3 c4 bw kp T1 S1 R1 HB1 HTk HPC HC
  go_wp2_with fail
  refine (first4 _ _ 0 0 0 0 _ (by go_simp) (by go_simp) (by go_simp) (by go_simp)).mono ?_
  rw [show firstE [0, 0, 0, 0] = 0 from rfl]
  rintro e w3 ⟨rfl, rfl⟩
  obtain ⟨w4, hw4⟩ : ∃ W, W = w2.alloc (.cells #[.int .i64 0, .int .i64 0, .int .i64 0, .int .i64 0] 42) := ⟨_, rfl⟩
  rw [← hw4]
  have hb4 : Below w2.heap.size w2 w4 := by rw [hw4]; exact (Below.refl _ _).alloc (Nat.le_refl _) _
  have T4 := Lib.hid (T2.out.below hb4)
  have S4 := Lib.hid (S2.out.below hb4)
  have R4 := Lib.hid (R2.out.below hb4)
  have HB4 := Lib.hid (HB2.out.trans (hb4.mono HB2.out.size))
  have IT := Lib.hid HO.out.mem.info
  have s0 := S4.out.cell 0
  have s1 := S4.out.cell 1
  simp only [List.getElem?_toArray, List.getElem?_cons_zero, List.getElem?_cons_succ] at s0 s1
  clear hw4 hb4 T2 S2 R2 HB2
  go_wp2_with (first
    | (refine wpList_load_row rfl 47 _ rfl g rfl 47 cs (0, 0) _ T4.out Tryd.underlying47 rfl IT.out ?_)
    | (refine wpList_load_row rfl 29 _ rfl (g + 1 + 1) rfl 29 rv (0, 0) _ R4.out Tryd.underlying29 rfl ir.out ?_))
  refine (HH.out w4 HB4.out).mono ?_
  rintro e w5 ⟨rfl, hb5⟩
  have HB5 := Lib.hid (HB4.out.trans (hb5.mono HB4.out.size))
  clear hb5
  go_wp2
  go_ret2
  exact ⟨rfl, HB5.out⟩

end Go.Proofs.YtnbionhahifacaaDoor
