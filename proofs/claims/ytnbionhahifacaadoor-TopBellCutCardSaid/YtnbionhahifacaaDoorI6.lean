/- States of tracks; a track without a fault passes. -/
import Derived.Test.YtnbionhahifacaaDoorI5
namespace Go.Proofs.YtnbionhahifacaaDoor
open Go.RowKit Go.Sort

theorem Calls.grow_same {P : Program} {f : FuncId} {args : Array Value} {W : World} {v : Value} (h : Calls P f args W fun e w' => e = .returned v ∧ w' = W) : Calls P f args W fun e w' => e = .returned v ∧ Below W.heap.size W w' :=
  h.mono fun _ _ ⟨h1, h2⟩ => ⟨h1, by rw [h2]; exact Below.refl _ _⟩

theorem stateAt_st (x y k at_ bt : Int) (g1 g2 g3 : Nat) (w : World) (hx : -1000000 ≤ x ∧ x ≤ 1000000) (hy : -1000000 ≤ y ∧ y ≤ 1000000) (h0 : 0 ≤ at_) (h1 : at_ ≤ k) (h2 : k < bt) (h3 : bt ≤ 100000000)
    (c1 : w.cell? ⟨g1, 0, none⟩ = some (.int .i64 k)) (c2 : w.cell? ⟨g2, 0, none⟩ = some (.int .i64 at_)) (c3 : w.cell? ⟨g3, 0, none⟩ = some (.int .i64 bt)) :
    Calls Tryd.prog 78 #[.int .i64 x, .int .i64 y, .pointer (some ⟨g1, 0, none⟩), .pointer (some ⟨g2, 0, none⟩), .pointer (some ⟨g3, 0, none⟩)] w fun e w' => e = .returned (.int .i64 (Bell.betw x y (k - at_) (bt - at_))) ∧ w' = w := by
  go_enter Tryd.func78, Tryd.ntmps78
  go_wp2_with fail
  refine (between_st x y (k - at_) (bt - at_) _ (by omega) (by omega) (by omega) (by omega) (by omega) (by omega) (by omega) (by omega)).mono ?_
  rintro e w' ⟨rfl, rfl⟩
  go_wp2
  go_ret
  exact ⟨rfl, rfl⟩

def stV (s : Bell.St) : Array Value := #[.int .i64 s.x, .int .i64 s.y, .int .i64 s.z, .int .i64 s.hx, .int .i64 s.hy, .int .i64 s.p]

set_option maxHeartbeats 4000000 in
set_option maxRecDepth 100000 in
theorem state_any (b off n c : Nat) (l : List Bell.Fx) (k : Int) (w : World) (hl : FixesAt w b off n l) (hg : Bell.GoodTr l) (h1 : (Bell.fxAt l 0).t ≤ k) (h2 : k < (Bell.fxAt l (l.length - 1)).t) :
    Calls Tryd.prog 49 #[.slice (some ⟨b, off, none⟩) n c, .int .i64 k] w fun e w' => e = .returned (.agg (stV (Bell.stAt l k))) ∧ Below w.heap.size w w' := by
  obtain ⟨i, i1, i2, i3, i4⟩ := Bell.seg_ex hg.lo h1 h2
  have hn : n ≤ 16 := by have := hg.hi; rw [hl.1] at this; exact this
  have hin : i + 1 < n := by rw [← hl.1]; exact i1
  have hs : Hid (Bell.stAt l k = Bell.stOf (Bell.fxAt l i) (Bell.fxAt l (i + 1)) k) := by show _ = _; unfold Bell.stAt; rw [i4]
  have ga := hg.pts i (by omega)
  have gb := hg.pts (i + 1) i1
  have HS := Lib.hid (fun W (hb : Below w.heap.size w W) => segment_any b off n c l k W (hl.keep hb) (by omega) i i4 hin)
  rw [hs.out]
  obtain ⟨A, hA⟩ : ∃ A, A = Bell.fxAt l i := ⟨_, rfl⟩
  obtain ⟨B, hB⟩ : ∃ B, B = Bell.fxAt l (i + 1) := ⟨_, rfl⟩
  rw [← hA] at ga i2 HS ⊢
  rw [← hB] at gb i3 HS ⊢
  clear hl hg h1 h2 i1 i4 hs hA hB
  obtain ⟨at0, at1, ax0, ax1, ay0, ay1, az0, az1, ap0, ap1⟩ := ga
  obtain ⟨bt0, bt1, bx0, bx1, by0, by1, bz0, bz1, bp0, bp1⟩ := gb
  go_enter Tryd.func49, Tryd.ntmps49
  go_wp2_with fail
  obtain ⟨w1, hw1⟩ : ∃ X, X = (w.alloc (.cells #[.int .i64 k] 3)).alloc (.cells #[.int .i64 0, .int .i64 0, .int .i64 0, .int .i64 0, .int .i64 0, .int .i64 0] 72) := ⟨_, rfl⟩
  rw [← hw1]
  have HK : Hid (Blk w1 w.heap.size 3 #[.int .i64 k]) := by show Blk _ _ _ _; rw [hw1]; exact (Blk.new _ _ _).alloc _
  have HZ : Hid (Blk w1 (w.heap.size + 1) 72 #[.int .i64 0, .int .i64 0, .int .i64 0, .int .i64 0, .int .i64 0, .int .i64 0]) := by show Blk _ _ _ _; rw [hw1]; exact Blk.at_size _ _ (by simp)
  have HB : Hid (Below w.heap.size w w1) := by show Below _ _ _; rw [hw1]; exact ((Below.refl _ _).alloc (Nat.le_refl _) _).alloc (by simp) _
  obtain ⟨gk, hgk⟩ : ∃ g, g = w.heap.size := ⟨_, rfl⟩
  rw [← hgk] at HK HZ ⊢
  have HG := Lib.hid hgk
  clear hw1 hgk
  refine (HS.out w1 HB.out).mono ?_
  rintro e w2 ⟨rfl, hb2⟩
  have HK2 := Lib.hid (HK.out.below hb2)
  have HZ2 := Lib.hid (HZ.out.below hb2)
  have HB2 := Lib.hid (HB.out.trans (hb2.mono HB.out.size))
  clear hb2 HK HZ HB HS
  simp only [fxV]
  go_wp2_with fail
  obtain ⟨w3, hw3⟩ : ∃ X, X = (w2.alloc (.cells #[.int .i64 A.t, .int .i64 A.x, .int .i64 A.y, .int .i64 A.z, .int .i64 A.p] 68)).alloc (.cells #[.int .i64 B.t, .int .i64 B.x, .int .i64 B.y, .int .i64 B.z, .int .i64 B.p] 68) := ⟨_, rfl⟩
  rw [← hw3]
  have HA3 : Hid (Blk w3 w2.heap.size 68 #[.int .i64 A.t, .int .i64 A.x, .int .i64 A.y, .int .i64 A.z, .int .i64 A.p]) := by show Blk _ _ _ _; rw [hw3]; exact (Blk.new _ _ _).alloc _
  have HF3 : Hid (Blk w3 (w2.heap.size + 1) 68 #[.int .i64 B.t, .int .i64 B.x, .int .i64 B.y, .int .i64 B.z, .int .i64 B.p]) := by show Blk _ _ _ _; rw [hw3]; exact Blk.at_size _ _ (by simp)
  have hb3 : Below w2.heap.size w2 w3 := by rw [hw3]; exact ((Below.refl _ _).alloc (Nat.le_refl _) _).alloc (by simp) _
  have HK3 := Lib.hid (HK2.out.below hb3)
  have HZ3 := Lib.hid (HZ2.out.below hb3)
  have HB3 := Lib.hid (HB2.out.trans (hb3.mono HB2.out.size))
  obtain ⟨ga, hga⟩ : ∃ g, g = w2.heap.size := ⟨_, rfl⟩
  rw [← hga] at HA3 HF3 ⊢
  clear hw3 hga hb3 HK2 HZ2 HB2
  have bl := fun d os => below_regrown w3 d os
  have a0 := fun d os => cell_regrown (HA3.out.cell 0) d os
  have a1 := fun d os => cell_regrown (HA3.out.cell 1) d os
  have a2 := fun d os => cell_regrown (HA3.out.cell 2) d os
  have a3 := fun d os => cell_regrown (HA3.out.cell 3) d os
  have a4 := fun d os => cell_regrown (HA3.out.cell 4) d os
  have f0 := fun d os => cell_regrown (HF3.out.cell 0) d os
  have f1 := fun d os => cell_regrown (HF3.out.cell 1) d os
  have f2 := fun d os => cell_regrown (HF3.out.cell 2) d os
  have f3 := fun d os => cell_regrown (HF3.out.cell 3) d os
  have f4 := fun d os => cell_regrown (HF3.out.cell 4) d os
  have cx := fun d os => Calls.regrown_of (Calls.grow_same (stateAt_st A.x B.x k A.t B.t gk ga (ga + 1) (grow (redrawn w3 d) os) (by omega) (by omega) (by omega) (by omega) (by omega) (by omega) (cell_regrown (HK3.out.cell 0) d os) (a0 d os) (f0 d os)))
  have cy := fun d os => Calls.regrown_of (Calls.grow_same (stateAt_st A.y B.y k A.t B.t gk ga (ga + 1) (grow (redrawn w3 d) os) (by omega) (by omega) (by omega) (by omega) (by omega) (by omega) (cell_regrown (HK3.out.cell 0) d os) (a0 d os) (f0 d os)))
  have cz := fun d os => Calls.regrown_of (Calls.grow_same (stateAt_st A.z B.z k A.t B.t gk ga (ga + 1) (grow (redrawn w3 d) os) (by omega) (by omega) (by omega) (by omega) (by omega) (by omega) (cell_regrown (HK3.out.cell 0) d os) (a0 d os) (f0 d os)))
  have cp := fun d os => Calls.regrown_of (Calls.grow_same (stateAt_st A.p B.p k A.t B.t gk ga (ga + 1) (grow (redrawn w3 d) os) (by omega) (by omega) (by omega) (by omega) (by omega) (by omega) (cell_regrown (HK3.out.cell 0) d os) (a0 d os) (f0 d os)))
  have cm := fun d os => Calls.regrown_of (minus_any B.x B.y B.z A.x A.y A.z (grow (redrawn w3 d) os) (by omega) (by omega) (by omega) (by omega) (by omega) (by omega))
  have cf := fun d os => Calls.regrown_of (flat_any (B.x - A.x) (B.y - A.y) (B.z - A.z) (grow (redrawn w3 d) os))
  clear at0 at1 ax0 ax1 ay0 ay1 az0 az1 ap0 ap1 bt0 bt1 bx0 bx1 by0 by1 bz0 bz1 bp0 bp1 bl i2 i3 i hn hin
  refine wp_region_below_tail 38 (by kernel_rfl) (by kernel_rfl) ?_
  simp only [List.take_succ_cons, List.take_zero, List.drop_succ_cons, List.drop_zero]
  iterate 7 (quiet_step (fail))
  quiet_step (exact cx _ _)
  iterate 7 (quiet_step (fail))
  quiet_step (exact cy _ _)
  iterate 7 (quiet_step (fail))
  quiet_step (exact cz _ _)
  iterate 5 (quiet_step (fail))
  quiet_step (exact cm _ _)
  quiet_step (exact cf _ _)
  iterate 5 (quiet_step (fail))
  quiet_step (exact cp _ _)
  quiet_step (fail)
  refine wpQuiet_nil ?_
  intro _ hw'
  obtain ⟨⟨dq, osq⟩, hw''⟩ := hw'
  have hb4 := below_regrown w3 dq osq
  rw [← hw''] at hb4
  have HZ4 := Lib.hid (HZ3.out.below hb4)
  have HB4 := Lib.hid (HB3.out.trans (hb4.mono HB3.out.size))
  clear hw'' hb4 a0 a1 a2 a3 a4 f0 f1 f2 f3 f4 cx cy cz cp cm cf
  refine wpList_store_row rfl 72 _ _ rfl (gk + 1) (stV (Bell.stOf A B k)) rfl rfl 72 _ HZ4.out (by kernel_rfl) rfl (by simp [Value.oneCell', stV]) ?_
  have hlv := (HZ4.out.setRow (stV (Bell.stOf A B k))).lv Tryd.prog (T := 72) Tryd.underlying72 rfl (by kernel_rfl)
  have HLV := Lib.hid hlv
  clear hlv
  go_wp2
  refine bodyPost_ret (v := .agg (stV (Bell.stOf A B k))) (by simp [results, Tryd.results49, asAddr]; exact HLV.out) rfl ?_
  exact ⟨rfl, HB4.out.setRow' (by rw [HG.out]; omega) _⟩

end Go.Proofs.YtnbionhahifacaaDoor
