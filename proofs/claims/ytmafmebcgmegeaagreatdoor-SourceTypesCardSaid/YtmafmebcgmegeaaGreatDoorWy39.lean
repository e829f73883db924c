/- Texts We Wf Qm Qo Qq of the proof. -/
import Derived.Test.YtmafmebcgmegeaaGreatDoorWy38
import Derived.Test.YtmafmebcgmegeaaGreatDoorWy25
import Derived.Test.YtmafmebcgmegeaaGreatDoorWy17
import Derived.Test.YtmafmebcgmegeaaGreatDoorWy18
import Derived.Test.YtmafmebcgmegeaaGreatDoorWy30
import Derived.Test.YtmafmebcgmegeaaGreatDoorWy37
import Derived.Test.YtmafmebcgmegeaaGreatDoorWy22
namespace Go.Proofs.YtmafmebcgmegeaaGreatDoor
open Go.RowKit Go.Sort
set_option maxHeartbeats 4000000 in
set_option maxRecDepth 100000 in
theorem refHeard_any {cs : Array Value} {nm : ByteArray} {sh : List Int} {T : Bell.Ty} {sa : Option Addr} {sn sc qb qo qn qc gb go gn gc : Nat} (s : Bell.St) (r : Bell.Pl) (w : World) (hT : TyAt w cs nm sh T sa sn sc qb qo qn qc gb go gn gc) (hG : GoodT sh T) (hs : Bell.GoodSt s) (hr : GoodPl r) :
    Calls Tryz.prog 30 #[.agg cs, .agg (stV s), .agg (plV r)] w fun e w' => e = .returned (.int .i64 (Bell.heardOf T s r)) ∧ Below w.heap.size w w' := by
  have HT := Lib.hid hT
  have HG := Lib.hid hG
  have IT : Hid ((Tryz.prog.info? 26).map (·.size) = some cs.size) := by show _ = _; rw [hT.cells]; kernel_rfl
  obtain ⟨x0, x1, y0, y1, z0, z1, hx0, hx1, hy0, hy1, p0, p1⟩ := hs
  obtain ⟨⟨rx0, rx1⟩, ⟨ry0, ry1⟩, ⟨rz0, rz1⟩⟩ := hr
  clear hT hG
  obtain ⟨V, hV⟩ : ∃ V, V = Bell.heardOf T s r := ⟨_, rfl⟩
  rw [← hV]
  have HV := Lib.hid hV
  clear hV
  unfold stV plV
  obtain ⟨a, ha⟩ : ∃ a, a = r.x - s.x := ⟨_, rfl⟩
  obtain ⟨b, hb⟩ : ∃ b, b = r.y - s.y := ⟨_, rfl⟩
  obtain ⟨c, hc⟩ : ∃ c, c = r.z - s.z := ⟨_, rfl⟩
  have a1 : -200000 ≤ a ∧ a ≤ 200000 := by omega
  have b1 : -200000 ≤ b ∧ b ≤ 200000 := by omega
  have c1 : -20000 ≤ c ∧ c ≤ 20000 := by omega
  have sa1 := sq_in a1.1 a1.2
  have sb1 := sq_in b1.1 b1.2
  have sc1 := sq_in c1.1 c1.2
  have hSc := Lib.hid (fun W => refSector_any s.hx s.hy a b W (by omega) (by omega) (by omega) (by omega))
  have hEm := Lib.hid (fun W (hb : Below w.heap.size w W) => refEmission_any s.p (a * a + b * b + c * c) W (HT.out.keep hb) HG.out ⟨p0, p1⟩)
  obtain ⟨E, hE⟩ : ∃ E, E = Bell.emis T.sets (Bell.reachOf T.squares (a * a + b * b + c * c)) s.p := ⟨_, rfl⟩
  obtain ⟨S, hS⟩ : ∃ S, S = Bell.sectorOf s.hx s.hy a b := ⟨_, rfl⟩
  have hS8 : S < 8 := by rw [hS]; exact Bell.sector_lt _ _ _ _
  have hEr := Bell.emis_range HG.out.ty.sets (r := Bell.reachOf T.squares (a * a + b * b + c * c)) (Bell.reach_lt HG.out.ty.sq) s.p
  obtain ⟨D, hD⟩ : ∃ D, D = T.direct.getD S 0 := ⟨_, rfl⟩
  have hDr := HG.out.ty.dir S hS8
  have hv : Hid (V = if a * a + b * b ≤ 4 * c * c then E * D / 1000 else E * D * T.side / 1000000) := by
    show _ = _
    rw [HV.out, hE, hD, hS, ha, hb, hc]; unfold Bell.heardOf Bell.steepOf Bell.energyOf Bell.sqOf; rfl
  rw [← hE] at hEm hEr
  rw [← hS] at hSc
  rw [← hD] at hDr
  have HDir := Lib.hid (HT.out.dir hS8)
  rw [← hD] at HDir
  have hED := mul_in (a := E) (b := D) (m := 100000000) (n := 2000) (by omega) (by omega) (by omega) (by omega)
  have hED0 : 0 ≤ E * D := Int.mul_nonneg hEr.1 hDr.1
  obtain ⟨X, hX⟩ : ∃ X, X = E * D := ⟨_, rfl⟩
  have v7 : IntKind.i64.wrap (E * D) = X := by rw [hX]; exact IntWalk.i64_in _ (by omega)
  rw [← hX] at hED hED0 hv
  have hsd0 := HG.out.ty.side0
  have hsd1 := HG.out.ty.side1
  have hXS := mul_in (a := X) (b := T.side) (m := 200000000000) (n := 1000) (by omega) (by omega) (by omega) (by omega)
  have hXS0 : 0 ≤ X * T.side := Int.mul_nonneg hED0 hsd0
  obtain ⟨sd, hsd⟩ : ∃ x, x = T.side := ⟨_, rfl⟩
  have HSide := Lib.hid HT.out.c10
  rw [← hsd] at HSide hXS hXS0 hsd0 hsd1 hv
  obtain ⟨X1, hX1⟩ : ∃ x, x = X * sd := ⟨_, rfl⟩
  have v8 : Hid (IntKind.i64.wrap (X * sd) = X1) := by show _ = _; rw [hX1]; exact IntWalk.i64_in _ (by omega)
  rw [← hX1] at hXS hXS0 hv
  obtain ⟨A2, hA2⟩ : ∃ x, x = a * a := ⟨_, rfl⟩
  obtain ⟨B2, hB2⟩ : ∃ x, x = b * b := ⟨_, rfl⟩
  obtain ⟨C2, hC2⟩ : ∃ x, x = c * c := ⟨_, rfl⟩
  have e4 : 4 * c * c = 4 * C2 := by rw [Int.mul_assoc, hC2]
  have v1 : IntKind.i64.wrap (a * a) = A2 := by rw [hA2]; exact IntWalk.i64_in _ (by omega)
  have v2 : IntKind.i64.wrap (b * b) = B2 := by rw [hB2]; exact IntWalk.i64_in _ (by omega)
  have v3 : IntKind.i64.wrap (c * c) = C2 := by rw [hC2]; exact IntWalk.i64_in _ (by omega)
  rw [← hA2] at sa1
  rw [← hB2] at sb1
  rw [← hC2] at sc1
  rw [← hA2, ← hB2] at hv hEm
  rw [← hC2] at hEm
  rw [e4] at hv
  obtain ⟨H, hH⟩ : ∃ x, x = A2 + B2 := ⟨_, rfl⟩
  obtain ⟨Q, hQ⟩ : ∃ x, x = H + C2 := ⟨_, rfl⟩
  obtain ⟨C4, hC4⟩ : ∃ x, x = 4 * C2 := ⟨_, rfl⟩
  obtain ⟨c4, hc4⟩ : ∃ x, x = 4 * c := ⟨_, rfl⟩
  have v4 : IntKind.i64.wrap (A2 + B2) = H := by rw [hH]; exact IntWalk.i64_in _ (by omega)
  have v5 : IntKind.i64.wrap (H + C2) = Q := by rw [hQ]; exact IntWalk.i64_in _ (by omega)
  have v9 : Hid (IntKind.i64.wrap (4 * c) = c4) := by show _ = _; rw [hc4]; exact IntWalk.i64_in _ (by omega)
  have v10 : Hid (IntKind.i64.wrap (c4 * c) = C4) := by show _ = _; rw [hc4, e4, ← hC4]; exact IntWalk.i64_in _ (by omega)
  have v11 : IntKind.i64.wrap (r.x - s.x) = a := by rw [ha]; exact IntWalk.i64_in _ (by omega)
  have v12 : IntKind.i64.wrap (r.y - s.y) = b := by rw [hb]; exact IntWalk.i64_in _ (by omega)
  have v13 : IntKind.i64.wrap (r.z - s.z) = c := by rw [hc]; exact IntWalk.i64_in _ (by omega)
  rw [← hH] at hv hEm
  rw [← hC4] at hv
  rw [← hQ] at hEm
  have HBD : Hid ((0 ≤ X ∧ X ≤ 200000000000) ∧ (0 ≤ X1 ∧ X1 ≤ 200000000000000)) := by show _ ∧ _; omega
  have V1 := Lib.hid v1; have V2 := Lib.hid v2; have V3 := Lib.hid v3; have V4 := Lib.hid v4; have V5 := Lib.hid v5; have V7 := Lib.hid v7
  clear ha hb hc hE hS hD hX hsd HV hED hXS hX1 hA2 hB2 hC2 hH hQ hC4 hc4 e4 a1 b1 c1 sa1 sb1 sc1 hED0 hXS0 hsd0 hsd1 hEr hDr x0 x1 y0 y1 z0 z1 hx0 hx1 hy0 hy1 p0 p1 rx0 rx1 ry0 ry1 rz0 rz1 v1 v2 v3 v4 v5 v7
  go_enter Tryz.func30, Tryz.ntmps30
  go_upto_region 1 with fail
  obtain ⟨w1, hw1⟩ : ∃ W, W = (((w.alloc (.cells cs 26)).alloc (.cells #[.int .i64 s.x, .int .i64 s.y, .int .i64 s.z, .int .i64 s.hx, .int .i64 s.hy, .int .i64 s.p] 32)).alloc (.cells #[.int .i64 r.x, .int .i64 r.y, .int .i64 r.z] 28)) := ⟨_, rfl⟩
  rw [← hw1]
  have T3 : Hid (Blk w1 (w.heap.size) 26 cs) := by show Blk _ _ _ _; rw [hw1]; exact ((Blk.new _ _ _).alloc _).alloc _
  have S4 : Hid (Blk w1 (w.heap.size + 1) 32 #[.int .i64 s.x, .int .i64 s.y, .int .i64 s.z, .int .i64 s.hx, .int .i64 s.hy, .int .i64 s.p]) := by show Blk _ _ _ _; rw [hw1]; exact (Blk.at_size _ _ (by simp)).alloc _
  have R5 : Hid (Blk w1 (w.heap.size + 1 + 1) 28 #[.int .i64 r.x, .int .i64 r.y, .int .i64 r.z]) := by show Blk _ _ _ _; rw [hw1]; exact Blk.at_size _ _ (by simp)
  have hb1 : Below w.heap.size w w1 := by rw [hw1]; exact ((((Below.refl _ _).alloc (Nat.le_refl _) _).alloc (by simp) _).alloc (by simp; omega) _)
  obtain ⟨g3, hg3⟩ : ∃ g, g = w.heap.size := ⟨_, rfl⟩
  obtain ⟨g4, hg4⟩ : ∃ g, g = w.heap.size + 1 := ⟨_, rfl⟩
  obtain ⟨g5, hg5⟩ : ∃ g, g = w.heap.size + 1 + 1 := ⟨_, rfl⟩
  have HGw1 : Hid (g3 = w.heap.size ∧ g4 = w.heap.size + 1 ∧ g5 = w.heap.size + 1 + 1) := ⟨hg3, hg4, hg5⟩
  rw [← hg5] at R5
  try rw [← hg5]
  rw [← hg4] at S4
  try rw [← hg4]
  rw [← hg3] at T3
  try rw [← hg3]
  clear hw1 hg3 hg4 hg5
  have HB : Hid (Below w.heap.size w w1) := hb1
  clear hb1
  have r0 := R5.out.cell 0; have r1 := R5.out.cell 1; have r2 := R5.out.cell 2
  have s0 := S4.out.cell 0; have s1 := S4.out.cell 1; have s2 := S4.out.cell 2
  simp only [List.getElem?_toArray, List.getElem?_cons_zero, List.getElem?_cons_succ] at r0 r1 r2 s0 s1 s2
  go_upto_region 1 with fail
  go_big_quiet (fail)
  obtain ⟨w2, hw2⟩ : ∃ W, W = w1.drewN nq := ⟨_, rfl⟩
  rw [← hw2]
  have hb2 : Below w1.heap.size w1 w2 := by rw [hw2]; exact below_drewN' (Below.refl _ _) _
  replace HB := Lib.hid (HB.out.trans (hb2.mono HB.out.size))
  replace T3 := Lib.hid (T3.out.below hb2)
  replace S4 := Lib.hid (S4.out.below hb2)
  clear hb2
  clear hw2 r0 r1 r2 s0 s1 s2 v11 v12 v13 R5
  have v1 := V1.out; have v2 := V2.out; have v3 := V3.out; have v4 := V4.out; have v5 := V5.out; have v7 := V7.out
  have bw : ∀ d os, Below w2.heap.size w2 (grow (redrawn w2 d) os) := fun d os => below_regrown w2 d os
  have lT := fun d os => (T3.out.below (bw d os)).lv Tryz.prog (T := 26) Tryz.underlying26 rfl IT.out
  have s3 := fun d os => cell_regrown (S4.out.cell 3) d os
  have s4 := fun d os => cell_regrown (S4.out.cell 4) d os
  have s5 := fun d os => cell_regrown (S4.out.cell 5) d os
  have td := fun d os => cell_regrown ((T3.out.cell (2 + S)).trans HDir.out) d os
  have ce := fun d os => Calls.regrown_of (hEm.out (grow (redrawn w2 d) os) (HB.out.trans ((bw d os).mono HB.out.size)))
  have cc := fun d os => Calls.regrown_of (hSc.out (grow (redrawn w2 d) os))
  have hS8i : (S : Int) < 8 := by omega
  go_upto_region 2 with fail
  refine wp_region_quiet_below (by kernel_rfl) (by kernel_rfl) ?_
  refine quiet_load _ _ rfl (by rfl) _ _ rfl lT ?_
  iterate 13 (quiet_step (fail))
  quiet_step (exact ce _ _)
  iterate 5 (quiet_step (fail))
  quiet_step (exact cc _ _)
  repeat (quiet_step (fail))
  refine wpQuiet_nil ?_
  intro w4 hw'
  obtain ⟨⟨dq, osq⟩, hw''⟩ := hw'
  have hb4 := bw dq osq
  rw [← hw''] at hb4
  replace HB := Lib.hid (HB.out.trans (hb4.mono HB.out.size))
  replace T3 := Lib.hid (T3.out.below hb4)
  clear hb4
  have t10 := (T3.out.cell 10).trans HSide.out
  clear hw'' lT s3 s4 s5 td ce cc bw S4 hSc hEm HDir V1 V2 V3 V4 V5 V7 v5 v7
  have v9 := v9.out
  have v10 := v10.out
  have v8 := v8.out
  obtain ⟨⟨q1, q2⟩, q3, q4⟩ := HBD.out
  by_cases hst : H ≤ C4
  · rw [if_pos hst] at hv
    go_wp2
    go_ret
    exact ⟨ret_int hv.out.symm, HB.out⟩
  · rw [if_neg hst] at hv
    go_wp2
    go_ret
    exact ⟨ret_int hv.out.symm, HB.out⟩
end Go.Proofs.YtmafmebcgmegeaaGreatDoor

namespace Go.Proofs.YtmafmebcgmegeaaGreatDoor
open Go.RowKit Go.Sort
attribute [local go_sem] growsTo growUpon
set_option maxHeartbeats 4000000 in
set_option maxRecDepth 100000 in
theorem refBanded_any {cs : Array Value} {nm : ByteArray} {sh : List Int} {T : Bell.Ty} {sa : Option Addr} {sn sc qb qo qn qc gb go gn gc : Nat} (e : Int) (w : World) (hT : TyAt w cs nm sh T sa sn sc qb qo qn qc gb go gn gc) (hG : GoodT sh T) (he : 0 ≤ e ∧ e ≤ 10000000000000) :
    Calls Tryz.prog 31 #[.agg cs, .int .i64 e] w fun x w' => ∃ g c, x = .returned (.slice (some ⟨g, 0, none⟩) sn c) ∧ (∀ i, i < sn → w'.cell? ⟨g, i, none⟩ = some (.int .i64 (bandAt sh e sn i))) ∧ Below w.heap.size w w' := by
  obtain ⟨i0, hi, hz0, hz1, hz2⟩ := info_parts infoInt
  have HT := Lib.hid hT
  have HS := Lib.hid hG.sh
  have HE := Lib.hid he
  have hl : Hid (sh.length = sn) := hT.shares.1
  have hn0 : 0 < sn := by rw [← hl.out]; exact HS.out.cnt.1
  have hn8 : sn ≤ 8 := by rw [← hl.out]; exact HS.out.cnt.2
  obtain ⟨sb, so, rfl, hsh⟩ := hT.shares.2 hn0
  have HSH := Lib.hid hsh
  clear hT hG he hsh
  go_enter Tryz.func31, Tryz.ntmps31
  go_upto_region 1 with fail
  obtain ⟨w1, hw1⟩ : ∃ W, W = (w.alloc (.cells cs 26)) := ⟨_, rfl⟩
  rw [← hw1]
  have B2 : Hid (Blk w1 (w.heap.size) 26 cs) := by show Blk _ _ _ _; rw [hw1]; exact Blk.new _ _ _
  have hb1 : Below w.heap.size w w1 := by rw [hw1]; exact ((Below.refl _ _).alloc (Nat.le_refl _) _)
  obtain ⟨g2, hg2⟩ : ∃ g, g = w.heap.size := ⟨_, rfl⟩
  have HGw1 : Hid (g2 = w.heap.size) := hg2
  rw [← hg2] at B2
  try rw [← hg2]
  clear hw1 hg2
  have HB : Hid (Below w.heap.size w w1) := hb1
  clear hb1
  go_wp2
  go_loopw [5, 6, 7, 8] (fun v l i _ wr => ∃ k : Nat, k ≤ sn ∧ i = .int .i64 k ∧ l = .int .i64 (e - partTo sh e k) ∧ Hid (wr.ownsRow w1.heap.size 3 1 v k (partRow sh e k)) ∧ Hid (Below w1.heap.size w1 wr)) (fun _ _ i _ _ => sn - (intOf i).toNat)
  case atStart => exact ⟨0, Nat.zero_le _, rfl, by simp [partTo], World.ownsRow_nil _ _ _ _, Below.refl _ _⟩
  case round =>
    obtain ⟨k, hk, rfl, rfl, hown, hbw⟩ := hrel
    have B2x := Lib.hid (B2.out.below hbw.out)
    have HBx := Lib.hid (HB.out.trans (hbw.out.mono HB.out.size))
    have c1 := (B2x.out.cell 1).trans HT.out.c1
    by_cases hlt : k < sn
    · have hx := HBx.out.cell (p := ⟨sb, so + k, none⟩) (World.block_lt_of_cell? _ _ (HSH.out k hlt))
      rw [HSH.out k hlt] at hx
      have hp := partE_in HE.out (HS.out.rng (sh.getD k 0) (by rw [List.getD_eq_getElem?_getD, List.getElem?_eq_getElem (show k < sh.length by rw [hl.out]; exact hlt)]; exact List.getElem_mem _))
      have hq := partTo_in HE.out HS.out.rng k (by rw [hl.out]; omega)
      obtain ⟨x, hxx⟩ : ∃ x, x = sh.getD k 0 := ⟨_, rfl⟩
      rw [← hxx] at hx hp
      obtain ⟨m, hm⟩ : ∃ m, m = e * x := ⟨_, rfl⟩
      have v1 : IntKind.i64.wrap (e * x) = m := by rw [hm]; exact IntWalk.i64_in _ (by omega)
      obtain ⟨P, hP⟩ : ∃ m, m = partE e x := ⟨_, rfl⟩
      have v2 : m.tdiv 1000 = P := by rw [hP, hm]; exact Int.tdiv_eq_ediv_of_nonneg hp.2.2.1
      rw [← hP] at hp
      obtain ⟨Q, hQ⟩ : ∃ m, m = partTo sh e k := ⟨_, rfl⟩
      have HR1 : Hid (partTo sh e (k + 1) = Q + P) := by show _ = _; rw [hQ, hP, hxx]; rfl
      have HR2 : Hid (partRow sh e (k + 1) = partRow sh e k ++ [.int .i64 P]) := by show _ = _; rw [hP, hxx]; rfl
      rw [← hQ] at hq ⊢
      have he1 := HE.out.1
      have he2 := HE.out.2
      obtain ⟨p1, p2, _, _⟩ := hp
      obtain ⟨q1, q2⟩ := hq
      clear hxx hm hP hQ
      have hsz := hbw.out.size
      have hown0 := hown.out
      go_wp2_with (at_builtin; refine wpList_append_own _ rfl _ _ 22 rfl w1.heap.size 3 i0 (.int .i64 0) 1 8 Tryz.underlying22 hi hz0 hz1 hz2 rfl (by decide) _ _ _ rfl (World.ownsRow.alloc hown0 _) ⟨wr.heap.size, 0, none⟩ 1 1 [.int .i64 P] rfl rfl (cell_one_new _ _ _) (by simp [Value.oneCell']) (by unfold maxLen; omega) (by omega) (by simp; omega) ?_; intro v' w2 hown' hgrow _)
      have R : Hid (w2.ownsRow w1.heap.size 3 1 v' (k + 1) (partRow sh e (k + 1))) := by
        show World.ownsRow _ _ _ _ _ _ _
        rw [HR2.out]
        exact hown'
      have B1 : Below w1.heap.size w1 w2 := Below.grown (hbw.out.alloc (by omega) _) hgrow (by simp; omega) (fun j hj => (hown0.lt j hj).1)
      clear hown' hgrow hown0 HR2
      go_wp2
      go_roundw
      case rel => exact ⟨k + 1, by omega, by go_num, by rw [HR1.out]; go_num, R.out, B1⟩
      case measure => simp [intOf]; omega
    · obtain rfl : k = sn := by omega
      have hp := partE_in HE.out (HS.out.rng (sh.getD 0 0) (by rw [List.getD_eq_getElem?_getD, List.getElem?_eq_getElem (show 0 < sh.length by rw [hl.out]; exact hn0)]; exact List.getElem_mem _))
      have hq := partTo_in HE.out HS.out.rng k (by rw [hl.out]; omega)
      have hrow : wr.ownsRow w1.heap.size 3 1 u5 k (partRow sh e k) := hown.out
      rcases hrow.2 with ⟨_, h0⟩ | ⟨g, cap, cur, rfl, hbg, hblk, hle, hmx, hcz, _⟩
      · omega
      have B8 : Hid (Blk wr g 3 cur) := hblk
      have HAT : Hid (∀ i, i < k → wr.cell? ⟨g, i, none⟩ = some (.int .i64 (partE e (sh.getD i 0)))) := fun i hi => by
        have h1 := World.ownsRow.cellAt hrow i (by omega)
        exact h1.trans (partRow_at sh e k i hi)
      have z0 := HAT.out 0 hn0
      have zf := B8.out.frozen 0
      have he1 := HE.out.1
      have he2 := HE.out.2
      have hb0 : Hid (bandAt sh e k 0 = partE e (sh.getD 0 0) + (e - partTo sh e k)) := by show _ = _; unfold bandAt; rw [if_pos rfl]
      obtain ⟨P, hP⟩ : ∃ m, m = partE e (sh.getD 0 0) := ⟨_, rfl⟩
      obtain ⟨L, hL⟩ : ∃ m, m = e - partTo sh e k := ⟨_, rfl⟩
      rw [← hP] at z0 hp hb0
      rw [← hL] at hb0 ⊢
      obtain ⟨p1, p2, _, _⟩ := hp
      have v1 : IntKind.i64.wrap (P + L) = P + L := IntWalk.i64_in _ (by omega)
      have HBG : Hid (w1.heap.size ≤ g) := hbg
      have HCZ : Hid (0 < cur.size) := by show _ < _; rw [hcz]; omega
      have HF : Hid (Below w.heap.size w (wr.setCell ⟨g, 0, none⟩ (.int .i64 (P + L)))) := HBx.out.setCell (p := ⟨g, 0, none⟩) (by have := HB.out.size; have := HBG.out; simp only; omega) _
      have HCF : Hid (∀ i, i < k → (wr.setCell ⟨g, 0, none⟩ (.int .i64 (P + L))).cell? ⟨g, i, none⟩ = some (.int .i64 (bandAt sh e k i))) := fun i hi => by
        by_cases h0 : i = 0
        · subst h0
          rw [hb0.out]
          have := (B8.out.set_ 0 (.int .i64 (P + L))).cell 0
          rw [this]
          simp [HCZ.out]
        · have h1 : bandAt sh e k i = partE e (sh.getD i 0) := by unfold bandAt; rw [if_neg h0]
          rw [h1, ← HAT.out i hi, (B8.out.set_ 0 (.int .i64 (P + L))).cell i, B8.out.cell i, Array.getElem?_setIfInBounds_ne (by omega)]
      clear hP hL hrow hown hbw hblk hbg hcz hmx hq p1 p2 he1 he2 HAT
      have hi0 : (0 : Int) < (k : Int) := by omega
      go_wp2
      go_ret
      exact ⟨g, cap, rfl, HCF.out, HF.out⟩
end Go.Proofs.YtmafmebcgmegeaaGreatDoor

namespace Go.Proofs.YtmafmebcgmegeaaGreatDoor
open Go.RowKit Go.Sort
/-- A track of the call's own. -/
def OwnTR (w : World) (base : Nat) (v : Value) (l : List Bell.Fx) : Prop := w.ownsRow base 140 5 v l.length (fxCells l)
theorem OwnTR.at_ {w : World} {base : Nat} {v : Value} {l : List Bell.Fx} (h : OwnTR w base v l) : ∃ A c, v = .slice A l.length c ∧ TrAt w A l.length l ∧ l.length ≤ c ∧ c ≤ 9223372036854775807 := by
  have h0 := h
  rcases h.2 with ⟨hv, hn⟩ | ⟨g, cap, cur, hv, hb, hg, hnc, hm, hs', ht⟩
  · exact ⟨none, 0, by rw [hv, hn], ⟨rfl, fun h => by omega⟩, by omega, by omega⟩
  · subst hv
    refine ⟨_, _, rfl, ⟨rfl, fun _ => ⟨g, 0, rfl, rfl, fun i hi => ?_⟩⟩, hnc, by unfold maxLen at hm; omega⟩
    obtain ⟨p0, p1, p2, p3, p4⟩ := fxCells_at l i hi
    unfold FixAt
    simp only [Nat.zero_add]
    refine ⟨?_, ?_, ?_, ?_, ?_⟩
    · rw [World.ownsRow.cellAt h0 (i * 5) (by omega)]; exact p0
    · rw [World.ownsRow.cellAt h0 (i * 5 + 1) (by omega)]; exact p1
    · rw [World.ownsRow.cellAt h0 (i * 5 + 2) (by omega)]; exact p2
    · rw [World.ownsRow.cellAt h0 (i * 5 + 3) (by omega)]; exact p3
    · rw [World.ownsRow.cellAt h0 (i * 5 + 4) (by omega)]; exact p4
def spCells (l : List Bell.Sp) : List Value := l.flatMap fun p => [.int .i64 p.d, .int .i64 p.h, .int .i64 p.p]
theorem spCells_at (l : List Bell.Sp) (i : Nat) (hi : i < l.length) : (spCells l)[i * 3]? = some (.int .i64 (Bell.spAt l i).d) ∧ (spCells l)[i * 3 + 1]? = some (.int .i64 (Bell.spAt l i).h) ∧ (spCells l)[i * 3 + 2]? = some (.int .i64 (Bell.spAt l i).p) := by
  induction l generalizing i with
  | nil => simp at hi
  | cons p l ih =>
    cases i with
    | zero => exact ⟨rfl, rfl, rfl⟩
    | succ i =>
      have := ih i (by simpa using hi)
      have e : spCells (p :: l) = Value.int .i64 p.d :: Value.int .i64 p.h :: Value.int .i64 p.p :: spCells l := rfl
      have ef : Bell.spAt (p :: l) (i + 1) = Bell.spAt l i := rfl
      rw [e, ef, show (i + 1) * 3 = i * 3 + 1 + 1 + 1 by omega]
      simpa using this
def OwnSp (w : World) (base : Nat) (v : Value) (l : List Bell.Sp) : Prop := w.ownsRow base 166 3 v l.length (spCells l)
theorem OwnSp.at_ {w : World} {base : Nat} {v : Value} {l : List Bell.Sp} (h : OwnSp w base v l) : ∃ A c, v = .slice A l.length c ∧ SpsAt w A l.length l := by
  have h0 := h
  rcases h.2 with ⟨hv, hn⟩ | ⟨g, cap, cur, hv, hb, hg, hnc, hm, hs', ht⟩
  · exact ⟨none, 0, by rw [hv, hn], ⟨rfl, fun h => by omega⟩⟩
  · subst hv
    refine ⟨_, _, rfl, ⟨rfl, fun _ => ⟨g, 0, rfl, fun i hi => ?_⟩⟩⟩
    obtain ⟨p0, p1, p2⟩ := spCells_at l i hi
    simp only [Nat.zero_add]
    refine ⟨?_, ?_, ?_⟩
    · rw [World.ownsRow.cellAt h0 (i * 3) (by omega)]; exact p0
    · rw [World.ownsRow.cellAt h0 (i * 3 + 1) (by omega)]; exact p1
    · rw [World.ownsRow.cellAt h0 (i * 3 + 2) (by omega)]; exact p2
end Go.Proofs.YtmafmebcgmegeaaGreatDoor
