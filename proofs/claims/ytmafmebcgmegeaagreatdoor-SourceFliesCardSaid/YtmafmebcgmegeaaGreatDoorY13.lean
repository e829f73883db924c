/- Texts Id Ie of the proof. -/
import Derived.Test.YtmafmebcgmegeaaGreatDoorY12
namespace Go.Proofs.YtmafmebcgmegeaaGreatDoor
open Go.RowKit Go.Sort
/-- A place without a fault. -/
def GoodPl (r : Bell.Pl) : Prop := (-100000 ≤ r.x ∧ r.x ≤ 100000) ∧ (-100000 ≤ r.y ∧ r.y ≤ 100000) ∧ (0 ≤ r.z ∧ r.z ≤ 20000)
def plV (r : Bell.Pl) : Array Value := #[.int .i64 r.x, .int .i64 r.y, .int .i64 r.z]
set_option maxHeartbeats 4000000 in
set_option maxRecDepth 100000 in
theorem heard_any {cs : Array Value} {nm : ByteArray} {sh : List Int} {T : Bell.Ty} {sa : Option Addr} {sn sc qb qo qn qc gb go gn gc : Nat} (s : Bell.St) (r : Bell.Pl) (w : World) (hT : TyAt w cs nm sh T sa sn sc qb qo qn qc gb go gn gc) (hG : GoodT sh T) (hs : Bell.GoodSt s) (hr : GoodPl r) :
    Calls Tryz.prog 95 #[.agg cs, .agg (stV s), .agg (plV r)] w fun e w' => e = .returned (.int .i64 (Bell.heardOf T s r)) ∧ Below w.heap.size w w' := by
  have HT := Lib.hid hT
  have HG := Lib.hid hG
  obtain ⟨x0, x1, y0, y1, z0, z1, hx0, hx1, hy0, hy1, p0, p1⟩ := hs
  obtain ⟨⟨rx0, rx1⟩, ⟨ry0, ry1⟩, ⟨rz0, rz1⟩⟩ := hr
  clear hT hG
  obtain ⟨V, hV⟩ : ∃ V, V = Bell.heardOf T s r := ⟨_, rfl⟩
  rw [← hV]
  have HV := Lib.hid hV
  clear hV
  unfold stV plV
  obtain ⟨a, ha⟩ : ∃ a, a = r.x - s.x := ⟨_, rfl⟩
  obtain ⟨b, hb⟩ : ∃ b, b = r.y - s.y := ⟨_, rfl⟩
  obtain ⟨c, hc⟩ : ∃ c, c = r.z - s.z := ⟨_, rfl⟩
  have a1 : -200000 ≤ a ∧ a ≤ 200000 := by omega
  have b1 : -200000 ≤ b ∧ b ≤ 200000 := by omega
  have c1 : -20000 ≤ c ∧ c ≤ 20000 := by omega
  have sa1 := sq_in a1.1 a1.2
  have sb1 := sq_in b1.1 b1.2
  have sc1 := sq_in c1.1 c1.2
  have hM := Lib.hid (fun W => minus_any r.x r.y r.z s.x s.y s.z W (by omega) (by omega) (by omega) (by omega) (by omega) (by omega))
  rw [← ha, ← hb, ← hc] at hM
  have hSq := Lib.hid (fun W => square_any a b c W (by omega) (by omega) (by omega))
  have hLs := Lib.hid (fun W => levelSquare_any a b c W (by omega) (by omega))
  have hSc := Lib.hid (fun W => sector_any s.hx s.hy a b W (by omega) (by omega) (by omega) (by omega))
  have hEm := Lib.hid (fun W (hb : Below w.heap.size w W) => emission_any s.p (a * a + b * b + c * c) W (HT.out.keep hb) HG.out ⟨p0, p1⟩ ⟨by omega, by omega⟩)
  obtain ⟨E, hE⟩ : ∃ E, E = Bell.emis T.sets (Bell.reachOf T.squares (a * a + b * b + c * c)) s.p := ⟨_, rfl⟩
  obtain ⟨S, hS⟩ : ∃ S, S = Bell.sectorOf s.hx s.hy a b := ⟨_, rfl⟩
  have hS8 : S < 8 := by rw [hS]; exact Bell.sector_lt _ _ _ _
  have hEr := Bell.emis_range HG.out.ty.sets (r := Bell.reachOf T.squares (a * a + b * b + c * c)) (Bell.reach_lt HG.out.ty.sq) s.p
  obtain ⟨D, hD⟩ : ∃ D, D = T.direct.getD S 0 := ⟨_, rfl⟩
  have hDr := HG.out.ty.dir S hS8
  have hv : Hid (V = if a * a + b * b ≤ 4 * c * c then E * D / 1000 else E * D * T.side / 1000000) := by
    show _ = _
    rw [HV.out, hE, hD, hS, ha, hb, hc]; unfold Bell.heardOf Bell.steepOf Bell.energyOf Bell.sqOf; rfl
  rw [← hE] at hEm hEr
  rw [← hS] at hSc
  rw [← hD] at hDr
  have HDir := Lib.hid (HT.out.dir hS8)
  rw [← hD] at HDir
  have hED := mul_in (a := E) (b := D) (m := 100000000) (n := 2000) (by omega) (by omega) (by omega) (by omega)
  have hED0 : 0 ≤ E * D := Int.mul_nonneg hEr.1 hDr.1
  obtain ⟨X, hX⟩ : ∃ X, X = E * D := ⟨_, rfl⟩
  have hXe : Hid (E * D = X) := hX.symm
  rw [← hX] at hED hED0 hv
  have hsd0 := HG.out.ty.side0
  have hsd1 := HG.out.ty.side1
  have hXS := mul_in (a := X) (b := T.side) (m := 200000000000) (n := 1000) (by omega) (by omega) (by omega) (by omega)
  have hXS0 : 0 ≤ X * T.side := Int.mul_nonneg hED0 hsd0
  obtain ⟨sd, hsd⟩ : ∃ x, x = T.side := ⟨_, rfl⟩
  have HSide := Lib.hid HT.out.c10
  rw [← hsd] at HSide hXS hXS0 hsd0 hsd1 hv
  have hX1 : X ≤ 200000000000 := by omega
  have hXS1 : X * sd ≤ 200000000000000 := by omega
  obtain ⟨E0, E1⟩ := hEr
  obtain ⟨D0, D1⟩ := hDr
  obtain ⟨sa1, sa2⟩ := sa1
  obtain ⟨sb1, sb2⟩ := sb1
  obtain ⟨sc1, sc2⟩ := sc1
  clear ha hb hc hE hS hD hX hsd HV hED hXS
  go_enter Tryz.func95, Tryz.ntmps95
  go_upto_region 1 with fail
  obtain ⟨w1, hw1⟩ : ∃ W, W = ((w.alloc (.cells cs 42)).alloc (.cells #[.int .i64 s.x, .int .i64 s.y, .int .i64 s.z, .int .i64 s.hx, .int .i64 s.hy, .int .i64 s.p] 46)).alloc (.cells #[.int .i64 r.x, .int .i64 r.y, .int .i64 r.z] 28) := ⟨_, rfl⟩
  rw [← hw1]
  have T1 : Hid (Blk w1 w.heap.size 42 cs) := by show Blk _ _ _ _; rw [hw1]; exact ((Blk.new _ _ _).alloc _).alloc _
  have S1 : Hid (Blk w1 (w.heap.size + 1) 46 #[.int .i64 s.x, .int .i64 s.y, .int .i64 s.z, .int .i64 s.hx, .int .i64 s.hy, .int .i64 s.p]) := by show Blk _ _ _ _; rw [hw1]; exact (Blk.at_size _ _ (by simp)).alloc _
  have R1 : Hid (Blk w1 (w.heap.size + 1 + 1) 28 #[.int .i64 r.x, .int .i64 r.y, .int .i64 r.z]) := by show Blk _ _ _ _; rw [hw1]; exact Blk.at_size _ _ (by simp)
  have HB1 : Hid (Below w.heap.size w w1) := by show Below _ _ _; rw [hw1]; exact (((Below.refl _ _).alloc (Nat.le_refl _) _).alloc (by simp) _).alloc (by simp; omega) _
  obtain ⟨g, hg⟩ : ∃ g, g = w.heap.size := ⟨_, rfl⟩
  rw [← hg] at T1 S1 R1 ⊢
  clear hw1 hg
  have r0 := R1.out.cell 0; have r1 := R1.out.cell 1; have r2 := R1.out.cell 2
  have s0 := S1.out.cell 0; have s1 := S1.out.cell 1; have s2 := S1.out.cell 2
  simp only [List.getElem?_toArray, List.getElem?_cons_zero, List.getElem?_cons_succ] at r0 r1 r2 s0 s1 s2
  go_wp2_with fail
  refine (hM.out w1).mono ?_
  rintro e w2 ⟨rfl, hb2⟩
  have T2 := Lib.hid (T1.out.below hb2)
  have S2 := Lib.hid (S1.out.below hb2)
  have HB2 := Lib.hid (HB1.out.trans (hb2.mono HB1.out.size))
  clear r0 r1 r2 s0 s1 s2 hb2 T1 S1 R1 HB1 hM
  go_upto_region 2 with fail
  obtain ⟨w3, hw3⟩ : ∃ W, W = w2.alloc (.cells #[.int .i64 a, .int .i64 b, .int .i64 c] 28) := ⟨_, rfl⟩
  rw [← hw3]
  have hb3 : Below w2.heap.size w2 w3 := by rw [hw3]; exact (Below.refl _ _).alloc (Nat.le_refl _) _
  have V3 : Hid (Blk w3 w2.heap.size 28 #[.int .i64 a, .int .i64 b, .int .i64 c]) := by show Blk _ _ _ _; rw [hw3]; exact Blk.new _ _ _
  have T3 := Lib.hid (T2.out.below hb3)
  have S3 := Lib.hid (S2.out.below hb3)
  have HB3 := Lib.hid (HB2.out.trans (hb3.mono HB2.out.size))
  obtain ⟨gv, hgv⟩ : ∃ g, g = w2.heap.size := ⟨_, rfl⟩
  rw [← hgv] at V3 ⊢
  clear hw3 hgv hb3 T2 S2 HB2
  have bw : ∀ d os, Below w3.heap.size w3 (grow (redrawn w3 d) os) := fun d os => below_regrown w3 d os
  have lT := fun d os => HT.out.lv (T3.out.below (bw d os))
  have v0 := fun d os => cell_regrown (V3.out.cell 0) d os
  have v1 := fun d os => cell_regrown (V3.out.cell 1) d os
  have v2 := fun d os => cell_regrown (V3.out.cell 2) d os
  have s3 := fun d os => cell_regrown (S3.out.cell 3) d os
  have s4 := fun d os => cell_regrown (S3.out.cell 4) d os
  have s5 := fun d os => cell_regrown (S3.out.cell 5) d os
  have td := fun d os => cell_regrown ((T3.out.cell (2 + S)).trans HDir.out) d os
  have cq := fun d os => Calls.regrown_of (hSq.out (grow (redrawn w3 d) os))
  have ce := fun d os => Calls.regrown_of (hEm.out (grow (redrawn w3 d) os) (HB3.out.trans ((bw d os).mono HB3.out.size)))
  have cf := fun d os => Calls.regrown_of (flat_any a b c (grow (redrawn w3 d) os))
  have cc := fun d os => Calls.regrown_of (hSc.out (grow (redrawn w3 d) os))
  have hXe' := hXe.out
  clear a1 b1 c1 x0 x1 y0 y1 z0 z1 hx0 hx1 hy0 hy1 p0 p1 rx0 rx1 ry0 ry1 rz0 rz1 E0 E1 D0 D1
  refine wp_region_quiet_below (by kernel_rfl) (by kernel_rfl) ?_
  refine quiet_load _ _ rfl (by rfl) _ _ rfl lT ?_
  iterate 3 (quiet_step (fail))
  quiet_step (exact cq _ _)
  quiet_step (exact ce _ _)
  iterate 3 (quiet_step (fail))
  quiet_step (exact cf _ _)
  quiet_step (exact cc _ _)
  have hS8i : (S : Int) < 8 := by omega
  repeat (quiet_step (fail))
  refine wpQuiet_nil ?_
  intro w4 hw'
  obtain ⟨⟨dq, osq⟩, hw''⟩ := hw'
  have hb4 := bw dq osq
  rw [← hw''] at hb4
  have T4 := Lib.hid (T3.out.below hb4)
  have V4 := Lib.hid (V3.out.below hb4)
  have HB4 := Lib.hid (HB3.out.trans (hb4.mono HB3.out.size))
  clear hw'' hb4 lT v0 v1 v2 s3 s4 s5 td cq ce cf cc bw T3 V3 S3 HB3 hXe' hSq hSc hEm HDir
  go_upto_region 3 with fail
  have v0 := fun d os => cell_regrown (V4.out.cell 0) d os
  have v1 := fun d os => cell_regrown (V4.out.cell 1) d os
  have v2 := fun d os => cell_regrown (V4.out.cell 2) d os
  have cl := fun d os => Calls.regrown_of (hLs.out (grow (redrawn w4 d) os))
  have ca := fun d os => Calls.regrown_of (ascending_any (a * a + b * b) (4 * c * c) (grow (redrawn w4 d) os))
  have bw : ∀ d os, Below w4.heap.size w4 (grow (redrawn w4 d) os) := fun d os => below_regrown w4 d os
  have hcc : 4 * c * c = 4 * (c * c) := by rw [Int.mul_assoc]
  have hcb1 : 0 ≤ 4 * c * c := by omega
  have hcb2 : 4 * c * c ≤ 1600000000 := by omega
  have c1 : -20000 ≤ c := by rw [← Int.not_lt]; intro h; have := Int.mul_self_le_mul_self (show (0:Int) ≤ 20001 by omega) (show 20001 ≤ -c by omega); rw [Int.neg_mul_neg] at this; omega
  have c2 : c ≤ 20000 := by rw [← Int.not_lt]; intro h; have := Int.mul_self_le_mul_self (show (0:Int) ≤ 20001 by omega) (show 20001 ≤ c by omega); omega
  have wr1 : IntKind.i64.wrap (4 * c) = 4 * c := IntWalk.i64_in _ (by omega)
  have wr2 : IntKind.i64.wrap (4 * c * c) = 4 * c * c := IntWalk.i64_in _ (by omega)
  clear hcc
  refine wp_region_quiet_below (by kernel_rfl) (by kernel_rfl) ?_
  quiet_step (fail)
  quiet_step (exact cl _ _)
  iterate 7 (quiet_step (fail))
  quiet_step (exact ca _ _)
  repeat (quiet_step (fail))
  refine wpQuiet_nil ?_
  intro w5 hw'
  obtain ⟨⟨dq5, osq5⟩, hw''⟩ := hw'
  have hb5 := bw dq5 osq5
  rw [← hw''] at hb5
  have T5 := Lib.hid (T4.out.below hb5)
  have HB5 := Lib.hid (HB4.out.trans (hb5.mono HB4.out.size))
  have t10 := (T5.out.cell 10).trans HSide.out
  clear hw'' hb5 v0 v1 v2 cl ca bw T4 V4 HB4
  by_cases hst : a * a + b * b ≤ 4 * c * c
  · have hd : decide (a * a + b * b ≤ 4 * c * c) = true := decide_eq_true hst
    rw [if_pos hst] at hv
    rw [hd]
    clear hst hd
    go_wp2
    go_ret
    exact ⟨ret_int hv.out.symm, HB5.out⟩
  · have hd : decide (a * a + b * b ≤ 4 * c * c) = false := decide_eq_false hst
    rw [if_neg hst] at hv
    rw [hd]
    clear hst hd
    go_wp2
    go_ret
    exact ⟨ret_int hv.out.symm, HB5.out⟩
end Go.Proofs.YtmafmebcgmegeaaGreatDoor

namespace Go.Proofs.YtmafmebcgmegeaaGreatDoor
open Go.RowKit Go.Sort
def lowTo (l : List Int) (j : Nat) : Int := (l.take j).foldl min (l.headD 0)
def highTo (l : List Int) (j : Nat) : Int := (l.take j).foldl max (l.headD 0)
theorem lowTo_succ {l : List Int} {j : Nat} (h : j < l.length) : lowTo l (j + 1) = min (lowTo l j) (l.getD j 0) := by
  unfold lowTo; rw [take_snocI l j h, List.foldl_append]; rfl
theorem highTo_succ {l : List Int} {j : Nat} (h : j < l.length) : highTo l (j + 1) = max (highTo l j) (l.getD j 0) := by
  unfold highTo; rw [take_snocI l j h, List.foldl_append]; rfl
theorem lowTo_all (l : List Int) : lowTo l l.length = Bell.dLow l := by unfold lowTo; rw [List.take_length]; rfl
theorem highTo_all (l : List Int) : highTo l l.length = Bell.dHigh l := by unfold highTo; rw [List.take_length]; rfl
theorem dir_index (d0 d1 d2 d3 d4 d5 d6 d7 : Int) {k : Nat} (hk : k < 8) (W : World) :
    (Instr.index 23 (.agg #[.int .i64 d0, .int .i64 d1, .int .i64 d2, .int .i64 d3, .int .i64 d4, .int .i64 d5, .int .i64 d6, .int .i64 d7]) (.int .i64 k)).run Tryz.prog W = .ok (.int .i64 ([d0, d1, d2, d3, d4, d5, d6, d7].getD k 0)) W := by
  match k, hk with
  | 0, _ => show _ = _; kernel_rfl
  | 1, _ => show _ = _; kernel_rfl
  | 2, _ => show _ = _; kernel_rfl
  | 3, _ => show _ = _; kernel_rfl
  | 4, _ => show _ = _; kernel_rfl
  | 5, _ => show _ = _; kernel_rfl
  | 6, _ => show _ = _; kernel_rfl
  | 7, _ => show _ = _; kernel_rfl
set_option maxHeartbeats 4000000 in
set_option maxRecDepth 100000 in
theorem directivities_any {cs : Array Value} {nm : ByteArray} {sh : List Int} {T : Bell.Ty} {sa : Option Addr} {sn sc qb qo qn qc gb go gn gc : Nat} (w : World) (hT : TyAt w cs nm sh T sa sn sc qb qo qn qc gb go gn gc) (hd : T.direct.length = 8) :
    Calls Tryz.prog 186 #[.agg cs] w fun e w' => e = .returned (.agg #[.int .i64 (Bell.dLow T.direct), .int .i64 (Bell.dHigh T.direct)]) ∧ Below w.heap.size w w' := by
  have HT := Lib.hid hT
  obtain ⟨d0, d1, d2, d3, d4, d5, d6, d7, he⟩ : ∃ d0 d1 d2 d3 d4 d5 d6 d7, T.direct = [d0, d1, d2, d3, d4, d5, d6, d7] := by
    match T.direct, hd with
    | [a0, a1, a2, a3, a4, a5, a6, a7], _ => exact ⟨_, _, _, _, _, _, _, _, rfl⟩
  have D := Lib.hid (fun i (hi : i < 8) => HT.out.dir (i := i) hi)
  rw [he] at D ⊢
  obtain ⟨l, hl⟩ : ∃ l, l = [d0, d1, d2, d3, d4, d5, d6, d7] := ⟨_, rfl⟩
  have HLen : Hid (l.length = 8) := by show _ = _; rw [hl]; rfl
  have HE := Lib.hid hl
  have H0 : Hid (l.headD 0 = d0) := by show _ = _; rw [hl]; rfl
  have HR1 : Hid (Bell.dLow [d0, d1, d2, d3, d4, d5, d6, d7] = lowTo l 8) := by show _ = _; rw [← hl, ← lowTo_all, HLen.out]
  have HR2 : Hid (Bell.dHigh [d0, d1, d2, d3, d4, d5, d6, d7] = highTo l 8) := by show _ = _; rw [← hl, ← highTo_all, HLen.out]
  rw [HR1.out, HR2.out]
  clear hT hd he hl HR1 HR2
  go_enter Tryz.func186, Tryz.ntmps186
  go_upto_region 1 with fail
  obtain ⟨w1, hw1⟩ : ∃ W, W = (w.alloc (.cells cs 42)).alloc (.cells #[.int .i64 0, .int .i64 0] 100) := ⟨_, rfl⟩
  rw [← hw1]
  have T1 : Hid (Blk w1 w.heap.size 42 cs) := by show Blk _ _ _ _; rw [hw1]; exact (Blk.new _ _ _).alloc _
  have R1 : Hid (Blk w1 (w.heap.size + 1) 100 #[.int .i64 0, .int .i64 0]) := by show Blk _ _ _ _; rw [hw1]; exact Blk.at_size _ _ (by simp)
  have HB1 : Hid (Below w.heap.size w w1) := by show Below _ _ _; rw [hw1]; exact ((Below.refl _ _).alloc (Nat.le_refl _) _).alloc (by simp) _
  obtain ⟨g, hg⟩ : ∃ g, g = w.heap.size := ⟨_, rfl⟩
  rw [← hg] at T1 R1 ⊢
  have HG := Lib.hid hg
  clear hw1 hg
  have t2 := (T1.out.cell 2).trans (D.out 0 (by omega))
  simp only [List.getD_cons_zero] at t2
  go_upto_region 2 with fail
  obtain ⟨w2, hw2⟩ : ∃ W, W = w1.alloc (.cells #[.int .i64 d0, .int .i64 d0] 100) := ⟨_, rfl⟩
  rw [← hw2]
  have hb2 : Below w1.heap.size w1 w2 := by rw [hw2]; exact (Below.refl _ _).alloc (Nat.le_refl _) _
  have X2 : Hid (Blk w2 w1.heap.size 100 #[.int .i64 d0, .int .i64 d0]) := by show Blk _ _ _ _; rw [hw2]; exact Blk.new _ _ _
  have T2 := Lib.hid (T1.out.below hb2)
  have R2 := Lib.hid (R1.out.below hb2)
  have HB2 := Lib.hid (HB1.out.trans (hb2.mono HB1.out.size))
  have hgx : Hid (g + 2 ≤ w1.heap.size) := by have := lt_of_block R1.out; show _ ≤ _; omega
  obtain ⟨gx, hgx2⟩ : ∃ g, g = w1.heap.size := ⟨_, rfl⟩
  rw [← hgx2] at X2 hgx ⊢
  clear hw2 hgx2 hb2 T1 R1 HB1 t2
  have t2 := (T2.out.cell 2).trans (D.out 0 (by omega))
  have t3 := (T2.out.cell 3).trans (D.out 1 (by omega))
  have t4 := (T2.out.cell 4).trans (D.out 2 (by omega))
  have t5 := (T2.out.cell 5).trans (D.out 3 (by omega))
  have t6 := (T2.out.cell 6).trans (D.out 4 (by omega))
  have t7 := (T2.out.cell 7).trans (D.out 5 (by omega))
  have t8 := (T2.out.cell 8).trans (D.out 6 (by omega))
  have t9 := (T2.out.cell 9).trans (D.out 7 (by omega))
  simp only [List.getD_cons_zero, List.getD_cons_succ] at t2 t3 t4 t5 t6 t7 t8 t9
  go_wp2
  clear t2 t3 t4 t5 t6 t7 t8 t9
  go_loopw [5, 15] (fun _ k wr => ∃ j : Nat, j ≤ 8 ∧ k = .int .i64 j ∧ Hid (Blk wr gx 100 #[.int .i64 (lowTo l j), .int .i64 (highTo l j)]) ∧ Hid (Blk wr (g + 1) 100 #[.int .i64 0, .int .i64 0]) ∧ Hid (Below w.heap.size w wr)) (fun _ k _ => 8 - (intOf k).toNat)
  case atStart =>
    refine ⟨0, Nat.zero_le _, rfl, ?_, R2, HB2⟩
    have e1 : lowTo l 0 = d0 := by unfold lowTo; exact H0.out
    have e2 : highTo l 0 = d0 := by unfold highTo; exact H0.out
    rw [e1, e2]; exact X2
  case round =>
    obtain ⟨j, hj, rfl, hx, hr, hb⟩ := hrel
    by_cases hlt : j < 8
    · have hlt' : (j : Int) < 8 := by omega
      have hi := fun W => dir_index d0 d1 d2 d3 d4 d5 d6 d7 hlt W
      have h0 := hx.out.cell 0
      have h1 := hx.out.cell 1
      have f0 := hx.out.frozen 0
      have f1 := hx.out.frozen 1
      simp only [List.getElem?_toArray, List.getElem?_cons_zero, List.getElem?_cons_succ] at h0 h1
      have e1 := Lib.hid (lowTo_succ (l := l) (j := j) (by rw [HLen.out]; exact hlt))
      have e2 := Lib.hid (highTo_succ (l := l) (j := j) (by rw [HLen.out]; exact hlt))
      rw [← HE.out] at hi
      obtain ⟨x, hxx⟩ : ∃ x, x = l.getD j 0 := ⟨_, rfl⟩
      obtain ⟨L, hL⟩ : ∃ x, x = lowTo l j := ⟨_, rfl⟩
      obtain ⟨H, hH⟩ : ∃ x, x = highTo l j := ⟨_, rfl⟩
      rw [← hxx] at hi e1 e2
      rw [← hL] at h0 e1 hx
      rw [← hH] at h1 e2 hx
      obtain ⟨L2, hL2⟩ : ∃ y, y = min L x := ⟨_, rfl⟩
      obtain ⟨H2, hH2⟩ : ∃ y, y = max H x := ⟨_, rfl⟩
      rw [← hL2] at e1
      rw [← hH2] at e2
      have r1 : ∀ ts t W, (Builtin.min_ ts t #[.int .i64 L, .int .i64 x]).run Tryz.prog W = .ok (.int .i64 L2) W := fun ts t W => by rw [hL2]; exact run_min2' _ _ _ _ _ _
      have r2 : ∀ ts t W, (Builtin.max_ ts t #[.int .i64 H, .int .i64 x]).run Tryz.prog W = .ok (.int .i64 H2) W := fun ts t W => by rw [hH2]; exact run_max2' _ _ _ _ _ _
      clear hxx hL hH hL2 hH2
      go_wp2
      go_roundw
      case rel =>
        refine ⟨j + 1, by omega, by go_num, ?_, ?_, ?_⟩
        · rw [e1.out, e2.out]
          exact (hx.out.set_ 0 (.int .i64 L2)).set_ 1 (.int .i64 H2)
        · exact (hr.out.far (p := ⟨gx, 0, none⟩) (by have := hgx.out; show g + 1 ≠ gx; omega) _).far (p := ⟨gx, 1, none⟩) (by have := hgx.out; show g + 1 ≠ gx; omega) _
        · exact (hb.out.setCell (p := ⟨gx, 0, none⟩) (by have := hgx.out; have := HG.out; show w.heap.size ≤ gx; omega) _).setCell (p := ⟨gx, 1, none⟩) (by have := hgx.out; have := HG.out; show w.heap.size ≤ gx; omega) _
      case measure => simp [intOf]; omega
    · obtain rfl : j = 8 := by omega
      have h0 := hx.out.cell 0
      have h1 := hx.out.cell 1
      simp only [List.getElem?_toArray, List.getElem?_cons_zero, List.getElem?_cons_succ] at h0 h1
      go_wp2_with (refine wpList_store_row rfl 100 _ _ rfl (g + 1) #[.int .i64 (lowTo l 8), .int .i64 (highTo l 8)] rfl rfl 100 _ hr.out (by kernel_rfl) rfl (by simp [Value.oneCell']) ?_)
      have hlv := (hr.out.setRow #[.int .i64 (lowTo l 8), .int .i64 (highTo l 8)]).lv Tryz.prog (T := 100) Tryz.underlying100 rfl (by kernel_rfl)
      refine bodyPost_ret (v := .agg #[.int .i64 (lowTo l 8), .int .i64 (highTo l 8)]) (by simp [results, Tryz.results186, asAddr]; exact hlv) rfl ?_
      exact ⟨rfl, hb.out.setRow' (by have := HG.out; omega) _⟩
end Go.Proofs.YtmafmebcgmegeaaGreatDoor
