/- Part. -/
import Derived.Test.YtmafmebcgmegeaaGreatDoorGz1
import Derived.Test.YtmafmebcgmegeaaGreatDoorGz8
namespace Go.Proofs.YtmafmebcgmegeaaGreatDoor
open Go.RowKit Go.Sort
theorem foldl_max_le {l : List Int} {a c : Int} (ha : a <= c) (h : ∀ x, x ∈ l -> x <= c) : l.foldl max a <= c := by
 induction l generalizing a with
 | nil => exact ha
 | cons b l ih => exact ih (by have := h b (by simp); omega) (fun x hx => h x (by simp [hx]))
theorem dLow_in {T : Bell.Ty} (g : Bell.GoodTy T) : 0 <= Bell.dLow T.direct /\ Bell.dLow T.direct <= 2000 := by
 have h0 := g.dir 0 (by omega)
 have hh : T.direct.headD 0 = T.direct.getD 0 0 := by
  have := g.dlen
  cases h : T.direct with
  | nil => rfl
  | cons a l => rfl
 have hm : ∀ x, x ∈ T.direct -> 0 <= x /\ x <= 2000 := fun x hx => by
  obtain ⟨i, hi, rfl⟩ := List.getElem_of_mem hx; have := g.dir i (by rw [<- g.dlen]; exact hi); rw [List.getD_eq_getElem?_getD, List.getElem?_eq_getElem hi, Option.getD_some] at this; exact this
 unfold Bell.dLow; rw [hh]; exact ⟨Bell.foldl_min_ge h0.1 (fun x hx => (hm x hx).1), Int.le_trans (Bell.foldl_min_le _ _).1 h0.2⟩
theorem dHigh_in {T : Bell.Ty} (g : Bell.GoodTy T) : 0 <= Bell.dHigh T.direct /\ Bell.dHigh T.direct <= 2000 := by
 have h0 := g.dir 0 (by omega)
 have hh : T.direct.headD 0 = T.direct.getD 0 0 := by
  have := g.dlen
  cases h : T.direct with
  | nil => rfl
  | cons a l => rfl
 have hm : ∀ x, x ∈ T.direct -> 0 <= x /\ x <= 2000 := fun x hx => by
  obtain ⟨i, hi, rfl⟩ := List.getElem_of_mem hx; have := g.dir i (by rw [<- g.dlen]; exact hi); rw [List.getD_eq_getElem?_getD, List.getElem?_eq_getElem hi, Option.getD_some] at this; exact this
 unfold Bell.dHigh; rw [hh]; exact ⟨Int.le_trans h0.1 (Bell.le_foldl_max _ _).1, foldl_max_le h0.2 (fun x hx => (hm x hx).2)⟩
theorem nearSq_200 {a b : Int} (h1 : -200000 <= a) (h2 : a <= 200000) (h3 : -200000 <= b) (h4 : b <= 200000) : 0 <= nearSq a b /\ nearSq a b <= 200000 * 200000 := by
 have h := near_in (lo := min a b) (hi := max a b) (m := 200000) (by omega) (by omega) (by omega) (by omega); exact sq_in h.1 h.2
theorem farSq_200 {a b : Int} (h1 : -200000 <= a) (h2 : a <= 200000) (h3 : -200000 <= b) (h4 : b <= 200000) : 0 <= farSq a b /\ farSq a b <= 200000 * 200000 := by
 have h := far_in (lo := min a b) (hi := max a b) (m := 200000) (by omega) (by omega) (by omega) (by omega); exact sq_in h.1 h.2
set_option maxHeartbeats 4000000 in
set_option maxRecDepth 100000 in
theorem enclosed_any {cs : Array Value} {nm : ByteArray} {sh : List Int} {T : Bell.Ty} {sa : Option Addr} {sn sc qb qo qn qc gb go gn gc : Nat} (A B : Bell.Fx) (r : Bell.Pl) (w : World) (hT : TyAt w cs nm sh T sa sn sc qb qo qn qc gb go gn gc) (hG : GoodT sh T) (hA : Bell.GoodFx A) (hB : Bell.GoodFx B) (hr : GoodPl r) (ht : A.t < B.t) (ht2 : B.t - A.t <= 1000) :
  Calls Tryz.prog 137 #[.agg cs, .agg (fxV A), .agg (fxV B), .agg (plV r)] w fun e w' => e = .returned (.agg #[.int .i64 (Bell.lowOf T A B r), .int .i64 (Bell.highOf T A B r)]) /\ Below w.heap.size w w' := by
 have HT := lh hT; have HG := lh hG; obtain ⟨at0, at1, ax0, ax1, ay0, ay1, az0, az1, ap0, ap1⟩ := hA; obtain ⟨bt0, bt1, bx0, bx1, by0, by1, bz0, bz1, bp0, bp1⟩ := hB; obtain ⟨⟨rx0, rx1⟩, ⟨ry0, ry1⟩, ⟨rz0, rz1⟩⟩ := hr; clear hT hG; have n1 := nearSq_200 (a := A.x - r.x) (b := B.x - r.x) (by omega) (by omega) (by omega) (by omega); have n2 := nearSq_200 (a := A.y - r.y) (b := B.y - r.y) (by omega) (by omega) (by omega) (by omega); have n3 := nearSq_200 (a := A.z - r.z) (b := B.z - r.z) (by omega) (by omega) (by omega) (by omega); have m1 := farSq_200 (a := A.x - r.x) (b := B.x - r.x) (by omega) (by omega) (by omega) (by omega); have m2 := farSq_200 (a := A.y - r.y) (b := B.y - r.y) (by omega) (by omega) (by omega) (by omega); have m3 := farSq_200 (a := A.z - r.z) (b := B.z - r.z) (by omega) (by omega) (by omega) (by omega); have HQ := lh (fun W => boxSquares_any A.x A.y A.z B.x B.y B.z r.x r.y r.z W (show Three _ _ _ _ by unfold Three; omega) (show Three _ _ _ _ by unfold Three; omega) (show Three _ _ _ _ by unfold Three; omega))
 obtain ⟨qn', hqn⟩ : ∃ q, q = nearSq (A.x - r.x) (B.x - r.x) + nearSq (A.y - r.y) (B.y - r.y) + nearSq (A.z - r.z) (B.z - r.z) := ⟨_, rfl⟩; obtain ⟨qf', hqf⟩ : ∃ q, q = farSq (A.x - r.x) (B.x - r.x) + farSq (A.y - r.y) (B.y - r.y) + farSq (A.z - r.z) (B.z - r.z) := ⟨_, rfl⟩; have hn' : 0 <= qn' /\ qn' <= 1000000000000 := by omega
 have hf' : 0 <= qf' /\ qf' <= 1000000000000 := by omega
 have en : Hid (Bell.sqNear A B r = qn') := by show _ = _; rw [hqn]; rfl
 have ef : Hid (Bell.sqFar A B r = qf') := by show _ = _; rw [hqf]; rfl
 rw [<- hqn, <- hqf] at HQ; clear n1 n2 n3 m1 m2 m3 hqn hqf ax0 ax1 ay0 ay1 az0 az1 bx0 bx1 by0 by1 bz0 bz1 rx0 rx1 ry0 ry1 rz0 rz1; obtain ⟨PL, hPL⟩ : ∃ p, p = min A.p B.p := ⟨_, rfl⟩; obtain ⟨PH, hPH⟩ : ∃ p, p = max A.p B.p := ⟨_, rfl⟩; have HE1 := lh (fun W (hb : Below w.heap.size w W) => emission_any PL qf' W (HT.out.keep hb) HG.out (by omega) hf'); have HE2 := lh (fun W (hb : Below w.heap.size w W) => emission_any PH qn' W (HT.out.keep hb) HG.out (by omega) hn'); have HD := lh (fun W (hb : Below w.heap.size w W) => directivities_any W (HT.out.keep hb) HG.out.dl); have q1 := Bell.emis_range HG.out.ty.sets (r := Bell.reachOf T.squares qf') (Bell.reach_lt HG.out.ty.sq) PL; have q2 := Bell.emis_range HG.out.ty.sets (r := Bell.reachOf T.squares qn') (Bell.reach_lt HG.out.ty.sq) PH; have dl := dLow_in HG.out.ty; have dh := dHigh_in HG.out.ty; have hl : Hid (Bell.lowOf T A B r = (B.t - A.t) * (Bell.emis T.sets (Bell.reachOf T.squares qf') PL * Bell.dLow T.direct * T.side / 1000000)) := by show _ = _; unfold Bell.lowOf Bell.leastOf; rw [ef.out, hPL]
 have hh : Hid (Bell.highOf T A B r = ((B.t - A.t) * (Bell.emis T.sets (Bell.reachOf T.squares qn') PH * Bell.dHigh T.direct) + 1000 - 1) / 1000) := by show _ = _; unfold Bell.highOf Bell.mostOf; rw [en.out, hPH]
 obtain ⟨E1, hE1⟩ : ∃ e, e = Bell.emis T.sets (Bell.reachOf T.squares qf') PL := ⟨_, rfl⟩; obtain ⟨E2, hE2⟩ : ∃ e, e = Bell.emis T.sets (Bell.reachOf T.squares qn') PH := ⟨_, rfl⟩; obtain ⟨DL, hDL⟩ : ∃ e, e = Bell.dLow T.direct := ⟨_, rfl⟩; obtain ⟨DH, hDH⟩ : ∃ e, e = Bell.dHigh T.direct := ⟨_, rfl⟩; obtain ⟨sd, hsd⟩ : ∃ e, e = T.side := ⟨_, rfl⟩; have s0 := HG.out.ty.side0; have s1 := HG.out.ty.side1; have HS := lh HT.out.c10; rw [<- hE1, <- hDL, <- hsd] at hl; rw [<- hE2, <- hDH] at hh; rw [<- hE1] at q1 HE1; rw [<- hE2] at q2 HE2; rw [<- hDL] at dl HD; rw [<- hDH] at dh HD; rw [<- hsd] at s0 s1 HS; clear hE1 hE2 hDL hDH hsd en ef hn' hf'; obtain ⟨tk, htk⟩ : ∃ t, B.t - A.t = t := ⟨_, rfl⟩; have k1 := mul_in (a := E1) (b := DL) (m := 100000000) (n := 2000) (by omega) (by omega) (by omega) (by omega); have k10 : 0 <= E1 * DL := Int.mul_nonneg q1.1 dl.1; have k2 := mul_in (a := E1 * DL) (b := sd) (m := 200000000000) (n := 1000) (by omega) (by omega) (by omega) (by omega)
 have k20 : 0 <= E1 * DL * sd := Int.mul_nonneg k10 s0; have k3 := mul_in (a := E2) (b := DH) (m := 100000000) (n := 2000) (by omega) (by omega) (by omega) (by omega); have k30 : 0 <= E2 * DH := Int.mul_nonneg q2.1 dh.1; obtain ⟨LE, hLE⟩ : ∃ x, x = E1 * DL * sd / 1000000 := ⟨_, rfl⟩; obtain ⟨MO, hMO⟩ : ∃ x, E2 * DH = x := ⟨_, rfl⟩; have l1 : 0 <= LE /\ LE <= 200000000 := by omega
 rw [htk, <- hLE] at hl; rw [htk, hMO] at hh; have k4 := mul_in (a := tk) (b := LE) (m := 1000) (n := 200000000) (by omega) (by omega) (by omega) (by omega); have k5 := mul_in (a := tk) (b := MO) (m := 1000) (n := 200000000000) (by omega) (by omega) (by omega) (by omega); have k50 : 0 <= tk * MO := Int.mul_nonneg (by omega) (by omega); have HLE := lh hLE; have HMO := lh hMO; have HTK := lh htk; obtain ⟨F1, hF1⟩ : ∃ x, x = tk * LE := ⟨_, rfl⟩; obtain ⟨F2, hF2⟩ : ∃ x, x = (tk * MO + 1000 - 1) / 1000 := ⟨_, rfl⟩; have hF : Hid (F1 = Bell.lowOf T A B r /\ F2 = Bell.highOf T A B r) := ⟨by rw [hF1, hl.out], by rw [hF2, hh.out]⟩; rw [<- hF.out.1, <- hF.out.2]; have HF1 := lh hF1; have HF2 := lh hF2; obtain ⟨k11, k12⟩ := k1; obtain ⟨k21, k22⟩ := k2; obtain ⟨k31, k32⟩ := k3; obtain ⟨k41, k42⟩ := k4; obtain ⟨k51, k52⟩ := k5; have rmin : ∀ ts t W, (Builtin.min_ ts t #[.int .i64 A.p, .int .i64 B.p]).run Tryz.prog W = .ok (.int .i64 PL) W := fun ts t W => by rw [hPL]; exact run_min2' _ _ _ _ _ _
 have rmax : ∀ ts t W, (Builtin.max_ ts t #[.int .i64 A.p, .int .i64 B.p]).run Tryz.prog W = .ok (.int .i64 PH) W := fun ts t W => by rw [hPH]; exact run_max2' _ _ _ _ _ _
 clear hLE hMO hF1 hF2 hl hh hPL hPH; unfold fxV plV
 go_enter Tryz.func137, Tryz.ntmps137
 go_upto_region 1 with fail
 obtain ⟨w1, hw1⟩ : ∃ W, W = ((((w.alloc (.cells cs 42)).alloc (.cells #[.int .i64 A.t, .int .i64 A.x, .int .i64 A.y, .int .i64 A.z, .int .i64 A.p] 152)).alloc (.cells #[.int .i64 B.t, .int .i64 B.x, .int .i64 B.y, .int .i64 B.z, .int .i64 B.p] 152)).alloc (.cells #[.int .i64 r.x, .int .i64 r.y, .int .i64 r.z] 28)).alloc (.cells #[.int .i64 0, .int .i64 0] 100) := ⟨_, rfl⟩; rw [<- hw1]; have T1 : Hid (Blk w1 w.heap.size 42 cs) := by show Blk _ _ _ _; rw [hw1]; exact ((((Blk.new _ _ _).alloc _).alloc _).alloc _).alloc _
 have A1 : Hid (Blk w1 (w.heap.size + 1) 152 #[.int .i64 A.t, .int .i64 A.x, .int .i64 A.y, .int .i64 A.z, .int .i64 A.p]) := by show Blk _ _ _ _; rw [hw1]; exact (((Blk.at_size _ _ (by simp)).alloc _).alloc _).alloc _
 have B1 : Hid (Blk w1 (w.heap.size + 1 + 1) 152 #[.int .i64 B.t, .int .i64 B.x, .int .i64 B.y, .int .i64 B.z, .int .i64 B.p]) := by show Blk _ _ _ _; rw [hw1]; exact ((Blk.at_size _ _ (by simp)).alloc _).alloc _
 have R1 : Hid (Blk w1 (w.heap.size + 1 + 1 + 1) 28 #[.int .i64 r.x, .int .i64 r.y, .int .i64 r.z]) := by show Blk _ _ _ _; rw [hw1]; exact (Blk.at_size _ _ (by simp)).alloc _
 have Z1 : Hid (Blk w1 (w.heap.size + 1 + 1 + 1 + 1) 100 #[.int .i64 0, .int .i64 0]) := by show Blk _ _ _ _; rw [hw1]; exact Blk.at_size _ _ (by simp)
 have HB1 : Hid (Below w.heap.size w w1) := by show Below _ _ _; rw [hw1]; exact (((((Below.refl _ _).alloc (Nat.le_refl _) _).alloc (by simp) _).alloc (by simp; omega) _).alloc (by simp; omega) _).alloc (by simp; omega) _
 obtain ⟨g, hg⟩ : ∃ g, g = w.heap.size := ⟨_, rfl⟩; rw [<- hg] at T1 A1 B1 R1 Z1 ⊢; have HGs := lh hg; clear hw1 hg; have ca := A1.out; have cb := B1.out; have cr := R1.out; have ac0 := ca.cell 0; have af0 := ca.frozen 0; have ac1 := ca.cell 1; have af1 := ca.frozen 1; have ac2 := ca.cell 2; have af2 := ca.frozen 2; have ac3 := ca.cell 3; have af3 := ca.frozen 3; have ac4 := ca.cell 4; have af4 := ca.frozen 4; simp only [List.getElem?_toArray, List.getElem?_cons_zero, List.getElem?_cons_succ] at ac0 ac1 ac2 ac3 ac4; clear ca; have bc0 := cb.cell 0; have bf0 := cb.frozen 0; have bc1 := cb.cell 1; have bf1 := cb.frozen 1; have bc2 := cb.cell 2; have bf2 := cb.frozen 2; have bc3 := cb.cell 3; have bf3 := cb.frozen 3; have bc4 := cb.cell 4; have bf4 := cb.frozen 4; simp only [List.getElem?_toArray, List.getElem?_cons_zero, List.getElem?_cons_succ] at bc0 bc1 bc2 bc3 bc4; clear cb; have rc0 := cr.cell 0; have rf0 := cr.frozen 0; have rc1 := cr.cell 1; have rf1 := cr.frozen 1; have rc2 := cr.cell 2; have rf2 := cr.frozen 2
 simp only [List.getElem?_toArray, List.getElem?_cons_zero, List.getElem?_cons_succ] at rc0 rc1 rc2; clear cr; have htk' := HTK.out
 go_wp2_with fail
 clear htk'; refine (HQ.out w1).mono ?_; rintro e w2 ⟨rfl, hb2⟩; have T2 := lh (T1.out.below hb2); have A2 := lh (A1.out.below hb2); have B2 := lh (B1.out.below hb2); have Z2 := lh (Z1.out.below hb2); have HB2 := lh (HB1.out.trans (hb2.mono HB1.out.size)); clear hb2 T1 A1 B1 R1 Z1 HB1 ac0 ac1 ac2 ac3 ac4 bc0 bc1 bc2 bc3 bc4 rc0 rc1 rc2 af0 af1 af2 af3 af4 bf0 bf1 bf2 bf3 bf4 rf0 rf1 rf2 HQ
 go_upto_region 3 with fail
 obtain ⟨w3, hw3⟩ : ∃ W, W = w2.alloc (.cells #[.int .i64 qn', .int .i64 qf'] 253) := ⟨_, rfl⟩; rw [<- hw3]; have hb3 : Below w2.heap.size w2 w3 := by rw [hw3]; exact (Below.refl _ _).alloc (Nat.le_refl _) _
 have Q3 : Hid (Blk w3 w2.heap.size 253 #[.int .i64 qn', .int .i64 qf']) := by show Blk _ _ _ _; rw [hw3]; exact Blk.new _ _ _
 have T3 := lh (T2.out.below hb3); have A3 := lh (A2.out.below hb3); have B3 := lh (B2.out.below hb3); have Z3 := lh (Z2.out.below hb3); have HB3 := lh (HB2.out.trans (hb3.mono HB2.out.size)); obtain ⟨gq, hgq⟩ : ∃ g, g = w2.heap.size := ⟨_, rfl⟩; rw [<- hgq] at Q3 ⊢; clear hw3 hgq hb3 T2 A2 B2 Z2 HB2; have IT := lh HT.out.info
 go_wp2_with (refine wpList_load_row rfl 42 _ rfl g rfl 42 cs (0, 0) _ T3.out Tryz.underlying42 rfl IT.out ?_)
 refine (HD.out w3 HB3.out).mono ?_; rintro e w4 ⟨rfl, hb4⟩; have T4 := lh (T3.out.below hb4); have A4 := lh (A3.out.below hb4); have B4 := lh (B3.out.below hb4); have Z4 := lh (Z3.out.below hb4); have Q4 := lh (Q3.out.below hb4); have HB4 := lh (HB3.out.trans (hb4.mono HB3.out.size)); clear hb4 T3 A3 B3 Z3 Q3 HB3 HD
 go_upto_region 4 with fail
 obtain ⟨w5, hw5⟩ : ∃ W, W = w4.alloc (.cells #[.int .i64 DL, .int .i64 DH] 100) := ⟨_, rfl⟩; rw [<- hw5]; have hb5 : Below w4.heap.size w4 w5 := by rw [hw5]; exact (Below.refl _ _).alloc (Nat.le_refl _) _
 have D5 : Hid (Blk w5 w4.heap.size 100 #[.int .i64 DL, .int .i64 DH]) := by show Blk _ _ _ _; rw [hw5]; exact Blk.new _ _ _
 have T5 := lh (T4.out.below hb5); have A5 := lh (A4.out.below hb5); have B5 := lh (B4.out.below hb5); have Z5 := lh (Z4.out.below hb5); have Q5 := lh (Q4.out.below hb5); have HB5 := lh (HB4.out.trans (hb5.mono HB4.out.size)); obtain ⟨gd, hgd⟩ : ∃ g, g = w4.heap.size := ⟨_, rfl⟩; rw [<- hgd] at D5 ⊢; clear hw5 hgd hb5 T4 A4 B4 Z4 Q4 HB4; have bw : ∀ d os, Below w5.heap.size w5 (grow (redrawn w5 d) os) := fun d os => below_regrown w5 d os
 have lT := fun d os => HT.out.lv (T5.out.below (bw d os))
 have xa := fun d os => cell_regrown (A5.out.cell 4) d os
 have xb := fun d os => cell_regrown (B5.out.cell 4) d os
 have xq := fun d os => cell_regrown (Q5.out.cell 1) d os
 have xd := fun d os => cell_regrown (D5.out.cell 0) d os
 have xs := fun d os => cell_regrown ((T5.out.cell 10).trans HS.out) d os
 have ce := fun d os => Calls.regrown_of (HE1.out (grow (redrawn w5 d) os) (HB5.out.trans ((bw d os).mono HB5.out.size)))
 have wr1 : IntKind.i64.wrap (E1 * DL) = E1 * DL := IntWalk.i64_in _ (by omega); have wr2 : IntKind.i64.wrap (E1 * DL * sd) = E1 * DL * sd := IntWalk.i64_in _ (by omega); have wr3 : IntKind.i64.wrap ((E1 * DL * sd).tdiv 1000000) = LE := by rw [Int.tdiv_eq_ediv_of_nonneg k20, <- HLE.out]; exact IntWalk.i64_in _ (by omega)
 refine wp_region_quiet_below (by kernel_rfl) (by kernel_rfl) ?_; refine quiet_load _ _ rfl (by rfl) _ _ rfl lT ?_
 iterate 7 (quiet_step (fail))
 quiet_step (exact ce _ _)
 repeat (quiet_step (fail))
 refine wpQuiet_nil ?_; intro w6 hw'; obtain ⟨⟨dq, osq⟩, hw''⟩ := hw'; have hb6 := bw dq osq; rw [<- hw''] at hb6; have T6 := lh (T5.out.below hb6); have A6 := lh (A5.out.below hb6); have B6 := lh (B5.out.below hb6); have Z6 := lh (Z5.out.below hb6); have Q6 := lh (Q5.out.below hb6); have D6 := lh (D5.out.below hb6); have HB6 := lh (HB5.out.trans (hb6.mono HB5.out.size)); clear hw'' hb6 lT xa xb xq xd xs ce bw T5 A5 B5 Z5 Q5 D5 HB5 wr1 wr2 wr3 k11 k12 k10 k21 k22 k20 HE1 HS
 go_upto_region 5 with fail
 have bw : ∀ d os, Below w6.heap.size w6 (grow (redrawn w6 d) os) := fun d os => below_regrown w6 d os
 have lT := fun d os => HT.out.lv (T6.out.below (bw d os))
 have xa := fun d os => cell_regrown (A6.out.cell 4) d os
 have xb := fun d os => cell_regrown (B6.out.cell 4) d os
 have xq := fun d os => cell_regrown (Q6.out.cell 0) d os
 have xd := fun d os => cell_regrown (D6.out.cell 1) d os
 have ce := fun d os => Calls.regrown_of (HE2.out (grow (redrawn w6 d) os) (HB6.out.trans ((bw d os).mono HB6.out.size)))
 have hmo' := HMO.out; have wr1 : IntKind.i64.wrap MO = MO := IntWalk.i64_in _ (by omega); refine wp_region_quiet_below (by kernel_rfl) (by kernel_rfl) ?_; refine quiet_load _ _ rfl (by rfl) _ _ rfl lT ?_
 iterate 7 (quiet_step (fail))
 quiet_step (exact ce _ _)
 repeat (quiet_step (fail))
 refine wpQuiet_nil ?_; intro w7 hw'; obtain ⟨⟨dq7, osq7⟩, hw''⟩ := hw'; have hb7 := bw dq7 osq7; rw [<- hw''] at hb7; have Z7 := lh (Z6.out.below hb7); have HB7 := lh (HB6.out.trans (hb7.mono HB6.out.size)); clear hw'' hb7 lT xa xb xq xd ce bw T6 A6 B6 Z6 Q6 D6 HB6 wr1 hmo' HE2 rmin rmax; have z := Z7.out; have zc0 := z.cell 0; have zf0 := z.frozen 0; have zc1 := z.cell 1; have zf1 := z.frozen 1; simp only [List.getElem?_toArray, List.getElem?_cons_zero, List.getElem?_cons_succ] at zc0 zc1; clear z; go_wp2; have hlv := ((Z7.out.set_ 0 (.int .i64 (tk * LE))).set_ 1 (.int .i64 ((tk * MO + 1000 - 1) / 1000))).lv Tryz.prog (T := 100) Tryz.underlying100 rfl (by kernel_rfl); refine bodyPost_ret (v := .agg #[.int .i64 (tk * LE), .int .i64 ((tk * MO + 1000 - 1) / 1000)]) (by simp [results, Tryz.results137, asAddr]; exact hlv) rfl ?_; exact ⟨by rw [HF1.out, HF2.out], (HB7.out.setCell (p := ⟨g + 1 + 1 + 1 + 1, 0, none⟩) (by have := HGs.out; show w.heap.size <= g + 1 + 1 + 1 + 1; omega) _).setCell (p := ⟨g + 1 + 1 + 1 + 1, 1, none⟩) (by have := HGs.out; show w.heap.size <= g + 1 + 1 + 1 + 1; omega) _⟩
theorem srcName_ok (s : ByteArray) (w : World) (hs : s.size <= 140737488351232) (hn : nameB s = true) :
  Calls Tryz.prog 108 #[.string s] w fun e w' => e = .returned (.int .i64 0) /\ Below w.heap.size w w' := by
 have HN := lh hn; clear hn
 go_enter Tryz.func108, Tryz.ntmps108
 go_wp2_with fail
 refine (isName_any s w hs).mono ?_; rw [HN.out]; rintro e w1 ⟨rfl, hb⟩; have HB := lh hb; clear hb; go_wp2; go_ret; exact ⟨rfl, HB.out⟩
theorem countInt_ok (A : Option Addr) (n c : Nat) (limit : Int) (w : World) (h0 : 0 < n) (h1 : (n : Int) <= limit) :
  Calls Tryz.prog 172 #[.slice A n c, .int .i64 limit] w fun e w' => e = .returned (.int .i64 0) /\ w' = w := by
 have h2 : ((n : Int) == 0) = false := by simp; omega
 have h3 : Hid (atMostE n limit = 0) := by show _ = _; unfold atMostE; rw [if_neg (by omega)]
 clear h0 h1
 go_enter Tryz.func172, Tryz.ntmps172
 go_wp2_with fail
 refine (atMost_int A n c limit w).mono ?_; rw [h3.out]; rintro e w' ⟨rfl, rfl⟩; go_wp2; go_ret; exact ⟨rfl, rfl⟩
theorem atMostSets_ok (A : Option Addr) (n c : Nat) (limit : Int) (w : World) (h : (n : Int) <= limit) :
  Calls Tryz.prog 173 #[.slice A n c, .int .i64 limit] w fun e w' => e = .returned (.int .i64 0) /\ w' = w := by
 have h2 : ¬ limit < (n : Int) := by omega
 clear h
 go_enter Tryz.func173, Tryz.ntmps173
 go_wp2
 go_ret
 exact ⟨rfl, rfl⟩
theorem countSets_ok (A : Option Addr) (n c : Nat) (limit : Int) (w : World) (h0 : 0 < n) (h1 : (n : Int) <= limit) :
  Calls Tryz.prog 114 #[.slice A n c, .int .i64 limit] w fun e w' => e = .returned (.int .i64 0) /\ w' = w := by
 have h2 : ((n : Int) == 0) = false := by simp; omega
 have H1 := lh h1; clear h0 h1
 go_enter Tryz.func114, Tryz.ntmps114
 go_wp2_with fail
 refine (atMostSets_ok A n c limit w H1.out).mono ?_; rintro e w' ⟨rfl, rfl⟩; go_wp2; go_ret; exact ⟨rfl, rfl⟩
theorem firstIn_ok (F : FuncId) (lo hi : Int) (A : Option Addr) (n c : Nat) (zs : List Int) (w : World) (hn : n <= 140737488351232)
  (hE : ∀ (args : Array Value) (W : World), (callFunc F args).run Tryz.prog W = .ok (.enter F args) W)
  (hF : ∀ (x : Int) (W : World), Calls Tryz.prog F #[.int .i64 x] W fun e w' => e = .returned (.int .i64 (withinE x lo hi)) /\ w' = W)
  (hz : IntsAt w A n zs) (hv : ∀ x, x ∈ zs -> lo <= x /\ x <= hi) :
  Calls Tryz.prog 110 #[.slice A n c, .func (.func F) #[] #[]] w fun e w' => e = .returned (.int .i64 0) /\ w' = w := by
 have h0 : firstInE (fun x => withinE x lo hi) zs = 0 := firstInE_miss _ _ (fun i hi' => by
  have := hv (zs.getD i 0) (Bell.getD_mem hi'); exact withinE_in this.1 this.2)
 refine (firstIn_int F (fun x => withinE x lo hi) A n c zs w hn hE (fun x W => (hF x W).mono (fun _ _ h => ⟨h.1, h.2.symm⟩)) hz).mono ?_; rw [h0]; exact fun _ _ h => ⟨h.1, h.2.symm⟩
theorem sumL_sum (l : List Int) : sumL l = l.sum := by
 induction l with
 | nil => rfl
 | cons a l ih => simp [sumL, ih]
structure GoodSh (l : List Int) : Prop where
 cnt : 0 < l.length /\ l.length <= 8
 rng : ∀ x, x ∈ l -> 0 <= x /\ x <= 1000
 sum : sumL l = 1000
theorem goodSh_of {l : List Int} (h : Bell.shE l = 0) : GoodSh l := by
 unfold Bell.shE at h; rw [Bell.thenE_zero, Bell.firstE_zero] at h; obtain ⟨h1, h2⟩ := h; refine ⟨Bell.cntE_zero.1 (h1 (Bell.cntE l.length 8) (by simp)), fun x hx => Bell.inR_zero.1 (Bell.eachE_zero.1 (h1 (Bell.eachE (fun n => Bell.inR n 0 1000) l) (by simp)) x hx), ?_⟩; rw [sumL_sum]
 split at h2
 ·assumption
 ·omega
theorem GoodT.sh {sh : List Int} {T : Bell.Ty} (h : GoodT sh T) : GoodSh sh := by
 have h1 := h.ok; unfold Bell.tyE at h1; rw [Bell.thenE_zero, Bell.firstE_zero] at h1; exact goodSh_of (h1.1 (Bell.shE sh) (by simp))
theorem GoodT.sqr {sh : List Int} {T : Bell.Ty} (h : GoodT sh T) : ∀ x, x ∈ T.squares -> 0 <= x /\ x <= 100000000000 := by
 have h1 := h.ok; unfold Bell.tyE at h1; rw [Bell.thenE_zero, Bell.firstE_zero] at h1; have h2 := h1.1 (Bell.sqE T.squares) (by simp); unfold Bell.sqE at h2; rw [Bell.thenE_zero, Bell.firstE_zero] at h2; exact fun x hx => Bell.inR_zero.1 (Bell.eachE_zero.1 (h2.1 (Bell.eachE (fun n => Bell.inR n 0 100000000000) T.squares) (by simp)) x hx)
set_option maxHeartbeats 1000000 in
set_option maxRecDepth 100000 in
theorem checkShares_ok (A : Option Addr) (n c : Nat) (l : List Int) (w : World) (hl : IntsAt w A n l) (hg : GoodSh l) :
  Calls Tryz.prog 109 #[.slice A n c] w fun e w' => e = .returned (.int .i64 0) /\ Below w.heap.size w w' := by
 have HL := lh hl; have hn := hl.1; have n1 : 0 < n := by have := hg.cnt; omega
 have n2 : n <= 8 := by have := hg.cnt; omega
 have HG := lh hg; have HN := lh hn; obtain ⟨b, off, rfl, hc⟩ := hl.2 n1; have HC := lh hc; clear hl hg hn hc
 go_enter Tryz.func109, Tryz.ntmps109
 go_wp2_with fail
 refine (countInt_ok (some ⟨b, off, none⟩) n c 8 w n1 (by omega)).mono ?_; rintro e w' ⟨rfl, rfl⟩
 go_wp2_with fail
 refine (firstIn_ok 112 0 1000 (some ⟨b, off, none⟩) n c l w' (by omega) enters_srcFactor srcFactor_st HL.out HG.out.rng).mono ?_; rintro e w2 ⟨rfl, rfl⟩
 go_wp2_with fail
 refine (first2 _ _ 0 0 _ (by go_simp) (by go_simp)).mono ?_; rw [show firstE [0, 0] = 0 from rfl]; rintro e w3 ⟨rfl, rfl⟩; obtain ⟨w4, hw4⟩ : ∃ W, W = w2.alloc (.cells #[.int .i64 0, .int .i64 0] 37) := ⟨_, rfl⟩; rw [<- hw4]; have hb : Below w2.heap.size w2 w4 := by rw [hw4]; exact (Below.refl _ _).alloc (Nat.le_refl _) _
 have HC4 : Hid (∀ i, i < n -> w4.cell? ⟨b, off + i, none⟩ = some (.int .i64 (l.getD i 0))) := fun i hi => by
  rw [hb.cell (p := ⟨b, off + i, none⟩) (World.block_lt_of_cell? _ _ (HC.out i hi))]; exact HC.out i hi
 have HB := lh hb; clear hw4 hb; go_wp2
 go_loop [4, 6, 18] (fun s _ k => ∃ j : Nat, j <= n /\ k = .int .i64 j /\ s = .int .i64 (1000 - sumL (l.take j))) (fun _ _ k => n - (intOf k).toNat)
 case atStart => exact ⟨0, Nat.zero_le _, rfl, rfl⟩
 case round =>
  obtain ⟨j, hj, rfl, rfl⟩ := hrel; have hv : ∀ i, i < l.length -> 0 <= l.getD i 0 /\ l.getD i 0 <= 100000000000000 := fun i hi => by have := HG.out.rng _ (Bell.getD_mem hi); omega
  by_cases hlt : j < n
  ·have h0 := HC4.out j hlt; have b1 := sumL_bd l hv j (by rw [HN.out]; omega); have b2 := sumL_mono l (fun i hi => (hv i hi).1) j (by rw [HN.out]; omega); have b3 := sumL_mono l (fun i hi => (hv i hi).1) (j + 1) (by rw [HN.out]; omega); have HS := lh (sumL_succ l j (by rw [HN.out]; exact hlt)); have b4 := (hv j (by rw [HN.out]; exact hlt)).1; rw [HG.out.sum] at b2 b3; rw [HS.out] at b3; obtain ⟨x, hx⟩ : ∃ x, x = l.getD j 0 := ⟨_, rfl⟩; obtain ⟨s, hs⟩ : ∃ s, s = sumL (l.take j) := ⟨_, rfl⟩; rw [<- hx] at h0 b3 b4 HS; rw [<- hs] at b1 b2 b3 HS ⊢; obtain ⟨b1, _⟩ := b1; clear hx hs hv; go_wp2
   go_round
   case rel => exact ⟨j + 1, by omega, by go_num, by rw [HS.out]; go_num⟩
   case measure => simp [intOf]; omega
  ·have hs : Hid (1000 - sumL (l.take j) = 0) := by
    show _ = _
    rw [show l.take j = l by rw [List.take_of_length_le (by rw [HN.out]; omega)], HG.out.sum]; rfl
   rw [hs.out]; clear hv; go_wp2; go_ret; exact ⟨rfl, HB.out⟩
set_option maxHeartbeats 1000000 in
set_option maxRecDepth 100000 in
theorem checkSquares_ok (b off n c : Nat) (l : List Int) (w : World) (hl : IntsAt w (some ⟨b, off, none⟩) n l) (hg : Bell.GoodSq l) (hr : ∀ x, x ∈ l -> 0 <= x /\ x <= 100000000000) (h8 : n <= 8) (hcap : n <= c) (hc2 : c <= 9223372036854775807) :
  Calls Tryz.prog 113 #[.slice (some ⟨b, off, none⟩) n c] w fun e w' => e = .returned (.int .i64 0) /\ Below w.heap.size w w' := by
 have HL := lh hl; have hn := hl.1; have n1 : 0 < n := by have := hg.some; omega
 have HG := lh hg; have HN := lh hn; have HR := lh hr
 have hc : ∀ i, i < n -> w.cell? ⟨b, off + i, none⟩ = some (.int .i64 (l.getD i 0)) := fun i hi => by
  obtain ⟨b', off', he, hc⟩ := hl.2 n1; have he := Option.some.inj he
  injection he with e1 e2
  subst e1; subst e2; exact hc i hi
 have HC := lh hc; clear hl hg hn hc hr; obtain ⟨m, rfl⟩ : ∃ m, n = m + 1 := ⟨n - 1, by omega⟩
 have hsl : ∀ W, (Instr.slice 22 (.slice (some ⟨b, off, none⟩) (m + 1) c) (some (.int .i64 1)) none none).run Tryz.prog W = .ok (.slice (some ⟨b, if c = 1 then off else off + 1, none⟩) m (c - 1)) W := fun W => by
  rw [run_slice_l W _ _ _ _ (by kernel_rfl) .i64 _ (by omega) (by omega), show Tryz.prog.elem 22 = 3 by kernel_rfl, show (Go.sizeOf 3).run Tryz.prog W = .ok 1 W by kernel_rfl]; simp only [Result.andThen, sliced, Int.toNat_one, Option.map_some, Addr.add, Nat.mul_one]
  by_cases h1 : c = 1
  ·subst h1; simp
  ·simp [h1]
 obtain ⟨of2, hof⟩ : ∃ o, o = (if c = 1 then off else off + 1) := ⟨_, rfl⟩; have HOF : Hid (0 < m -> of2 = off + 1) := fun h => by rw [hof, if_neg (by omega)]
 rw [<- hof] at hsl; clear hof
 go_enter Tryz.func113, Tryz.ntmps113
 go_wp2_with fail
 refine (countInt_ok (some ⟨b, off, none⟩) (m + 1) c 8 w (by omega) (by omega)).mono ?_; rintro e w' ⟨rfl, rfl⟩
 go_wp2_with fail
 refine (firstIn_ok 89 0 100000000000 (some ⟨b, off, none⟩) (m + 1) c l w' (by omega) enters_srcSquare srcSquare_st HL.out HR.out).mono ?_; rintro e w2 ⟨rfl, rfl⟩
 go_wp2_with fail
 refine (first2 _ _ 0 0 _ (by go_simp) (by go_simp)).mono ?_; rw [show firstE [0, 0] = 0 from rfl]; rintro e w3 ⟨rfl, rfl⟩; obtain ⟨w4, hw4⟩ : ∃ W, W = w2.alloc (.cells #[.int .i64 0, .int .i64 0] 37) := ⟨_, rfl⟩; rw [<- hw4]; have hb : Below w2.heap.size w2 w4 := by rw [hw4]; exact (Below.refl _ _).alloc (Nat.le_refl _) _
 have HC4 : Hid (∀ i, i < m + 1 -> w4.cell? ⟨b, off + i, none⟩ = some (.int .i64 (l.getD i 0))) := fun i hi => by
  rw [hb.cell (p := ⟨b, off + i, none⟩) (World.block_lt_of_cell? _ _ (HC.out i hi))]; exact HC.out i hi
 have HB := lh hb; clear hw4 hb; have h0 := HC4.out 0 (by omega); rw [HG.out.zero, Nat.add_zero] at h0; go_wp2; clear h0
 go_loop [4, 5, 22] (fun _ _ k => ∃ j : Nat, j <= m /\ k = .int .i64 j) (fun _ _ k => m - (intOf k).toNat)
 case atStart => exact ⟨0, Nat.zero_le _, rfl⟩
 case round =>
  obtain ⟨j, hj, rfl⟩ := hrel
  by_cases hlt : j < m
  ·have h0 := HC4.out j (by omega); have h1 := HC4.out (j + 1) (by omega); have ho := HOF.out (by omega); rw [show off + (j + 1) = of2 + j by omega] at h1; have hup := HG.out.up j (j + 1) (by omega) (by rw [HN.out]; omega); obtain ⟨x, hx⟩ : ∃ x, x = l.getD j 0 := ⟨_, rfl⟩; obtain ⟨y, hy⟩ : ∃ y, y = l.getD (j + 1) 0 := ⟨_, rfl⟩; rw [<- hx] at h0 hup; rw [<- hy] at h1 hup; clear hx hy ho; go_wp2
   go_round
   case rel => exact ⟨j + 1, by omega, by go_num⟩
   case measure => simp [intOf]; omega
  ·obtain rfl : j = m := by omega
   go_wp2
   go_ret
   exact ⟨rfl, HB.out⟩
end Go.Proofs.YtmafmebcgmegeaaGreatDoor
