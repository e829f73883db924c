/- Texts Ie If of the proof. -/
import Derived.Test.YtmafmebcgmegeaaGreatDoorFz8
namespace Go.Proofs.YtmafmebcgmegeaaGreatDoor
open Go.RowKit Go.Sort
def lowTo (l : List Int) (j : Nat) : Int := (l.take j).foldl min (l.headD 0)
def highTo (l : List Int) (j : Nat) : Int := (l.take j).foldl max (l.headD 0)
theorem lowTo_succ {l : List Int} {j : Nat} (h : j < l.length) : lowTo l (j + 1) = min (lowTo l j) (l.getD j 0) := by
  unfold lowTo; rw [take_snocI l j h, List.foldl_append]; rfl
theorem highTo_succ {l : List Int} {j : Nat} (h : j < l.length) : highTo l (j + 1) = max (highTo l j) (l.getD j 0) := by
  unfold highTo; rw [take_snocI l j h, List.foldl_append]; rfl
theorem lowTo_all (l : List Int) : lowTo l l.length = Bell.dLow l := by unfold lowTo; rw [List.take_length]; rfl
theorem highTo_all (l : List Int) : highTo l l.length = Bell.dHigh l := by unfold highTo; rw [List.take_length]; rfl
theorem dir_index (d0 d1 d2 d3 d4 d5 d6 d7 : Int) {k : Nat} (hk : k < 8) (W : World) :
    (Instr.index 23 (.agg #[.int .i64 d0, .int .i64 d1, .int .i64 d2, .int .i64 d3, .int .i64 d4, .int .i64 d5, .int .i64 d6, .int .i64 d7]) (.int .i64 k)).run Tryz.prog W = .ok (.int .i64 ([d0, d1, d2, d3, d4, d5, d6, d7].getD k 0)) W := by
  match k, hk with
  | 0, _ => show _ = _; kernel_rfl
  | 1, _ => show _ = _; kernel_rfl
  | 2, _ => show _ = _; kernel_rfl
  | 3, _ => show _ = _; kernel_rfl
  | 4, _ => show _ = _; kernel_rfl
  | 5, _ => show _ = _; kernel_rfl
  | 6, _ => show _ = _; kernel_rfl
  | 7, _ => show _ = _; kernel_rfl
set_option maxHeartbeats 4000000 in
set_option maxRecDepth 100000 in
theorem directivities_any {cs : Array Value} {nm : ByteArray} {sh : List Int} {T : Bell.Ty} {sa : Option Addr} {sn sc qb qo qn qc gb go gn gc : Nat} (w : World) (hT : TyAt w cs nm sh T sa sn sc qb qo qn qc gb go gn gc) (hd : T.direct.length = 8) :
    Calls Tryz.prog 186 #[.agg cs] w fun e w' => e = .returned (.agg #[.int .i64 (Bell.dLow T.direct), .int .i64 (Bell.dHigh T.direct)]) ∧ Below w.heap.size w w' := by
  have HT := Lib.hid hT
  obtain ⟨d0, d1, d2, d3, d4, d5, d6, d7, he⟩ : ∃ d0 d1 d2 d3 d4 d5 d6 d7, T.direct = [d0, d1, d2, d3, d4, d5, d6, d7] := by
    match T.direct, hd with
    | [a0, a1, a2, a3, a4, a5, a6, a7], _ => exact ⟨_, _, _, _, _, _, _, _, rfl⟩
  have D := Lib.hid (fun i (hi : i < 8) => HT.out.dir (i := i) hi); rw [he] at D ⊢; obtain ⟨l, hl⟩ : ∃ l, l = [d0, d1, d2, d3, d4, d5, d6, d7] := ⟨_, rfl⟩; have HLen : Hid (l.length = 8) := by show _ = _; rw [hl]; rfl
  have HE := Lib.hid hl; have H0 : Hid (l.headD 0 = d0) := by show _ = _; rw [hl]; rfl
  have HR1 : Hid (Bell.dLow [d0, d1, d2, d3, d4, d5, d6, d7] = lowTo l 8) := by show _ = _; rw [← hl, ← lowTo_all, HLen.out]
  have HR2 : Hid (Bell.dHigh [d0, d1, d2, d3, d4, d5, d6, d7] = highTo l 8) := by show _ = _; rw [← hl, ← highTo_all, HLen.out]
  rw [HR1.out, HR2.out]; clear hT hd he hl HR1 HR2
  go_enter Tryz.func186, Tryz.ntmps186
  go_upto_region 1 with fail
  obtain ⟨w1, hw1⟩ : ∃ W, W = (w.alloc (.cells cs 42)).alloc (.cells #[.int .i64 0, .int .i64 0] 100) := ⟨_, rfl⟩; rw [← hw1]; have T1 : Hid (Blk w1 w.heap.size 42 cs) := by show Blk _ _ _ _; rw [hw1]; exact (Blk.new _ _ _).alloc _
  have R1 : Hid (Blk w1 (w.heap.size + 1) 100 #[.int .i64 0, .int .i64 0]) := by show Blk _ _ _ _; rw [hw1]; exact Blk.at_size _ _ (by simp)
  have HB1 : Hid (Below w.heap.size w w1) := by show Below _ _ _; rw [hw1]; exact ((Below.refl _ _).alloc (Nat.le_refl _) _).alloc (by simp) _
  obtain ⟨g, hg⟩ : ∃ g, g = w.heap.size := ⟨_, rfl⟩; rw [← hg] at T1 R1 ⊢; have HG := Lib.hid hg; clear hw1 hg; have t2 := (T1.out.cell 2).trans (D.out 0 (by omega)); simp only [List.getD_cons_zero] at t2
  go_upto_region 2 with fail
  obtain ⟨w2, hw2⟩ : ∃ W, W = w1.alloc (.cells #[.int .i64 d0, .int .i64 d0] 100) := ⟨_, rfl⟩; rw [← hw2]; have hb2 : Below w1.heap.size w1 w2 := by rw [hw2]; exact (Below.refl _ _).alloc (Nat.le_refl _) _
  have X2 : Hid (Blk w2 w1.heap.size 100 #[.int .i64 d0, .int .i64 d0]) := by show Blk _ _ _ _; rw [hw2]; exact Blk.new _ _ _
  have T2 := Lib.hid (T1.out.below hb2); have R2 := Lib.hid (R1.out.below hb2); have HB2 := Lib.hid (HB1.out.trans (hb2.mono HB1.out.size)); have hgx : Hid (g + 2 ≤ w1.heap.size) := by have := lt_of_block R1.out; show _ ≤ _; omega
  obtain ⟨gx, hgx2⟩ : ∃ g, g = w1.heap.size := ⟨_, rfl⟩; rw [← hgx2] at X2 hgx ⊢; clear hw2 hgx2 hb2 T1 R1 HB1 t2; have t2 := (T2.out.cell 2).trans (D.out 0 (by omega)); have t3 := (T2.out.cell 3).trans (D.out 1 (by omega)); have t4 := (T2.out.cell 4).trans (D.out 2 (by omega)); have t5 := (T2.out.cell 5).trans (D.out 3 (by omega)); have t6 := (T2.out.cell 6).trans (D.out 4 (by omega)); have t7 := (T2.out.cell 7).trans (D.out 5 (by omega)); have t8 := (T2.out.cell 8).trans (D.out 6 (by omega)); have t9 := (T2.out.cell 9).trans (D.out 7 (by omega)); simp only [List.getD_cons_zero, List.getD_cons_succ] at t2 t3 t4 t5 t6 t7 t8 t9; go_wp2; clear t2 t3 t4 t5 t6 t7 t8 t9
  go_loopw [5, 15] (fun _ k wr => ∃ j : Nat, j ≤ 8 ∧ k = .int .i64 j ∧ Hid (Blk wr gx 100 #[.int .i64 (lowTo l j), .int .i64 (highTo l j)]) ∧ Hid (Blk wr (g + 1) 100 #[.int .i64 0, .int .i64 0]) ∧ Hid (Below w.heap.size w wr)) (fun _ k _ => 8 - (intOf k).toNat)
  case atStart =>
    refine ⟨0, Nat.zero_le _, rfl, ?_, R2, HB2⟩; have e1 : lowTo l 0 = d0 := by unfold lowTo; exact H0.out
    have e2 : highTo l 0 = d0 := by unfold highTo; exact H0.out
    rw [e1, e2]; exact X2
  case round =>
    obtain ⟨j, hj, rfl, hx, hr, hb⟩ := hrel
    by_cases hlt : j < 8
    · have hlt' : (j : Int) < 8 := by omega
      have hi := fun W => dir_index d0 d1 d2 d3 d4 d5 d6 d7 hlt W
      have h0 := hx.out.cell 0; have h1 := hx.out.cell 1; have f0 := hx.out.frozen 0; have f1 := hx.out.frozen 1; simp only [List.getElem?_toArray, List.getElem?_cons_zero, List.getElem?_cons_succ] at h0 h1; have e1 := Lib.hid (lowTo_succ (l := l) (j := j) (by rw [HLen.out]; exact hlt)); have e2 := Lib.hid (highTo_succ (l := l) (j := j) (by rw [HLen.out]; exact hlt)); rw [← HE.out] at hi; obtain ⟨x, hxx⟩ : ∃ x, x = l.getD j 0 := ⟨_, rfl⟩; obtain ⟨L, hL⟩ : ∃ x, x = lowTo l j := ⟨_, rfl⟩; obtain ⟨H, hH⟩ : ∃ x, x = highTo l j := ⟨_, rfl⟩; rw [← hxx] at hi e1 e2; rw [← hL] at h0 e1 hx; rw [← hH] at h1 e2 hx; obtain ⟨L2, hL2⟩ : ∃ y, y = min L x := ⟨_, rfl⟩; obtain ⟨H2, hH2⟩ : ∃ y, y = max H x := ⟨_, rfl⟩; rw [← hL2] at e1; rw [← hH2] at e2; have r1 : ∀ ts t W, (Builtin.min_ ts t #[.int .i64 L, .int .i64 x]).run Tryz.prog W = .ok (.int .i64 L2) W := fun ts t W => by rw [hL2]; exact run_min2' _ _ _ _ _ _
      have r2 : ∀ ts t W, (Builtin.max_ ts t #[.int .i64 H, .int .i64 x]).run Tryz.prog W = .ok (.int .i64 H2) W := fun ts t W => by rw [hH2]; exact run_max2' _ _ _ _ _ _
      clear hxx hL hH hL2 hH2; go_wp2; go_roundw
      case rel =>
        refine ⟨j + 1, by omega, by go_num, ?_, ?_, ?_⟩
        · rw [e1.out, e2.out]; exact (hx.out.set_ 0 (.int .i64 L2)).set_ 1 (.int .i64 H2)
        · exact (hr.out.far (p := ⟨gx, 0, none⟩) (by have := hgx.out; show g + 1 ≠ gx; omega) _).far (p := ⟨gx, 1, none⟩) (by have := hgx.out; show g + 1 ≠ gx; omega) _
        · exact (hb.out.setCell (p := ⟨gx, 0, none⟩) (by have := hgx.out; have := HG.out; show w.heap.size ≤ gx; omega) _).setCell (p := ⟨gx, 1, none⟩) (by have := hgx.out; have := HG.out; show w.heap.size ≤ gx; omega) _
      case measure => simp [intOf]; omega
    · obtain rfl : j = 8 := by omega
      have h0 := hx.out.cell 0; have h1 := hx.out.cell 1; simp only [List.getElem?_toArray, List.getElem?_cons_zero, List.getElem?_cons_succ] at h0 h1
      go_wp2_with (refine wpList_store_row rfl 100 _ _ rfl (g + 1) #[.int .i64 (lowTo l 8), .int .i64 (highTo l 8)] rfl rfl 100 _ hr.out (by kernel_rfl) rfl (by simp [Value.oneCell']) ?_)
      have hlv := (hr.out.setRow #[.int .i64 (lowTo l 8), .int .i64 (highTo l 8)]).lv Tryz.prog (T := 100) Tryz.underlying100 rfl (by kernel_rfl); refine bodyPost_ret (v := .agg #[.int .i64 (lowTo l 8), .int .i64 (highTo l 8)]) (by simp [results, Tryz.results186, asAddr]; exact hlv) rfl ?_; exact ⟨rfl, hb.out.setRow' (by have := HG.out; omega) _⟩
end Go.Proofs.YtmafmebcgmegeaaGreatDoor

namespace Go.Proofs.YtmafmebcgmegeaaGreatDoor
open Go.RowKit Go.Sort
theorem foldl_max_le {l : List Int} {a c : Int} (ha : a ≤ c) (h : ∀ x, x ∈ l → x ≤ c) : l.foldl max a ≤ c := by
  induction l generalizing a with
  | nil => exact ha
  | cons b l ih => exact ih (by have := h b (by simp); omega) (fun x hx => h x (by simp [hx]))
theorem dLow_in {T : Bell.Ty} (g : Bell.GoodTy T) : 0 ≤ Bell.dLow T.direct ∧ Bell.dLow T.direct ≤ 2000 := by
  have h0 := g.dir 0 (by omega)
  have hh : T.direct.headD 0 = T.direct.getD 0 0 := by
    have := g.dlen
    cases h : T.direct with
    | nil => rfl
    | cons a l => rfl
  have hm : ∀ x, x ∈ T.direct → 0 ≤ x ∧ x ≤ 2000 := fun x hx => by
    obtain ⟨i, hi, rfl⟩ := List.getElem_of_mem hx; have := g.dir i (by rw [← g.dlen]; exact hi); rw [List.getD_eq_getElem?_getD, List.getElem?_eq_getElem hi, Option.getD_some] at this; exact this
  unfold Bell.dLow; rw [hh]; exact ⟨Bell.foldl_min_ge h0.1 (fun x hx => (hm x hx).1), Int.le_trans (Bell.foldl_min_le _ _).1 h0.2⟩
theorem dHigh_in {T : Bell.Ty} (g : Bell.GoodTy T) : 0 ≤ Bell.dHigh T.direct ∧ Bell.dHigh T.direct ≤ 2000 := by
  have h0 := g.dir 0 (by omega)
  have hh : T.direct.headD 0 = T.direct.getD 0 0 := by
    have := g.dlen
    cases h : T.direct with
    | nil => rfl
    | cons a l => rfl
  have hm : ∀ x, x ∈ T.direct → 0 ≤ x ∧ x ≤ 2000 := fun x hx => by
    obtain ⟨i, hi, rfl⟩ := List.getElem_of_mem hx; have := g.dir i (by rw [← g.dlen]; exact hi); rw [List.getD_eq_getElem?_getD, List.getElem?_eq_getElem hi, Option.getD_some] at this; exact this
  unfold Bell.dHigh; rw [hh]; exact ⟨Int.le_trans h0.1 (Bell.le_foldl_max _ _).1, foldl_max_le h0.2 (fun x hx => (hm x hx).2)⟩
theorem nearSq_200 {a b : Int} (h1 : -200000 ≤ a) (h2 : a ≤ 200000) (h3 : -200000 ≤ b) (h4 : b ≤ 200000) : 0 ≤ nearSq a b ∧ nearSq a b ≤ 200000 * 200000 := by
  have h := near_in (lo := min a b) (hi := max a b) (m := 200000) (by omega) (by omega) (by omega) (by omega); exact sq_in h.1 h.2
theorem farSq_200 {a b : Int} (h1 : -200000 ≤ a) (h2 : a ≤ 200000) (h3 : -200000 ≤ b) (h4 : b ≤ 200000) : 0 ≤ farSq a b ∧ farSq a b ≤ 200000 * 200000 := by
  have h := far_in (lo := min a b) (hi := max a b) (m := 200000) (by omega) (by omega) (by omega) (by omega); exact sq_in h.1 h.2
set_option maxHeartbeats 4000000 in
set_option maxRecDepth 100000 in
theorem enclosed_any {cs : Array Value} {nm : ByteArray} {sh : List Int} {T : Bell.Ty} {sa : Option Addr} {sn sc qb qo qn qc gb go gn gc : Nat} (A B : Bell.Fx) (r : Bell.Pl) (w : World) (hT : TyAt w cs nm sh T sa sn sc qb qo qn qc gb go gn gc) (hG : GoodT sh T) (hA : Bell.GoodFx A) (hB : Bell.GoodFx B) (hr : GoodPl r) (ht : A.t < B.t) (ht2 : B.t - A.t ≤ 1000) :
    Calls Tryz.prog 137 #[.agg cs, .agg (fxV A), .agg (fxV B), .agg (plV r)] w fun e w' => e = .returned (.agg #[.int .i64 (Bell.lowOf T A B r), .int .i64 (Bell.highOf T A B r)]) ∧ Below w.heap.size w w' := by
  have HT := Lib.hid hT; have HG := Lib.hid hG; obtain ⟨at0, at1, ax0, ax1, ay0, ay1, az0, az1, ap0, ap1⟩ := hA; obtain ⟨bt0, bt1, bx0, bx1, by0, by1, bz0, bz1, bp0, bp1⟩ := hB; obtain ⟨⟨rx0, rx1⟩, ⟨ry0, ry1⟩, ⟨rz0, rz1⟩⟩ := hr; clear hT hG; have n1 := nearSq_200 (a := A.x - r.x) (b := B.x - r.x) (by omega) (by omega) (by omega) (by omega); have n2 := nearSq_200 (a := A.y - r.y) (b := B.y - r.y) (by omega) (by omega) (by omega) (by omega); have n3 := nearSq_200 (a := A.z - r.z) (b := B.z - r.z) (by omega) (by omega) (by omega) (by omega); have m1 := farSq_200 (a := A.x - r.x) (b := B.x - r.x) (by omega) (by omega) (by omega) (by omega); have m2 := farSq_200 (a := A.y - r.y) (b := B.y - r.y) (by omega) (by omega) (by omega) (by omega); have m3 := farSq_200 (a := A.z - r.z) (b := B.z - r.z) (by omega) (by omega) (by omega) (by omega); have HQ := Lib.hid (fun W => boxSquares_any A.x A.y A.z B.x B.y B.z r.x r.y r.z W (show Three _ _ _ _ by unfold Three; omega) (show Three _ _ _ _ by unfold Three; omega) (show Three _ _ _ _ by unfold Three; omega))
  obtain ⟨qn', hqn⟩ : ∃ q, q = nearSq (A.x - r.x) (B.x - r.x) + nearSq (A.y - r.y) (B.y - r.y) + nearSq (A.z - r.z) (B.z - r.z) := ⟨_, rfl⟩; obtain ⟨qf', hqf⟩ : ∃ q, q = farSq (A.x - r.x) (B.x - r.x) + farSq (A.y - r.y) (B.y - r.y) + farSq (A.z - r.z) (B.z - r.z) := ⟨_, rfl⟩; have hn' : 0 ≤ qn' ∧ qn' ≤ 1000000000000 := by omega
  have hf' : 0 ≤ qf' ∧ qf' ≤ 1000000000000 := by omega
  have en : Hid (Bell.sqNear A B r = qn') := by show _ = _; rw [hqn]; rfl
  have ef : Hid (Bell.sqFar A B r = qf') := by show _ = _; rw [hqf]; rfl
  rw [← hqn, ← hqf] at HQ; clear n1 n2 n3 m1 m2 m3 hqn hqf ax0 ax1 ay0 ay1 az0 az1 bx0 bx1 by0 by1 bz0 bz1 rx0 rx1 ry0 ry1 rz0 rz1; obtain ⟨PL, hPL⟩ : ∃ p, p = min A.p B.p := ⟨_, rfl⟩; obtain ⟨PH, hPH⟩ : ∃ p, p = max A.p B.p := ⟨_, rfl⟩; have HE1 := Lib.hid (fun W (hb : Below w.heap.size w W) => emission_any PL qf' W (HT.out.keep hb) HG.out (by omega) hf'); have HE2 := Lib.hid (fun W (hb : Below w.heap.size w W) => emission_any PH qn' W (HT.out.keep hb) HG.out (by omega) hn'); have HD := Lib.hid (fun W (hb : Below w.heap.size w W) => directivities_any W (HT.out.keep hb) HG.out.dl); have q1 := Bell.emis_range HG.out.ty.sets (r := Bell.reachOf T.squares qf') (Bell.reach_lt HG.out.ty.sq) PL; have q2 := Bell.emis_range HG.out.ty.sets (r := Bell.reachOf T.squares qn') (Bell.reach_lt HG.out.ty.sq) PH; have dl := dLow_in HG.out.ty; have dh := dHigh_in HG.out.ty; have hl : Hid (Bell.lowOf T A B r = (B.t - A.t) * (Bell.emis T.sets (Bell.reachOf T.squares qf') PL * Bell.dLow T.direct * T.side / 1000000)) := by show _ = _; unfold Bell.lowOf Bell.leastOf; rw [ef.out, hPL]
  have hh : Hid (Bell.highOf T A B r = ((B.t - A.t) * (Bell.emis T.sets (Bell.reachOf T.squares qn') PH * Bell.dHigh T.direct) + 1000 - 1) / 1000) := by show _ = _; unfold Bell.highOf Bell.mostOf; rw [en.out, hPH]
  obtain ⟨E1, hE1⟩ : ∃ e, e = Bell.emis T.sets (Bell.reachOf T.squares qf') PL := ⟨_, rfl⟩; obtain ⟨E2, hE2⟩ : ∃ e, e = Bell.emis T.sets (Bell.reachOf T.squares qn') PH := ⟨_, rfl⟩; obtain ⟨DL, hDL⟩ : ∃ e, e = Bell.dLow T.direct := ⟨_, rfl⟩; obtain ⟨DH, hDH⟩ : ∃ e, e = Bell.dHigh T.direct := ⟨_, rfl⟩; obtain ⟨sd, hsd⟩ : ∃ e, e = T.side := ⟨_, rfl⟩; have s0 := HG.out.ty.side0; have s1 := HG.out.ty.side1; have HS := Lib.hid HT.out.c10; rw [← hE1, ← hDL, ← hsd] at hl; rw [← hE2, ← hDH] at hh; rw [← hE1] at q1 HE1; rw [← hE2] at q2 HE2; rw [← hDL] at dl HD; rw [← hDH] at dh HD; rw [← hsd] at s0 s1 HS; clear hE1 hE2 hDL hDH hsd en ef hn' hf'; obtain ⟨tk, htk⟩ : ∃ t, B.t - A.t = t := ⟨_, rfl⟩; have k1 := mul_in (a := E1) (b := DL) (m := 100000000) (n := 2000) (by omega) (by omega) (by omega) (by omega); have k10 : 0 ≤ E1 * DL := Int.mul_nonneg q1.1 dl.1; have k2 := mul_in (a := E1 * DL) (b := sd) (m := 200000000000) (n := 1000) (by omega) (by omega) (by omega) (by omega)
  have k20 : 0 ≤ E1 * DL * sd := Int.mul_nonneg k10 s0; have k3 := mul_in (a := E2) (b := DH) (m := 100000000) (n := 2000) (by omega) (by omega) (by omega) (by omega); have k30 : 0 ≤ E2 * DH := Int.mul_nonneg q2.1 dh.1; obtain ⟨LE, hLE⟩ : ∃ x, x = E1 * DL * sd / 1000000 := ⟨_, rfl⟩; obtain ⟨MO, hMO⟩ : ∃ x, E2 * DH = x := ⟨_, rfl⟩; have l1 : 0 ≤ LE ∧ LE ≤ 200000000 := by omega
  rw [htk, ← hLE] at hl; rw [htk, hMO] at hh; have k4 := mul_in (a := tk) (b := LE) (m := 1000) (n := 200000000) (by omega) (by omega) (by omega) (by omega); have k5 := mul_in (a := tk) (b := MO) (m := 1000) (n := 200000000000) (by omega) (by omega) (by omega) (by omega); have k50 : 0 ≤ tk * MO := Int.mul_nonneg (by omega) (by omega); have HLE := Lib.hid hLE; have HMO := Lib.hid hMO; have HTK := Lib.hid htk; obtain ⟨F1, hF1⟩ : ∃ x, x = tk * LE := ⟨_, rfl⟩; obtain ⟨F2, hF2⟩ : ∃ x, x = (tk * MO + 1000 - 1) / 1000 := ⟨_, rfl⟩; have hF : Hid (F1 = Bell.lowOf T A B r ∧ F2 = Bell.highOf T A B r) := ⟨by rw [hF1, hl.out], by rw [hF2, hh.out]⟩; rw [← hF.out.1, ← hF.out.2]; have HF1 := Lib.hid hF1; have HF2 := Lib.hid hF2; obtain ⟨k11, k12⟩ := k1; obtain ⟨k21, k22⟩ := k2; obtain ⟨k31, k32⟩ := k3; obtain ⟨k41, k42⟩ := k4; obtain ⟨k51, k52⟩ := k5; have rmin : ∀ ts t W, (Builtin.min_ ts t #[.int .i64 A.p, .int .i64 B.p]).run Tryz.prog W = .ok (.int .i64 PL) W := fun ts t W => by rw [hPL]; exact run_min2' _ _ _ _ _ _
  have rmax : ∀ ts t W, (Builtin.max_ ts t #[.int .i64 A.p, .int .i64 B.p]).run Tryz.prog W = .ok (.int .i64 PH) W := fun ts t W => by rw [hPH]; exact run_max2' _ _ _ _ _ _
  clear hLE hMO hF1 hF2 hl hh hPL hPH; unfold fxV plV
  go_enter Tryz.func137, Tryz.ntmps137
  go_upto_region 1 with fail
  obtain ⟨w1, hw1⟩ : ∃ W, W = ((((w.alloc (.cells cs 42)).alloc (.cells #[.int .i64 A.t, .int .i64 A.x, .int .i64 A.y, .int .i64 A.z, .int .i64 A.p] 152)).alloc (.cells #[.int .i64 B.t, .int .i64 B.x, .int .i64 B.y, .int .i64 B.z, .int .i64 B.p] 152)).alloc (.cells #[.int .i64 r.x, .int .i64 r.y, .int .i64 r.z] 28)).alloc (.cells #[.int .i64 0, .int .i64 0] 100) := ⟨_, rfl⟩; rw [← hw1]; have T1 : Hid (Blk w1 w.heap.size 42 cs) := by show Blk _ _ _ _; rw [hw1]; exact ((((Blk.new _ _ _).alloc _).alloc _).alloc _).alloc _
  have A1 : Hid (Blk w1 (w.heap.size + 1) 152 #[.int .i64 A.t, .int .i64 A.x, .int .i64 A.y, .int .i64 A.z, .int .i64 A.p]) := by show Blk _ _ _ _; rw [hw1]; exact (((Blk.at_size _ _ (by simp)).alloc _).alloc _).alloc _
  have B1 : Hid (Blk w1 (w.heap.size + 1 + 1) 152 #[.int .i64 B.t, .int .i64 B.x, .int .i64 B.y, .int .i64 B.z, .int .i64 B.p]) := by show Blk _ _ _ _; rw [hw1]; exact ((Blk.at_size _ _ (by simp)).alloc _).alloc _
  have R1 : Hid (Blk w1 (w.heap.size + 1 + 1 + 1) 28 #[.int .i64 r.x, .int .i64 r.y, .int .i64 r.z]) := by show Blk _ _ _ _; rw [hw1]; exact (Blk.at_size _ _ (by simp)).alloc _
  have Z1 : Hid (Blk w1 (w.heap.size + 1 + 1 + 1 + 1) 100 #[.int .i64 0, .int .i64 0]) := by show Blk _ _ _ _; rw [hw1]; exact Blk.at_size _ _ (by simp)
  have HB1 : Hid (Below w.heap.size w w1) := by show Below _ _ _; rw [hw1]; exact (((((Below.refl _ _).alloc (Nat.le_refl _) _).alloc (by simp) _).alloc (by simp; omega) _).alloc (by simp; omega) _).alloc (by simp; omega) _
  obtain ⟨g, hg⟩ : ∃ g, g = w.heap.size := ⟨_, rfl⟩; rw [← hg] at T1 A1 B1 R1 Z1 ⊢; have HGs := Lib.hid hg; clear hw1 hg; have ca := A1.out; have cb := B1.out; have cr := R1.out; have ac0 := ca.cell 0; have af0 := ca.frozen 0; have ac1 := ca.cell 1; have af1 := ca.frozen 1; have ac2 := ca.cell 2; have af2 := ca.frozen 2; have ac3 := ca.cell 3; have af3 := ca.frozen 3; have ac4 := ca.cell 4; have af4 := ca.frozen 4; simp only [List.getElem?_toArray, List.getElem?_cons_zero, List.getElem?_cons_succ] at ac0 ac1 ac2 ac3 ac4; clear ca; have bc0 := cb.cell 0; have bf0 := cb.frozen 0; have bc1 := cb.cell 1; have bf1 := cb.frozen 1; have bc2 := cb.cell 2; have bf2 := cb.frozen 2; have bc3 := cb.cell 3; have bf3 := cb.frozen 3; have bc4 := cb.cell 4; have bf4 := cb.frozen 4; simp only [List.getElem?_toArray, List.getElem?_cons_zero, List.getElem?_cons_succ] at bc0 bc1 bc2 bc3 bc4; clear cb; have rc0 := cr.cell 0; have rf0 := cr.frozen 0; have rc1 := cr.cell 1; have rf1 := cr.frozen 1; have rc2 := cr.cell 2; have rf2 := cr.frozen 2
  simp only [List.getElem?_toArray, List.getElem?_cons_zero, List.getElem?_cons_succ] at rc0 rc1 rc2; clear cr; have htk' := HTK.out
  go_wp2_with fail
  clear htk'; refine (HQ.out w1).mono ?_; rintro e w2 ⟨rfl, hb2⟩; have T2 := Lib.hid (T1.out.below hb2); have A2 := Lib.hid (A1.out.below hb2); have B2 := Lib.hid (B1.out.below hb2); have Z2 := Lib.hid (Z1.out.below hb2); have HB2 := Lib.hid (HB1.out.trans (hb2.mono HB1.out.size)); clear hb2 T1 A1 B1 R1 Z1 HB1 ac0 ac1 ac2 ac3 ac4 bc0 bc1 bc2 bc3 bc4 rc0 rc1 rc2 af0 af1 af2 af3 af4 bf0 bf1 bf2 bf3 bf4 rf0 rf1 rf2 HQ
  go_upto_region 3 with fail
  obtain ⟨w3, hw3⟩ : ∃ W, W = w2.alloc (.cells #[.int .i64 qn', .int .i64 qf'] 253) := ⟨_, rfl⟩; rw [← hw3]; have hb3 : Below w2.heap.size w2 w3 := by rw [hw3]; exact (Below.refl _ _).alloc (Nat.le_refl _) _
  have Q3 : Hid (Blk w3 w2.heap.size 253 #[.int .i64 qn', .int .i64 qf']) := by show Blk _ _ _ _; rw [hw3]; exact Blk.new _ _ _
  have T3 := Lib.hid (T2.out.below hb3); have A3 := Lib.hid (A2.out.below hb3); have B3 := Lib.hid (B2.out.below hb3); have Z3 := Lib.hid (Z2.out.below hb3); have HB3 := Lib.hid (HB2.out.trans (hb3.mono HB2.out.size)); obtain ⟨gq, hgq⟩ : ∃ g, g = w2.heap.size := ⟨_, rfl⟩; rw [← hgq] at Q3 ⊢; clear hw3 hgq hb3 T2 A2 B2 Z2 HB2; have IT := Lib.hid HT.out.info
  go_wp2_with (refine wpList_load_row rfl 42 _ rfl g rfl 42 cs (0, 0) _ T3.out Tryz.underlying42 rfl IT.out ?_)
  refine (HD.out w3 HB3.out).mono ?_; rintro e w4 ⟨rfl, hb4⟩; have T4 := Lib.hid (T3.out.below hb4); have A4 := Lib.hid (A3.out.below hb4); have B4 := Lib.hid (B3.out.below hb4); have Z4 := Lib.hid (Z3.out.below hb4); have Q4 := Lib.hid (Q3.out.below hb4); have HB4 := Lib.hid (HB3.out.trans (hb4.mono HB3.out.size)); clear hb4 T3 A3 B3 Z3 Q3 HB3 HD
  go_upto_region 4 with fail
  obtain ⟨w5, hw5⟩ : ∃ W, W = w4.alloc (.cells #[.int .i64 DL, .int .i64 DH] 100) := ⟨_, rfl⟩; rw [← hw5]; have hb5 : Below w4.heap.size w4 w5 := by rw [hw5]; exact (Below.refl _ _).alloc (Nat.le_refl _) _
  have D5 : Hid (Blk w5 w4.heap.size 100 #[.int .i64 DL, .int .i64 DH]) := by show Blk _ _ _ _; rw [hw5]; exact Blk.new _ _ _
  have T5 := Lib.hid (T4.out.below hb5); have A5 := Lib.hid (A4.out.below hb5); have B5 := Lib.hid (B4.out.below hb5); have Z5 := Lib.hid (Z4.out.below hb5); have Q5 := Lib.hid (Q4.out.below hb5); have HB5 := Lib.hid (HB4.out.trans (hb5.mono HB4.out.size)); obtain ⟨gd, hgd⟩ : ∃ g, g = w4.heap.size := ⟨_, rfl⟩; rw [← hgd] at D5 ⊢; clear hw5 hgd hb5 T4 A4 B4 Z4 Q4 HB4; have bw : ∀ d os, Below w5.heap.size w5 (grow (redrawn w5 d) os) := fun d os => below_regrown w5 d os
  have lT := fun d os => HT.out.lv (T5.out.below (bw d os))
  have xa := fun d os => cell_regrown (A5.out.cell 4) d os
  have xb := fun d os => cell_regrown (B5.out.cell 4) d os
  have xq := fun d os => cell_regrown (Q5.out.cell 1) d os
  have xd := fun d os => cell_regrown (D5.out.cell 0) d os
  have xs := fun d os => cell_regrown ((T5.out.cell 10).trans HS.out) d os
  have ce := fun d os => Calls.regrown_of (HE1.out (grow (redrawn w5 d) os) (HB5.out.trans ((bw d os).mono HB5.out.size)))
  have wr1 : IntKind.i64.wrap (E1 * DL) = E1 * DL := IntWalk.i64_in _ (by omega); have wr2 : IntKind.i64.wrap (E1 * DL * sd) = E1 * DL * sd := IntWalk.i64_in _ (by omega); have wr3 : IntKind.i64.wrap ((E1 * DL * sd).tdiv 1000000) = LE := by rw [Int.tdiv_eq_ediv_of_nonneg k20, ← HLE.out]; exact IntWalk.i64_in _ (by omega)
  refine wp_region_quiet_below (by kernel_rfl) (by kernel_rfl) ?_; refine quiet_load _ _ rfl (by rfl) _ _ rfl lT ?_
  iterate 7 (quiet_step (fail))
  quiet_step (exact ce _ _)
  repeat (quiet_step (fail))
  refine wpQuiet_nil ?_; intro w6 hw'; obtain ⟨⟨dq, osq⟩, hw''⟩ := hw'; have hb6 := bw dq osq; rw [← hw''] at hb6; have T6 := Lib.hid (T5.out.below hb6); have A6 := Lib.hid (A5.out.below hb6); have B6 := Lib.hid (B5.out.below hb6); have Z6 := Lib.hid (Z5.out.below hb6); have Q6 := Lib.hid (Q5.out.below hb6); have D6 := Lib.hid (D5.out.below hb6); have HB6 := Lib.hid (HB5.out.trans (hb6.mono HB5.out.size)); clear hw'' hb6 lT xa xb xq xd xs ce bw T5 A5 B5 Z5 Q5 D5 HB5 wr1 wr2 wr3 k11 k12 k10 k21 k22 k20 HE1 HS
  go_upto_region 5 with fail
  have bw : ∀ d os, Below w6.heap.size w6 (grow (redrawn w6 d) os) := fun d os => below_regrown w6 d os
  have lT := fun d os => HT.out.lv (T6.out.below (bw d os))
  have xa := fun d os => cell_regrown (A6.out.cell 4) d os
  have xb := fun d os => cell_regrown (B6.out.cell 4) d os
  have xq := fun d os => cell_regrown (Q6.out.cell 0) d os
  have xd := fun d os => cell_regrown (D6.out.cell 1) d os
  have ce := fun d os => Calls.regrown_of (HE2.out (grow (redrawn w6 d) os) (HB6.out.trans ((bw d os).mono HB6.out.size)))
  have hmo' := HMO.out; have wr1 : IntKind.i64.wrap MO = MO := IntWalk.i64_in _ (by omega); refine wp_region_quiet_below (by kernel_rfl) (by kernel_rfl) ?_; refine quiet_load _ _ rfl (by rfl) _ _ rfl lT ?_
  iterate 7 (quiet_step (fail))
  quiet_step (exact ce _ _)
  repeat (quiet_step (fail))
  refine wpQuiet_nil ?_; intro w7 hw'; obtain ⟨⟨dq7, osq7⟩, hw''⟩ := hw'; have hb7 := bw dq7 osq7; rw [← hw''] at hb7; have Z7 := Lib.hid (Z6.out.below hb7); have HB7 := Lib.hid (HB6.out.trans (hb7.mono HB6.out.size)); clear hw'' hb7 lT xa xb xq xd ce bw T6 A6 B6 Z6 Q6 D6 HB6 wr1 hmo' HE2 rmin rmax; have z := Z7.out; have zc0 := z.cell 0; have zf0 := z.frozen 0; have zc1 := z.cell 1; have zf1 := z.frozen 1; simp only [List.getElem?_toArray, List.getElem?_cons_zero, List.getElem?_cons_succ] at zc0 zc1; clear z; go_wp2; have hlv := ((Z7.out.set_ 0 (.int .i64 (tk * LE))).set_ 1 (.int .i64 ((tk * MO + 1000 - 1) / 1000))).lv Tryz.prog (T := 100) Tryz.underlying100 rfl (by kernel_rfl); refine bodyPost_ret (v := .agg #[.int .i64 (tk * LE), .int .i64 ((tk * MO + 1000 - 1) / 1000)]) (by simp [results, Tryz.results137, asAddr]; exact hlv) rfl ?_; exact ⟨by rw [HF1.out, HF2.out], (HB7.out.setCell (p := ⟨g + 1 + 1 + 1 + 1, 0, none⟩) (by have := HGs.out; show w.heap.size ≤ g + 1 + 1 + 1 + 1; omega) _).setCell (p := ⟨g + 1 + 1 + 1 + 1, 1, none⟩) (by have := HGs.out; show w.heap.size ≤ g + 1 + 1 + 1 + 1; omega) _⟩
end Go.Proofs.YtmafmebcgmegeaaGreatDoor
