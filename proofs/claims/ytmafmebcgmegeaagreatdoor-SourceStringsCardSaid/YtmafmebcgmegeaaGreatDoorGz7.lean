/- Part. -/
import Derived.Test.YtmafmebcgmegeaaGreatDoorGz1
import Derived.Test.YtmafmebcgmegeaaGreatDoorGz6
namespace Go.Proofs.YtmafmebcgmegeaaGreatDoor
open Go.RowKit Go.Sort
set_option maxHeartbeats 2000000 in
set_option maxRecDepth 100000 in
theorem fixCheck_any (P : Bell.Fx) (w : World) :
  Calls Tryz.prog 126 #[.agg (fxV P)] w fun e w' => e = .returned (.int .i64 (fixE P.t P.x P.y P.z P.p)) /\ Below w.heap.size w w' := by
 unfold fxV
 go_enter Tryz.func126, Tryz.ntmps126
 go_wp2_with fail
 obtain ⟨w0, hw0⟩ : ∃ X, X = w.alloc (.cells #[.int .i64 P.t, .int .i64 P.x, .int .i64 P.y, .int .i64 P.z, .int .i64 P.p] 152) := ⟨_, rfl⟩; rw [<- hw0]; have B0 : Blk w0 w.heap.size 152 #[.int .i64 P.t, .int .i64 P.x, .int .i64 P.y, .int .i64 P.z, .int .i64 P.p] := by rw [hw0]; exact Blk.new w _ _
 have HB : Hid (Below w.heap.size w w0) := by show Below _ _ _; rw [hw0]; exact (Below.refl _ w).alloc (Nat.le_refl _) _
 clear hw0; have a0 := fun d os => cell_regrown (B0.cell 0) d os
 have a1 := fun d os => cell_regrown (B0.cell 1) d os
 have a2 := fun d os => cell_regrown (B0.cell 2) d os
 have a3 := fun d os => cell_regrown (B0.cell 3) d os
 have a4 := fun d os => cell_regrown (B0.cell 4) d os
 have ct := fun d os => Calls.regrown_of (Calls.grow_same (srcTick_st P.t (grow (redrawn w0 d) os)))
 have cp := fun d os => Calls.regrown_of (Calls.grow_same (srcPower_st P.p (grow (redrawn w0 d) os)))
 have cl := fun d os => Calls.regrown_of (checkPlace_any P.x P.y P.z (grow (redrawn w0 d) os))
 clear B0; refine wp_region_below_tail 9 (by kernel_rfl) (by kernel_rfl) ?_; simp only [List.take_succ_cons, List.take_zero, List.drop_succ_cons, List.drop_zero]
 iterate 2 (quiet_step (fail))
 quiet_step (exact ct _ _)
 iterate 2 (quiet_step (fail))
 quiet_step (exact cl _ _)
 iterate 2 (quiet_step (fail))
 quiet_step (exact cp _ _)
 refine wpQuiet_nil ?_; intro w1 hw'; obtain ⟨⟨dq, osq⟩, hw''⟩ := hw'; have HB1 := lh (HB.out.trans ((below_regrown w0 dq osq).mono HB.out.size)); rw [<- hw''] at HB1; clear hw'' a0 a1 a2 a3 a4 ct cp cl
 go_wp2_with fail
 refine (first3 _ _ (withinE P.t 0 100000000) (placeE P.x P.y P.z) (withinE P.p 1 100) _ (by go_simp) (by go_simp) (by go_simp)).mono ?_; rintro e w2 ⟨rfl, rfl⟩; go_wp2; go_ret; exact ⟨rfl, HB1.out.alloc HB1.out.size _⟩
theorem withinE_in {n lo hi : Int} (h1 : lo <= n) (h2 : n <= hi) : withinE n lo hi = 0 := by unfold withinE; rw [if_neg (by omega)]
theorem fixE_good {P : Bell.Fx} (h : Bell.GoodFx P) : fixE P.t P.x P.y P.z P.p = 0 := by
 simp [fixE, placeE, firstE, withinE_in h.t0 h.t1, withinE_in h.x0 h.x1, withinE_in h.y0 h.y1, withinE_in h.z0 h.z1, withinE_in h.p0 h.p1]
theorem atMost_fix (A : Option Addr) (n c : Nat) (limit : Int) (w : World) (h : (n : Int) <= limit) :
  Calls Tryz.prog 122 #[.slice A n c, .int .i64 limit] w fun e w' => e = .returned (.int .i64 0) /\ w' = w := by
 have h2 : ¬ limit < (n : Int) := by omega
 clear h
 go_enter Tryz.func122, Tryz.ntmps122
 go_wp2
 go_ret
 exact ⟨rfl, rfl⟩
theorem checkLength_ok (A : Option Addr) (n c : Nat) (limit : Int) (w : World) (h : (n : Int) <= limit) (h2 : 2 <= n) :
  Calls Tryz.prog 125 #[.slice A n c, .int .i64 limit] w fun e w' => e = .returned (.int .i64 0) /\ w' = w := by
 have HH := lh h; clear h
 go_enter Tryz.func125, Tryz.ntmps125
 go_wp2_with fail
 refine (atMost_fix A n c limit _ HH.out).mono ?_; rintro e w' ⟨rfl, rfl⟩; go_wp2; go_ret; exact ⟨rfl, rfl⟩
theorem checkTicks_ok (f t : Int) (w : World) (h0 : 0 <= f) (h1 : f <= t) (h2 : t <= 100000000) :
  Calls Tryz.prog 134 #[.agg #[.int .i64 f, .int .i64 t]] w fun e w' => e = .returned (.int .i64 0) /\ Below w.heap.size w w' := by
 have q1 : decide (f < 0) = false := decide_eq_false (by omega); have q2 : decide (t < f) = false := decide_eq_false (by omega); have q3 : decide (100000000 < t) = false := decide_eq_false (by omega); clear h0 h1 h2
 go_enter Tryz.func134, Tryz.ntmps134
 go_wp2
 go_ret
 exact ⟨rfl, (Below.refl _ _).alloc (Nat.le_refl _) _⟩
theorem fix_tick (t x y z p : Int) (W : World) : (Instr.field 152 (.agg #[.int .i64 t, .int .i64 x, .int .i64 y, .int .i64 z, .int .i64 p]) 0).run Tryz.prog W = .ok (.int .i64 t) W := by kernel_rfl
set_option maxHeartbeats 2000000 in
set_option maxRecDepth 100000 in
theorem checkLasting_ok (b off n c : Nat) (l : List Bell.Fx) (w : World) (hl : FixesAt w b off n l) (hg : Bell.GoodTr l) :
  Calls Tryz.prog 123 #[.slice (some ⟨b, off, none⟩) n c] w fun e w' => e = .returned (.int .i64 0) /\ Below w.heap.size w w' := by
 have hn := hl.1; have g1 := hg.lo; have g2 := hg.hi; have g3 := hg.last; obtain ⟨m, rfl⟩ : ∃ m, n = m + 1 := ⟨n - 1, by omega⟩; have gm := hg.pts m (by omega); have g0 := hg.pts 0 (by omega); have cL := fun d os => Calls.regrown_of (last_any b off m c l (grow (redrawn w d) os) (hl.keep (below_regrown w d os)) (by omega))
 have a0 := fun d os => cell_regrown (hl.2 0 (by omega)).1 d os
 rw [hn, Nat.add_sub_cancel] at g3; obtain ⟨A, hA⟩ : ∃ A, A = Bell.fxAt l 0 := ⟨_, rfl⟩; obtain ⟨B, hB⟩ : ∃ B, B = Bell.fxAt l m := ⟨_, rfl⟩; rw [<- hA] at g3 g0 a0; rw [<- hB] at g3 gm cL; have b1 := gm.t0; have b2 := gm.t1; have a1 := g0.t0; have a2 := g0.t1; have bw := fun d os => below_regrown w d os
 have w1 : IntKind.i64.wrap (B.t - A.t) = B.t - A.t := IntWalk.i64_in _ (by omega); have hd : decide (1000 < B.t - A.t) = false := decide_eq_false (by omega); simp only [Nat.zero_mul, Nat.add_zero] at a0; clear hl hg hn g1 g2 g3 gm g0 hA hB b1 b2 a1 a2
 go_enter Tryz.func123, Tryz.ntmps123
 go_upto_region 1 with fail
 simp only [fxV] at cL; have hfl := fix_tick B.t B.x B.y B.z B.p; refine wp_region_quiet_below (by kernel_rfl) (by kernel_rfl) ?_
 quiet_step (fail)
 quiet_step (exact cL _ _)
 repeat (quiet_step (fail))
 refine wpQuiet_nil ?_; intro _ hw'; obtain ⟨⟨dq, osq⟩, hw''⟩ := hw'; subst hw''; have HB := lh (bw dq osq); clear bw a0 cL; go_wp2; go_ret; exact ⟨rfl, HB.out⟩
set_option maxHeartbeats 2000000 in
set_option maxRecDepth 100000 in
theorem CheckTrack_ok (b off n c : Nat) (l : List Bell.Fx) (w : World) (hl : FixesAt w b off n l) (hg : Bell.GoodTr l) :
  Calls Tryz.prog 45 #[.slice (some ⟨b, off, none⟩) n c] w fun e w' => e = .returned (.int .i64 0) /\ Below w.heap.size w w' := by
 have hn := hl.1; have n1 : 2 <= n := by have := hg.lo; omega
 have n2 : n <= 16 := by have := hg.hi; omega
 have HL := lh hl; have HGd := lh hg; have HN := lh hn; clear hl hg hn
 go_enter Tryz.func45, Tryz.ntmps45
 go_wp2_with fail
 refine (checkLength_ok (some ⟨b, off, none⟩) n c 16 w (by omega) n1).mono ?_; rintro e w' ⟨rfl, rfl⟩; go_wp2
 go_loopw [4, 5, 6, 14] (fun _ _ _ k wr => ∃ j : Nat, j <= n /\ k = .int .i64 j /\ Hid (Below w'.heap.size w' wr)) (fun _ _ _ k _ => n - (intOf k).toNat)
 case atStart => exact ⟨0, Nat.zero_le _, rfl, Below.refl _ _⟩
 case round =>
  obtain ⟨j, hj, rfl, hb⟩ := hrel; have HLr := lh (HL.out.keep hb.out)
  by_cases hlt : j < n
  ·obtain ⟨h0, h1, h2, h3, h4⟩ := HLr.out.2 j hlt; have HP := lh (HGd.out.pts j (by rw [HN.out]; exact hlt)); obtain ⟨P, hP⟩ : ∃ P, P = Bell.fxAt l j := ⟨_, rfl⟩; rw [<- hP] at h0 h1 h2 h3 h4 HP; have HPE := lh hP; clear hP; have hbx : Hid (Below w'.heap.size w' (wr.alloc (.cells #[.int .i64 P.t, .int .i64 P.x, .int .i64 P.y, .int .i64 P.z, .int .i64 P.p] 152))) := hb.out.alloc hb.out.size _; have hbk : Hid (Blk (wr.alloc (.cells #[.int .i64 P.t, .int .i64 P.x, .int .i64 P.y, .int .i64 P.z, .int .i64 P.p] 152)) wr.heap.size 152 #[.int .i64 P.t, .int .i64 P.x, .int .i64 P.y, .int .i64 P.z, .int .i64 P.p]) := Blk.new _ _ _
   go_wp2_with fail
   refine (fixCheck_any P _).mono ?_; rw [fixE_good HP.out]; rintro e w3 ⟨rfl, hb3⟩; have HB3 := lh (hbx.out.trans (hb3.mono hbx.out.size)); have HL3 := lh (HL.out.keep HB3.out); have hb4 := hbk.out.below hb3; have c0 := hb4.cell 0; simp only [List.getElem?_toArray, List.getElem?_cons_zero] at c0; obtain ⟨gp, hgp⟩ : ∃ g, g = wr.heap.size := ⟨_, rfl⟩; rw [<- hgp] at c0 ⊢; clear hb3 hb4 hbx hbk hgp h0 h1 h2 h3 h4 HLr; rcases Nat.eq_zero_or_pos j with h0 | h0
   ·subst h0; go_wp2
    go_region
    go_wp2
    go_roundw
    case rel => exact ⟨1, by omega, by go_num, HB3.out.drew⟩
    case measure => simp [intOf]; omega
   ·obtain ⟨q, rfl⟩ : ∃ q, j = q + 1 := ⟨j - 1, by omega⟩; have hc := (HL3.out.2 q (by omega)).1; have ht := HGd.out.up q (q + 1) (by omega) (by rw [HN.out]; exact hlt); rw [<- HPE.out] at ht; have hle : decide (P.t <= (Bell.fxAt l q).t) = false := decide_eq_false (by omega); obtain ⟨Q, hQ⟩ : ∃ Q, Q = Bell.fxAt l q := ⟨_, rfl⟩; rw [<- hQ] at hc hle; clear hQ ht; go_wp2
    go_region
    go_wp2
    go_roundw
    case rel => exact ⟨q + 1 + 1, by omega, by go_num, HB3.out.drew⟩
    case measure => simp [intOf]; omega
  ·obtain rfl : j = n := by omega
   go_wp2_with fail
   refine (checkLasting_ok b off j c l wr HLr.out HGd.out).mono ?_; rintro e w2 ⟨rfl, hb2⟩; have HB2 := lh (hb.out.trans (hb2.mono hb.out.size)); clear hb2; go_wp2; go_ret; exact ⟨rfl, HB2.out⟩
set_option maxHeartbeats 2000000 in
set_option maxRecDepth 100000 in
theorem At_ok (b off n c : Nat) (l : List Bell.Fx) (k : Int) (w : World) (hl : FixesAt w b off n l) (hg : Bell.GoodTr l) (h1 : (Bell.fxAt l 0).t <= k) (h2 : k < (Bell.fxAt l (l.length - 1)).t) :
  Calls Tryz.prog 35 #[.slice (some ⟨b, off, none⟩) n c, .int .i64 k] w fun e w' => e = .returned (.tuple #[.agg (stV (Bell.stAt l k)), .int .i64 0]) /\ Below w.heap.size w w' := by
 have hn := hl.1; have n1 := hg.lo; have n2 := hg.hi; obtain ⟨m, rfl⟩ : ∃ m, n = m + 1 := ⟨n - 1, by omega⟩; have HS := lh (fun W (hb : Below w.heap.size w W) => state_any b off (m + 1) c l k W (hl.keep hb) hg h1 h2); have HC := lh (fun W (hb : Below w.heap.size w W) => CheckTrack_ok b off (m + 1) c l W (hl.keep hb) hg); have HE := lh (fun W (hb : Below w.heap.size w W) => last_any b off m c l W (hl.keep hb) (by omega)); have H0 := lh (fun W (hb : Below w.heap.size w W) => ((hl.keep hb).2 0 (by omega)).1); rw [hn, Nat.add_sub_cancel] at h2; obtain ⟨A, hA⟩ : ∃ A, A = Bell.fxAt l 0 := ⟨_, rfl⟩; obtain ⟨B, hB⟩ : ∃ B, B = Bell.fxAt l m := ⟨_, rfl⟩; obtain ⟨S, hS⟩ : ∃ S, S = Bell.stAt l k := ⟨_, rfl⟩; rw [<- hA] at h1 H0; rw [<- hB] at h2 HE; rw [<- hS] at HS ⊢; have hd1 : decide (k < A.t) = false := decide_eq_false (by omega); have hd2 : decide (B.t <= k) = false := decide_eq_false (by omega)
 have hfl := fix_tick B.t B.x B.y B.z B.p; have hm : 1 <= m := by omega
 clear hl hg h1 h2 hn n1 n2 hA hB hS
 go_enter Tryz.func35, Tryz.ntmps35
 go_upto_region 1 with fail
 obtain ⟨w1, hw1⟩ : ∃ X, X = w.alloc (.cells #[.int .i64 0, .int .i64 0, .int .i64 0, .int .i64 0, .int .i64 0, .int .i64 0] 46) := ⟨_, rfl⟩; rw [<- hw1]; have HZ : Hid (Blk w1 w.heap.size 46 #[.int .i64 0, .int .i64 0, .int .i64 0, .int .i64 0, .int .i64 0, .int .i64 0]) := by show Blk _ _ _ _; rw [hw1]; exact Blk.new _ _ _
 have HB : Hid (Below w.heap.size w w1) := by show Below _ _ _; rw [hw1]; exact (Below.refl _ _).alloc (Nat.le_refl _) _
 obtain ⟨gz, hgz⟩ : ∃ g, g = w.heap.size := ⟨_, rfl⟩; rw [<- hgz] at HZ ⊢; have HG := lh hgz; clear hw1 hgz
 go_wp2_with fail
 refine (HC.out w1 HB.out).mono ?_; rintro e w2 ⟨rfl, hb2⟩; have HZ2 := lh (HZ.out.below hb2); have HB2 := lh (HB.out.trans (hb2.mono HB.out.size)); clear hb2 HZ HB HC; have c0 := H0.out w2 HB2.out; simp only [Nat.zero_mul, Nat.add_zero] at c0
 go_wp2_with fail
 refine (HE.out w2 HB2.out).mono ?_; rintro e w3 ⟨rfl, hb3⟩; have HZ3 := lh (HZ2.out.below hb3); have HB3 := lh (HB2.out.trans (hb3.mono HB2.out.size)); clear hb3 HZ2 HB2 HE c0 H0; simp only [fxV]
 go_wp2_with fail
 refine (HS.out w3 HB3.out).mono ?_; rintro e w4 ⟨rfl, hb4⟩; have HZ4 := lh (HZ3.out.below hb4); have HB4 := lh (HB3.out.trans (hb4.mono HB3.out.size)); clear hb4 HZ3 HB3 HS
 go_wp2_with (refine wpList_store_row rfl 46 _ _ rfl gz (stV S) rfl rfl 46 _ HZ4.out (by kernel_rfl) rfl (by simp [Value.oneCell', stV]) ?_)
 have hlv := (HZ4.out.setRow (stV S)).lv Tryz.prog (T := 46) Tryz.underlying46 rfl (by kernel_rfl); refine bodyPost_ret (v := .tuple #[.agg (stV S), .int .i64 0]) (by simp [results, Tryz.results35, asAddr, hlv]) rfl ?_; exact ⟨rfl, HB4.out.setRow' (by rw [HG.out]; exact Nat.le_refl _) _⟩
def tyV (nm : ByteArray) (sa : Option Addr) (sn sc : Nat) (T : Bell.Ty) (qa : Option Addr) (qn qc : Nat) (ga : Option Addr) (gn gc : Nat) : Array Value :=
 #[.string nm, .slice sa sn sc, .int .i64 (T.direct.getD 0 0), .int .i64 (T.direct.getD 1 0), .int .i64 (T.direct.getD 2 0), .int .i64 (T.direct.getD 3 0), .int .i64 (T.direct.getD 4 0), .int .i64 (T.direct.getD 5 0), .int .i64 (T.direct.getD 6 0), .int .i64 (T.direct.getD 7 0),
   .int .i64 T.side, .slice qa qn qc, .slice ga gn gc]
def SetsAt (w : World) (b off n : Nat) (s : Bell.Sets) : Prop := s.length = n /\ ∀ k, k < n -> ∃ ea en ec, w.cell? ⟨b, off + k * 2, none⟩ = some (.int .i64 (Bell.ePow s k)) /\ w.cell? ⟨b, off + k * 2 + 1, none⟩ = some (.slice ea en ec) /\ IntsAt w ea en ((s.getD k (0, [])).2)
structure TyAt (w : World) (cs : Array Value) (nm : ByteArray) (sh : List Int) (T : Bell.Ty) (sa : Option Addr) (sn sc qb qo qn qc gb go gn gc : Nat) : Prop where
 cells : cs = tyV nm sa sn sc T (some ⟨qb, qo, none⟩) qn qc (some ⟨gb, go, none⟩) gn gc
 shares : IntsAt w sa sn sh
 squares : IntsAt w (some ⟨qb, qo, none⟩) qn T.squares
 sets : SetsAt w gb go gn T.sets
theorem SetsAt.keep {w w' : World} {b off n : Nat} {s : Bell.Sets} (h : SetsAt w b off n s) (hb : Below w.heap.size w w') : SetsAt w' b off n s := by
 refine ⟨h.1, fun k hk => ?_⟩; obtain ⟨ea, en, ec, h1, h2, h3⟩ := h.2 k hk
 have kp : ∀ {j : Nat} {v : Value}, w.cell? ⟨b, j, none⟩ = some v -> w'.cell? ⟨b, j, none⟩ = some v := fun {j v} hc => by
  rw [hb.cell (p := ⟨b, j, none⟩) (World.block_lt_of_cell? _ _ hc)]; exact hc
 exact ⟨ea, en, ec, kp h1, kp h2, h3.keep hb⟩
theorem TyAt.keep {w w' : World} {cs : Array Value} {nm : ByteArray} {sh : List Int} {T : Bell.Ty} {sa : Option Addr} {sn sc qb qo qn qc gb go gn gc : Nat} (h : TyAt w cs nm sh T sa sn sc qb qo qn qc gb go gn gc) (hb : Below w.heap.size w w') : TyAt w' cs nm sh T sa sn sc qb qo qn qc gb go gn gc :=
 ⟨h.cells, h.shares.keep hb, h.squares.keep hb, h.sets.keep hb⟩
structure GoodT (sh : List Int) (T : Bell.Ty) : Prop where
 dl : T.direct.length = 8
 ok : Bell.tyE 0 sh T = 0
theorem GoodT.ty {sh : List Int} {T : Bell.Ty} (h : GoodT sh T) : Bell.GoodTy T := Bell.good_of h.dl h.ok
theorem GoodT.sq {sh : List Int} {T : Bell.Ty} (h : GoodT sh T) : Bell.GoodSq T.squares := by
 have h1 := h.ok; unfold Bell.tyE at h1; rw [Bell.thenE_zero, Bell.firstE_zero] at h1; exact Bell.squares_of (h1.1 (Bell.sqE T.squares) (by simp))
theorem GoodT.len {sh : List Int} {T : Bell.Ty} (h : GoodT sh T) {k : Nat} (hk : k < T.sets.length) : ((T.sets.getD k (0, [])).2).length = T.squares.length := by
 have h1 := h.ok; unfold Bell.tyE at h1; rw [Bell.thenE_zero] at h1; exact (Bell.setsE_zero h1.2).2.1 k hk
theorem GoodT.pow {sh : List Int} {T : Bell.Ty} (h : GoodT sh T) {k : Nat} (hk : k < T.sets.length) : 1 <= Bell.ePow T.sets k /\ Bell.ePow T.sets k <= 100 := by
 have h1 := h.ok; unfold Bell.tyE at h1; rw [Bell.thenE_zero] at h1; exact ((Bell.setsE_zero h1.2).1 k hk).2
theorem GoodT.cnt {sh : List Int} {T : Bell.Ty} (h : GoodT sh T) : (0 < T.sets.length /\ T.sets.length <= 6) /\ (0 < T.squares.length /\ T.squares.length <= 8) := by
 have h1 := h.ok; unfold Bell.tyE at h1; rw [Bell.thenE_zero, Bell.firstE_zero] at h1; have a4 := Bell.cntE_zero.1 (h1.1 (Bell.cntE T.sets.length 6) (by simp)); have a3 := h1.1 (Bell.sqE T.squares) (by simp); unfold Bell.sqE at a3; rw [Bell.thenE_zero, Bell.firstE_zero] at a3; exact ⟨a4, Bell.cntE_zero.1 (a3.1 (Bell.cntE T.squares.length 8) (by simp))⟩
/-! The binary search for a closure that captures two variables. -/
set_option maxHeartbeats 1000000 in
set_option maxRecDepth 100000 in
theorem search2_any (F : FuncId) (c1 c2 : Value) (p : Nat -> Bool) (n : Nat) (w : World) (hn : n <= 1000000)
  (hE : ∀ (args : Array Value) (W : World), (callFunc F args).run Tryz.prog W = .ok (.enter F args) W)
  (hF : ∀ (k q : Nat), k < n -> Calls Tryz.prog F #[.int .i64 k, c1, c2] (w.drewN q) fun e w' => e = .returned (.bool (p k)) /\ ∃ q', w' = w.drewN q') :
  Calls Tryz.prog 229 #[.int .i64 n, .func (.func F) #[] #[c1, c2]] w fun e w' => ∃ r : Nat, e = .returned (.int .i64 r) /\ r <= n /\ (0 < r -> p (r - 1) = false) /\ (r < n -> p r = true) /\ ∃ q, w' = w.drewN q := by
 have HF := lh hF; clear hF
 go_enter Tryz.func229, Tryz.ntmps229
 go_wp2
 go_loopw [5, 6, 7] (fun i j _ wr => ∃ a b : Nat, i = .int .i64 a /\ j = .int .i64 b /\ a <= b /\ b <= n /\ Hid (0 < a -> p (a - 1) = false) /\ Hid (b < n -> p b = true) /\ ∃ q, wr = w.drewN q) (fun i j _ _ => (intOf j - intOf i).toNat)
 case atStart => exact ⟨0, n, rfl, rfl, Nat.zero_le _, Nat.le_refl _, (fun h => by omega), (fun h => by omega), 0, rfl⟩
 case round =>
  obtain ⟨a, b, rfl, rfl, hab, hbn, h1, h2, q, rfl⟩ := hrel
  by_cases hlt : a < b
  ·go_wp2_with fail
   obtain ⟨m, hm⟩ : ∃ m : Nat, ((a : Int) + (b : Int)) / 2 = (m : Int) := ⟨(a + b) / 2, by omega⟩; have m1 : a <= m := by omega
   have m2 : m < b := by omega
   rw [hm]; clear hm; refine (HF.out m q (by omega)).mono ?_; rintro e w' ⟨rfl, q', rfl⟩; obtain ⟨v, hv⟩ : ∃ v, v = p m := ⟨_, rfl⟩; rw [<- hv]; have HV := lh hv; clear hv
   cases v
   ·go_wp2
    go_roundw
    case rel => exact ⟨m + 1, b, by go_num, rfl, by omega, hbn, (fun _ => by rw [Nat.add_sub_cancel]; exact HV.out.symm), h2, q', rfl⟩
    case measure => simp [intOf]; omega
   ·go_wp2
    go_roundw
    case rel => exact ⟨a, m, rfl, rfl, by omega, by omega, h1, (fun _ => HV.out.symm), q', rfl⟩
    case measure => simp [intOf]; omega
  ·go_wp2
   go_ret
   obtain rfl : a = b := by omega
   exact ⟨a, rfl, hbn, h1.out, h2.out, q, rfl⟩
theorem enters_searchInts1 (args : Array Value) (W : World) : (callFunc 230 args).run Tryz.prog W = .ok (.enter 230 args) W := by kernel_rfl
theorem searchInts1_any (k : Nat) (z x : Int) (b off n c g1 g2 : Nat) (w : World) (hk : k < n) (h1 : w.cell? ⟨g1, 0, none⟩ = some (.slice (some ⟨b, off, none⟩) n c)) (h2 : w.cell? ⟨g2, 0, none⟩ = some (.int .i64 x)) (h3 : w.cell? ⟨b, off + k, none⟩ = some (.int .i64 z)) :
  Calls Tryz.prog 230 #[.int .i64 k, .pointer (some ⟨g1, 0, none⟩), .pointer (some ⟨g2, 0, none⟩)] w fun e w' => e = .returned (.bool (decide (x <= z))) /\ ∃ q, w' = w.drewN q := by
 obtain ⟨v, hv⟩ : ∃ v, v = decide (x <= z) := ⟨_, rfl⟩; have HV := lh hv; clear hv
 go_enter Tryz.func230, Tryz.ntmps230
 go_wp2
 go_quiet (fail)
 go_wp2
 go_ret
 exact ⟨rfl, _, rfl⟩
theorem reach_of {l : List Int} (g : Bell.GoodSq l) {q : Int} {r : Nat} (hr : r <= l.length) (h1 : 0 < r -> decide (q + 1 <= l.getD (r - 1) 0) = false) (h2 : r < l.length -> decide (q + 1 <= l.getD r 0) = true) (hq : 0 <= q) :
  1 <= r /\ r - 1 = Bell.reachOf l q := by
 have e : l.findIdx (fun x => decide (q < x)) = r := by
  rcases Nat.lt_or_ge r l.length with hlt | hge
  ·refine (List.findIdx_eq hlt).2 ⟨?_, fun j hj => ?_⟩
   ·have := of_decide_eq_true (h2 hlt); rw [List.getD_eq_getElem?_getD, List.getElem?_eq_getElem hlt, Option.getD_some] at this; exact decide_eq_true (by omega)
   ·have h3 := of_decide_eq_false (h1 (by omega))
    have h4 : l.getD j 0 <= l.getD (r - 1) 0 := by
     rcases Nat.lt_or_ge j (r - 1) with h | h
     ·exact Int.le_of_lt (g.up j (r - 1) h (by omega))
     ·rw [show j = r - 1 by omega]; exact Int.le_refl _
    have e1 : l.getD j 0 = l[j] := by rw [List.getD_eq_getElem?_getD, List.getElem?_eq_getElem (by omega), Option.getD_some]
    rw [e1] at h4; exact decide_eq_false (by omega)
  ·obtain rfl : r = l.length := by omega
   refine List.findIdx_eq_length.2 fun x hx => ?_
   obtain ⟨j, hj, rfl⟩ := List.getElem_of_mem hx; have h3 := of_decide_eq_false (h1 (by omega))
   have h4 : l.getD j 0 <= l.getD (l.length - 1) 0 := by
    rcases Nat.lt_or_ge j (l.length - 1) with h | h
    ·exact Int.le_of_lt (g.up j (l.length - 1) h (by omega))
    ·rw [show j = l.length - 1 by omega]; exact Int.le_refl _
   have e1 : l.getD j 0 = l[j] := by rw [List.getD_eq_getElem?_getD, List.getElem?_eq_getElem (by omega), Option.getD_some]
   rw [e1] at h4; exact decide_eq_false (by omega)
 have h0 : 1 <= r := by
  rcases Nat.eq_zero_or_pos r with h | h
  ·subst h; have := of_decide_eq_true (h2 g.some); rw [g.zero] at this
   omega
  ·exact h
 exact ⟨h0, by unfold Bell.reachOf; rw [e]⟩
set_option maxHeartbeats 1000000 in
set_option maxRecDepth 100000 in
theorem searchInts_any (b off n c : Nat) (l : List Int) (q : Int) (w : World) (hl : IntsAt w (some ⟨b, off, none⟩) n l) (hn : n <= 8) (g : Bell.GoodSq l) (hq : 0 <= q) (hq2 : q <= 1000000000000) :
  Calls Tryz.prog 210 #[.slice (some ⟨b, off, none⟩) n c, .int .i64 (q + 1)] w fun e w' => e = .returned (.int .i64 ((Bell.reachOf l q : Nat) + 1 : Int)) /\ Below w.heap.size w w' := by
 have hL := lh hl.1
 have hz : ∀ i, i < n -> w.cell? ⟨b, off + i, none⟩ = some (.int .i64 (l.getD i 0)) := fun i hi => by
  obtain ⟨b', off', he, hc⟩ := hl.2 (by omega); have he := Option.some.inj he
  injection he with e1 e2
  subst e1; subst e2; exact hc i hi
 have HZ := lh hz; have HG := lh g; clear hl hz g
 go_enter Tryz.func210, Tryz.ntmps210
 go_wp2_with fail
 obtain ⟨w1, hw1⟩ : ∃ X, X = (w.alloc (.cells #[.slice (some ⟨b, off, none⟩) n c] 22)).alloc (.cells #[.int .i64 (q + 1)] 3) := ⟨_, rfl⟩; rw [<- hw1]; have B1 : Blk w1 w.heap.size 22 #[.slice (some ⟨b, off, none⟩) n c] := by rw [hw1]; exact (Blk.new _ _ _).alloc _
 have B2 : Blk w1 (w.heap.size + 1) 3 #[.int .i64 (q + 1)] := by rw [hw1]; exact Blk.at_size _ _ (by simp)
 have hb : Below w.heap.size w w1 := by rw [hw1]; exact ((Below.refl _ _).alloc (Nat.le_refl _) _).alloc (by simp) _
 have HB := lh hb
 have hz1 : ∀ i, i < n -> w1.cell? ⟨b, off + i, none⟩ = some (.int .i64 (l.getD i 0)) := fun i hi => by
  rw [hb.cell (p := ⟨b, off + i, none⟩) (World.block_lt_of_cell? _ _ (HZ.out i hi))]; exact HZ.out i hi
 refine (search2_any 230 (.pointer (some ⟨w.heap.size, 0, none⟩)) (.pointer (some ⟨w.heap.size + 1, 0, none⟩)) (fun k => decide (q + 1 <= l.getD k 0)) n w1 (by omega) enters_searchInts1
  (fun k d hk => (searchInts1_any k (l.getD k 0) (q + 1) b off n c w.heap.size (w.heap.size + 1) (w1.drewN d) hk (B1.drewN d |>.cell 0) (B2.drewN d |>.cell 0) (hz1 k hk)).mono (fun e w' ⟨h1, q', h2⟩ => ⟨h1, d + q', by rw [h2, World.drewN_drewN]⟩))).mono ?_
 rintro e w2 ⟨r, rfl, hr, h1, h2, dq, rfl⟩; obtain ⟨k1, k2⟩ := reach_of HG.out (q := q) (r := r) (by rw [hL.out]; exact hr) h1 (by rw [hL.out]; exact h2) hq; have HB3 : Hid (Below w.heap.size w (w1.drewN dq)) := ⟨HB.out.os, HB.out.tape, HB.out.output, HB.out.size, HB.out.block⟩; have hv : Hid ((r : Int) = (Bell.reachOf l q : Nat) + 1) := by show _ = _; rw [<- k2]; omega
 clear h1 h2 hz1 hb B1 B2 hw1 k1 k2; go_wp2; go_ret; exact ⟨ret_int hv.out, HB3.out⟩
end Go.Proofs.YtmafmebcgmegeaaGreatDoor
