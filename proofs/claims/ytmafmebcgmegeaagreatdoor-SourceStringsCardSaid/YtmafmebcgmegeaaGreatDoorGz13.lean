/- Part. -/
import Derived.Test.YtmafmebcgmegeaaGreatDoorGz1
import Derived.Test.YtmafmebcgmegeaaGreatDoorGz12
import Derived.Test.YtmafmebcgmegeaaGreatDoorGz4
import Derived.BigQuiet
namespace Go.Proofs.YtmafmebcgmegeaaGreatDoor
open Go.RowKit Go.Sort
theorem seg_in {T : Bell.Ty} (g : Bell.GoodTy T) (A B : Bell.Fx) (r : Bell.Pl) (ht : A.t < B.t) (ht2 : B.t - A.t <= 1000) : (0 <= Bell.lowOf T A B r /\ Bell.lowOf T A B r <= 200000000000) /\ (0 <= Bell.highOf T A B r /\ Bell.highOf T A B r <= 200000000001) := by
 have dl := dLow_in g; have dh := dHigh_in g; have q1 := Bell.emis_range g.sets (r := Bell.reachOf T.squares (Bell.sqFar A B r)) (Bell.reach_lt g.sq) (min A.p B.p); have q2 := Bell.emis_range g.sets (r := Bell.reachOf T.squares (Bell.sqNear A B r)) (Bell.reach_lt g.sq) (max A.p B.p); have s0 := g.side0; have s1 := g.side1; unfold Bell.lowOf Bell.highOf Bell.leastOf Bell.mostOf; obtain ⟨E1, hE1⟩ : ∃ e, e = Bell.emis T.sets (Bell.reachOf T.squares (Bell.sqFar A B r)) (min A.p B.p) := ⟨_, rfl⟩; obtain ⟨E2, hE2⟩ : ∃ e, e = Bell.emis T.sets (Bell.reachOf T.squares (Bell.sqNear A B r)) (max A.p B.p) := ⟨_, rfl⟩; obtain ⟨tk, htk⟩ : ∃ t, t = B.t - A.t := ⟨_, rfl⟩; rw [<- hE1] at q1 ⊢; rw [<- hE2] at q2 ⊢; rw [<- htk] at ht2 ⊢; have k1 := mul_in (a := E1) (b := Bell.dLow T.direct) (m := 100000000) (n := 2000) (by omega) (by omega) (by omega) (by omega); have k10 : 0 <= E1 * Bell.dLow T.direct := Int.mul_nonneg q1.1 dl.1
 have k2 := mul_in (a := E1 * Bell.dLow T.direct) (b := T.side) (m := 200000000000) (n := 1000) (by omega) (by omega) (by omega) (by omega); have k20 : 0 <= E1 * Bell.dLow T.direct * T.side := Int.mul_nonneg k10 s0; have k3 := mul_in (a := E2) (b := Bell.dHigh T.direct) (m := 100000000) (n := 2000) (by omega) (by omega) (by omega) (by omega); have k30 : 0 <= E2 * Bell.dHigh T.direct := Int.mul_nonneg q2.1 dh.1; obtain ⟨LE, hLE⟩ : ∃ x, x = E1 * Bell.dLow T.direct * T.side / 1000000 := ⟨_, rfl⟩; obtain ⟨MO, hMO⟩ : ∃ x, x = E2 * Bell.dHigh T.direct := ⟨_, rfl⟩; rw [<- hLE]; rw [<- hMO] at k3 k30 ⊢; have l1 : 0 <= LE /\ LE <= 200000000 := by omega
 have k4 := mul_in (a := tk) (b := LE) (m := 1000) (n := 200000000) (by omega) (by omega) (by omega) (by omega); have k40 : 0 <= tk * LE := Int.mul_nonneg (by omega) (by omega); have k5 := mul_in (a := tk) (b := MO) (m := 1000) (n := 200000000000) (by omega) (by omega) (by omega) (by omega); have k50 : 0 <= tk * MO := Int.mul_nonneg (by omega) (by omega)
 omega
theorem enc_in {T : Bell.Ty} (g : Bell.GoodTy T) {l : List Bell.Fx} (hg : Bell.GoodTr l) (r : Bell.Pl) (n : Nat) (hn : n < l.length) : (0 <= Bell.encLow T l r n /\ Bell.encLow T l r n <= 200000000000 * n) /\ (0 <= Bell.encHigh T l r n /\ Bell.encHigh T l r n <= 200000000001 * n) := by
 induction n with
 | zero => simp [Bell.encLow, Bell.encHigh]
 | succ n ih =>
   have h1 := ih (by omega); have ht := hg.up n (n + 1) (by omega) hn; have ha := hg.up
   have h0 : (Bell.fxAt l 0).t <= (Bell.fxAt l n).t := by
    rcases Nat.eq_zero_or_pos n with h | h
    ·subst h; exact Int.le_refl _
    ·exact Int.le_of_lt (ha 0 n h (by omega))
   have hL : (Bell.fxAt l (n + 1)).t <= (Bell.fxAt l (l.length - 1)).t := by
    rcases Nat.lt_or_ge (n + 1) (l.length - 1) with h | h
    ·exact Int.le_of_lt (ha (n + 1) (l.length - 1) h (by omega))
    ·rw [show n + 1 = l.length - 1 by omega]; exact Int.le_refl _
   have h2 := seg_in g (Bell.fxAt l n) (Bell.fxAt l (n + 1)) r ht (by have := hg.last; omega); unfold Bell.encLow Bell.encHigh
   omega
attribute [local go_sem] growsTo growUpon
set_option maxHeartbeats 4000000 in
set_option maxRecDepth 100000 in
theorem Enclosed_ok {cs : Array Value} {nm : ByteArray} {sh : List Int} {T : Bell.Ty} {sa : Option Addr} {sn sc qb qo qn qc gb go gn gc : Nat} (b off N c : Nat) (l : List Bell.Fx) (r : Bell.Pl) (w : World) (hT : TyOk w cs nm sh T sa sn sc qb qo qn qc gb go gn gc)
  (hl : FixesAt w b off N l) (hg : Bell.GoodTr l) (hr : GoodPl r) (hcap : N <= c) (hc2 : c <= 9223372036854775807) :
  Calls Tryz.prog 57 #[.agg cs, .slice (some ⟨b, off, none⟩) N c, .agg (plV r)] w fun e w' => e = .returned (.tuple #[.agg #[.int .i64 (Bell.encLow T l r (l.length - 1)), .int .i64 (Bell.encHigh T l r (l.length - 1))], .int .i64 0]) /\ Below w.heap.size w w' := by
 have HO := lh hT; have HL := lh hl; have HG := lh hg; have HR := lh hr; have hn := hl.1; have g1 := hg.lo; have g2 := hg.hi; obtain ⟨m, rfl⟩ : ∃ m, N = m + 1 := ⟨N - 1, by omega⟩; have hm1 : 1 <= m := by omega
 have hm2 : m <= 15 := by omega
 have hlm : Hid (l.length = m + 1) := hn; rw [show l.length - 1 = m by omega]; have HC := lh (fun W (hb : Below w.heap.size w W) => CheckTrack_ok b off (m + 1) c l W (hl.keep hb) hg); have HPC := lh (fun W => checkPlace_any r.x r.y r.z W); rw [plE_good hr] at HPC
 have hsl : ∀ W, (Instr.slice 67 (.slice (some ⟨b, off, none⟩) (m + 1) c) (some (.int .i64 1)) none none).run Tryz.prog W = .ok (.slice (some ⟨b, off + 5, none⟩) m (c - 1)) W := fun W => by
  rw [run_slice_l W _ _ _ _ (by kernel_rfl) .i64 _ (by omega) (by omega), show Tryz.prog.elem 67 = 152 by kernel_rfl, show (Go.sizeOf 152).run Tryz.prog W = .ok 5 W by kernel_rfl]; have h1 : ¬ c = 1 := by omega
  simp [Result.andThen, sliced, Addr.add, h1]
 have HEN := lh (fun (j : Nat) W (hb : Below w.heap.size w W) (hj : j < m) => enclosed_any (Bell.fxAt l j) (Bell.fxAt l (j + 1)) r W (hT.mem.keep hb) hT.good (hg.pts j (by omega)) (hg.pts (j + 1) (by omega)) hr (hg.up j (j + 1) (by omega) (by omega)) (by
  have h0 : (Bell.fxAt l 0).t <= (Bell.fxAt l j).t := by
   rcases Nat.eq_zero_or_pos j with h | h
   ·subst h; exact Int.le_refl _
   ·exact Int.le_of_lt (hg.up 0 j h (by omega))
  have hL : (Bell.fxAt l (j + 1)).t <= (Bell.fxAt l (l.length - 1)).t := by
   rcases Nat.lt_or_ge (j + 1) (l.length - 1) with h | h
   ·exact Int.le_of_lt (hg.up (j + 1) (l.length - 1) h (by omega))
   ·rw [show j + 1 = l.length - 1 by omega]; exact Int.le_refl _
  have := hg.last
  omega))
 have HEI := lh (fun n (hn : n < l.length) => enc_in hT.good.ty hg r n hn); obtain ⟨rv, hrv⟩ : ∃ v, v = plV r := ⟨_, rfl⟩; have ir : Hid ((Tryz.prog.info? 28).map (·.size) = some rv.size) := by show _ = _; rw [hrv]; kernel_rfl
 rw [<- hrv] at HEN ⊢; have hrv2 : Hid (#[.int .i64 r.x, .int .i64 r.y, .int .i64 r.z] = rv) := by show _ = _; rw [hrv]; rfl
 rw [hrv2.out] at HPC; have IT := lh HO.out.mem.info; clear hT hl hg hr hrv hrv2 hn g1 g2 hcap hc2
 go_enter Tryz.func57, Tryz.ntmps57
 go_upto_region 1 with fail
 obtain ⟨w1, hw1⟩ : ∃ W, W = ((w.alloc (.cells cs 42)).alloc (.cells rv 28)).alloc (.cells #[.int .i64 0, .int .i64 0] 100) := ⟨_, rfl⟩; rw [<- hw1]; have T1 : Hid (Blk w1 w.heap.size 42 cs) := by show Blk _ _ _ _; rw [hw1]; exact ((Blk.new _ _ _).alloc _).alloc _
 have R1 : Hid (Blk w1 (w.heap.size + 1) 28 rv) := by show Blk _ _ _ _; rw [hw1]; exact (Blk.at_size _ _ (by simp)).alloc _
 have Z1 : Hid (Blk w1 (w.heap.size + 1 + 1) 100 #[.int .i64 0, .int .i64 0]) := by show Blk _ _ _ _; rw [hw1]; exact Blk.at_size _ _ (by simp)
 have HB1 : Hid (Below w.heap.size w w1) := by show Below _ _ _; rw [hw1]; exact (((Below.refl _ _).alloc (Nat.le_refl _) _).alloc (by simp) _).alloc (by simp; omega) _
 obtain ⟨g, hg⟩ : ∃ g, g = w.heap.size := ⟨_, rfl⟩; rw [<- hg] at T1 R1 Z1 ⊢; have HGs := lh hg; clear hw1 hg; have bw : ∀ d os, Below w1.heap.size w1 (grow (redrawn w1 d) os) := fun d os => below_regrown w1 d os
 have kp : ∀ d os, Below w.heap.size w (grow (redrawn w1 d) os) := fun d os => HB1.out.trans ((bw d os).mono HB1.out.size)
 have lT := fun d os => HO.out.mem.lv (T1.out.below (bw d os))
 have lR := fun d os => (R1.out.below (bw d os)).lv Tryz.prog (T := 28) Tryz.underlying28 rfl ir.out
 have c1 := fun d os => Calls.regrown_of (CheckType_ok (grow (redrawn w1 d) os) (HO.out.keep (kp d os)))
 have c2 := fun d os => Calls.regrown_of (HC.out (grow (redrawn w1 d) os) (kp d os))
 have c4 := fun d os => Calls.regrown_of (HPC.out (grow (redrawn w1 d) os))
 refine wp_region_below_tail 6 (by kernel_rfl) (by kernel_rfl) ?_; simp only [List.take_succ_cons, List.take_zero, List.drop_succ_cons, List.drop_zero]; refine quiet_load _ _ rfl (by rfl) _ _ rfl lT ?_
 quiet_step (exact c1 _ _)
 quiet_step (fail)
 quiet_step (exact c2 _ _)
 refine quiet_load _ _ rfl (by rfl) _ _ rfl lR ?_
 quiet_step (exact c4 _ _)
 refine wpQuiet_nil ?_; intro w2 hw'; obtain ⟨⟨dq, osq⟩, hw''⟩ := hw'; have hb2 := bw dq osq; rw [<- hw''] at hb2; have T2 := lh (T1.out.below hb2); have R2 := lh (R1.out.below hb2); have Z2 := lh (Z1.out.below hb2); have HB2 := lh (HB1.out.trans (hb2.mono HB1.out.size)); clear hw'' hb2 lT lR c1 c2 c4 bw kp T1 R1 Z1 HB1 HPC HC
 go_wp2_with fail
 refine (first3 _ _ 0 0 0 _ (by go_simp) (by go_simp) (by go_simp)).mono ?_; rw [show firstE [0, 0, 0] = 0 from rfl]; rintro e w3 ⟨rfl, rfl⟩
 go_upto_region 5 with fail
 obtain ⟨w4, hw4⟩ : ∃ W, W = (w2.alloc (.cells #[.int .i64 0, .int .i64 0, .int .i64 0] 37)).alloc (.cells #[.int .i64 0, .int .i64 0] 100) := ⟨_, rfl⟩; rw [<- hw4]; have hb4 : Below w2.heap.size w2 w4 := by rw [hw4]; exact ((Below.refl _ _).alloc (Nat.le_refl _) _).alloc (by simp) _
 have T4 := lh (T2.out.below hb4); have R4 := lh (R2.out.below hb4); have Z4 := lh (Z2.out.below hb4); have S4 : Hid (Blk w4 (w2.heap.size + 1) 100 #[.int .i64 (Bell.encLow T l r 0), .int .i64 (Bell.encHigh T l r 0)]) := by show Blk _ _ _ _; rw [hw4]; exact Blk.at_size _ _ (by simp)
 have HB4 := lh (HB2.out.trans (hb4.mono HB2.out.size)); have hgq : g + 1 + 1 < w2.heap.size := lt_of_block Z2.out; obtain ⟨gs, hgs⟩ : ∃ x, x = w2.heap.size + 1 := ⟨_, rfl⟩; rw [<- hgs] at S4 ⊢; have HGS : Hid (g + 1 + 1 < gs) := by show _ < _; omega
 clear hw4 hb4 T2 R2 Z2 HB2 hgs hgq; go_wp2
 go_loopw [10, 11, 12, 28] (fun _ _ _ k wr => ∃ j : Nat, j <= m /\ k = .int .i64 j /\ Hid (Blk wr gs 100 #[.int .i64 (Bell.encLow T l r j), .int .i64 (Bell.encHigh T l r j)]) /\ Hid (Blk wr g 42 cs /\ Blk wr (g + 1) 28 rv /\ Blk wr (g + 1 + 1) 100 #[.int .i64 0, .int .i64 0]) /\ Hid (Below w.heap.size w wr)) (fun _ _ _ k _ => m - (intOf k).toNat)
 case atStart => exact ⟨0, Nat.zero_le _, rfl, S4, ⟨T4.out, R4.out, Z4.out⟩, HB4⟩
 case round =>
  obtain ⟨j, hj, rfl, hs, hk3, hb⟩ := hrel
  by_cases hlt : j < m
  ·have hlr := HL.out.keep hb.out; have hA := hlr.2 j (by omega); have hB := hlr.2 (j + 1) (by omega); rw [show off + (j + 1) * 5 = off + 5 + j * 5 by omega] at hB; have hEN := lh (fun W (hbb : Below w.heap.size w W) => HEN.out j W hbb hlt); have e1 := (HEI.out j (by rw [hlm.out]; omega)); have e2 := (HEI.out (j + 1) (by rw [hlm.out]; omega)); have es1 : Hid (Bell.encLow T l r (j + 1) = Bell.encLow T l r j + Bell.lowOf T (Bell.fxAt l j) (Bell.fxAt l (j + 1)) r) := rfl; have es2 : Hid (Bell.encHigh T l r (j + 1) = Bell.encHigh T l r j + Bell.highOf T (Bell.fxAt l j) (Bell.fxAt l (j + 1)) r) := rfl; rw [es1.out, es2.out] at e2; obtain ⟨A, hAe⟩ : ∃ A, A = Bell.fxAt l j := ⟨_, rfl⟩; obtain ⟨B, hBe⟩ : ∃ B, B = Bell.fxAt l (j + 1) := ⟨_, rfl⟩; rw [<- hAe, <- hBe] at hEN e2 es1 es2; rw [<- hAe] at hA; rw [<- hBe] at hB; obtain ⟨lo, hlo⟩ : ∃ x, x = Bell.lowOf T A B r := ⟨_, rfl⟩; obtain ⟨hi, hhi⟩ : ∃ x, x = Bell.highOf T A B r := ⟨_, rfl⟩
   obtain ⟨sl, hsl'⟩ : ∃ x, x = Bell.encLow T l r j := ⟨_, rfl⟩; obtain ⟨sh', hsh⟩ : ∃ x, x = Bell.encHigh T l r j := ⟨_, rfl⟩; rw [<- hlo, <- hhi] at hEN; rw [<- hsl', <- hsh] at hs e1; rw [<- hsl', <- hsh, <- hlo, <- hhi] at e2; rw [<- hsl', <- hlo] at es1; rw [<- hsh, <- hhi] at es2; have b1 : -1000000000000000 <= sl + lo /\ sl + lo <= 1000000000000000 := by omega
   have b2 : -1000000000000000 <= sh' + hi /\ sh' + hi <= 1000000000000000 := by omega
   obtain ⟨b11, b12⟩ := b1; obtain ⟨b21, b22⟩ := b2; have HA := lh hA; obtain ⟨hB0, hB1, hB2, hB3, hB4⟩ := hB; clear hAe hBe hlo hhi hsl' hsh e1 e2 hlr hA
   go_upto_region 8 with fail
   obtain ⟨w5, hw5⟩ : ∃ W, W = wr.alloc (.cells #[.int .i64 B.t, .int .i64 B.x, .int .i64 B.y, .int .i64 B.z, .int .i64 B.p] 152) := ⟨_, rfl⟩; rw [<- hw5]; have hb5 : Below wr.heap.size wr w5 := by rw [hw5]; exact (Below.refl _ _).alloc (Nat.le_refl _) _
   have B5 : Hid (Blk w5 wr.heap.size 152 (fxV B)) := by show Blk _ _ _ _; rw [hw5]; exact Blk.new _ _ _
   have S5 := lh (hs.out.below hb5); have T5 := lh (hk3.out.1.below hb5); have R5 := lh (hk3.out.2.1.below hb5); have Z5 := lh (hk3.out.2.2.below hb5); have A5 := lh (HA.out.keep hb5); have HB5 := lh (hb.out.trans (hb5.mono hb.out.size)); have hgb : gs < wr.heap.size := lt_of_block hs.out; obtain ⟨gb', hgb'⟩ : ∃ x, x = wr.heap.size := ⟨_, rfl⟩; rw [<- hgb'] at B5 hgb ⊢; clear hw5 hb5 hs hk3 hB0 hB1 hB2 hB3 hB4 HA hgb'; have bw : ∀ d os, Below w5.heap.size w5 (grow (redrawn w5 d) os) := fun d os => below_regrown w5 d os
   have lT := fun d os => HO.out.mem.lv (T5.out.below (bw d os))
   have lB := fun d os => (B5.out.below (bw d os)).lv Tryz.prog (T := 152) Tryz.underlying152 rfl (by kernel_rfl)
   have lA := fun d os => (A5.out.keep (bw d os)).lv
   have lR := fun d os => (R5.out.below (bw d os)).lv Tryz.prog (T := 28) Tryz.underlying28 rfl ir.out
   have cE := fun d os => hEN.out (grow (redrawn w5 d) os) (HB5.out.trans ((bw d os).mono HB5.out.size))
   refine wp_region_made 9 [(8, 12, #[.int .i64 0, .int .i64 0], 100)] (by kernel_rfl) (by kernel_rfl) (by kernel_rfl) ?_ ?_
   ·intro x hx o ho ev W; simp only [List.mem_cons, List.not_mem_nil, or_false] at hx; rcases hx with rfl; (obtain rfl := Option.some.inj ho; go_simp)
   simp only [List.take_succ_cons, List.take_zero, List.drop_succ_cons, List.drop_zero]; have hj1 : (j : Int) < (m : Int) + 1 := by omega
   have hj2 : j < m + 1 := by omega
   refine wpG_load _ _ rfl rfl (by rfl) _ _ rfl lT ?_; refine wpG_step (by rfl) (fun K hK => ?_)
   go_simp
   first
    | (refine hK _ ?_; clear hK K)
    | (apply Exists.intro
       refine ⟨fun d os => ?_, hK _ ?_⟩
       (fail)
       clear hK K)
   refine wpG_step (by rfl) (fun K hK => ?_)
   go_simp
   first
    | (refine hK _ ?_; clear hK K)
    | (apply Exists.intro
       refine ⟨fun d os => ?_, hK _ ?_⟩
       (fail)
       clear hK K)
   refine wpG_step (by rfl) (fun K hK => ?_)
   go_simp
   first
    | (refine hK _ ?_; clear hK K)
    | (apply Exists.intro
       refine ⟨fun d os => ?_, hK _ ?_⟩
       (fail)
       clear hK K)
   clear hj1 hj2; refine wpG_load _ _ rfl rfl (by rfl) _ _ rfl lA ?_; refine wpG_load _ _ rfl rfl (by rfl) _ _ rfl lB ?_; refine wpG_load _ _ rfl rfl (by rfl) _ _ rfl lR ?_; refine wpG_step (by rfl) (fun K hK => ?_)
   go_simp
   first
    | (refine hK _ ?_; clear hK K)
    | (apply Exists.intro
       refine ⟨fun d os => ?_, hK _ ?_⟩
       (exact cE _ _)
       clear hK K)
   refine wpG_skip rfl ?_; refine wpG_nil ?_; intro gg w6 hM; obtain ⟨X1, ge1⟩ := hM.blk 8 _ rfl (by omega) (by simp); have hb6 := hM.below; simp only [putAll, alOf, List.find?, Nat.reduceBEq, Option.map, Act.put, List.setIfInBounds_toArray, List.set_cons_zero, List.set_cons_succ]; obtain ⟨gx, hgx⟩ : ∃ g, g = gg 8 := ⟨_, rfl⟩; rw [<- hgx] at X1 ge1 ⊢; have S6 := S5.out.below hb6; have T6 := lh (T5.out.below hb6); have R6 := lh (R5.out.below hb6); have Z6 := lh (Z5.out.below hb6); have HB6 := lh (HB5.out.trans (hb6.mono HB5.out.size)); have hgw := lt_of_block S5.out; have hw := HGs.out; have hgs2 := HGS.out; have hws := HB5.out.size; have hne := lh (show gx ≠ gs /\ gx ≠ g /\ gx ≠ g + 1 /\ gx ≠ g + 1 + 1 /\ w.heap.size <= gx /\ w.heap.size <= gs /\ gs ≠ g /\ gs ≠ g + 1 /\ gs ≠ g + 1 + 1 from by omega); clear lT lA lB lR cE bw hM hgx gg hb6 S5 T5 R5 Z5 A5 B5 HB5 hgb hgw hw hgs2 hws ge1
   refine wpList_store_row rfl 100 _ _ rfl gx #[.int .i64 lo, .int .i64 hi] rfl rfl 100 _ X1 (by kernel_rfl) rfl (by simp [Value.oneCell']) ?_; obtain ⟨w7, hw7⟩ : ∃ W, W = w6.setRow gx #[.int .i64 lo, .int .i64 hi] := ⟨_, rfl⟩; rw [<- hw7]; have X7 : Blk w7 gx 100 #[.int .i64 lo, .int .i64 hi] := by rw [hw7]; exact X1.setRow _
   have S7 : Hid (Blk w7 gs 100 #[.int .i64 sl, .int .i64 sh']) := by show Blk _ _ _ _; rw [hw7]; exact S6.setRow_far (Ne.symm hne.out.1) _
   have T7 : Hid (Blk w7 g 42 cs) := by show Blk _ _ _ _; rw [hw7]; exact T6.out.setRow_far (Ne.symm hne.out.2.1) _
   have R7 : Hid (Blk w7 (g + 1) 28 rv) := by show Blk _ _ _ _; rw [hw7]; exact R6.out.setRow_far (Ne.symm hne.out.2.2.1) _
   have Z7 : Hid (Blk w7 (g + 1 + 1) 100 #[.int .i64 0, .int .i64 0]) := by show Blk _ _ _ _; rw [hw7]; exact Z6.out.setRow_far (Ne.symm hne.out.2.2.2.1) _
   have HB7 : Hid (Below w.heap.size w w7) := by show Below _ _ _; rw [hw7]; exact HB6.out.setRow' hne.out.2.2.2.2.1 _
   have x0 := X7.cell 0; have x1 := X7.cell 1; have s0 := S7.out.cell 0; have s1 := S7.out.cell 1; have f0 := S7.out.frozen 0; have f1 := S7.out.frozen 1; simp only [List.getElem?_toArray, List.getElem?_cons_zero, List.getElem?_cons_succ] at x0 x1 s0 s1; have hxs := hne.out.1; clear hw7 X1 S6 T6 R6 Z6 HB6 X7; simp only [Act.put]; go_wp2; go_roundw
   case rel =>
    refine ⟨j + 1, by omega, by go_num, ?_, ⟨?_, ?_, ?_⟩, ?_⟩
    ·rw [es1.out, es2.out]; exact (S7.out.set_ 0 (.int .i64 (sl + lo))).set_ 1 (.int .i64 (sh' + hi))
    ·exact (T7.out.far (p := ⟨gs, 0, none⟩) (Ne.symm hne.out.2.2.2.2.2.2.1) _).far (p := ⟨gs, 1, none⟩) (Ne.symm hne.out.2.2.2.2.2.2.1) _
    ·exact (R7.out.far (p := ⟨gs, 0, none⟩) (Ne.symm hne.out.2.2.2.2.2.2.2.1) _).far (p := ⟨gs, 1, none⟩) (Ne.symm hne.out.2.2.2.2.2.2.2.1) _
    ·exact (Z7.out.far (p := ⟨gs, 0, none⟩) (Ne.symm hne.out.2.2.2.2.2.2.2.2) _).far (p := ⟨gs, 1, none⟩) (Ne.symm hne.out.2.2.2.2.2.2.2.2) _
    ·exact (HB7.out.setCell (p := ⟨gs, 0, none⟩) hne.out.2.2.2.2.2.1 _).setCell (p := ⟨gs, 1, none⟩) hne.out.2.2.2.2.2.1 _
   case measure => simp [intOf]; omega
  ·obtain rfl : j = m := by omega
   have s0 := hs.out.cell 0; have s1 := hs.out.cell 1; simp only [List.getElem?_toArray, List.getElem?_cons_zero, List.getElem?_cons_succ] at s0 s1; obtain ⟨sl, hsl'⟩ : ∃ x, x = Bell.encLow T l r j := ⟨_, rfl⟩; obtain ⟨sh', hsh⟩ : ∃ x, x = Bell.encHigh T l r j := ⟨_, rfl⟩; rw [<- hsl'] at s0; rw [<- hsh] at s1; have HS1 := lh hsl'; have HS2 := lh hsh; clear hsl' hsh
   go_wp2_with (refine wpList_store_row rfl 100 _ _ rfl (g + 1 + 1) #[.int .i64 sl, .int .i64 sh'] rfl rfl 100 _ hk3.out.2.2 (by kernel_rfl) rfl (by simp [Value.oneCell']) ?_)
   have hlv := (hk3.out.2.2.setRow #[.int .i64 sl, .int .i64 sh']).lv Tryz.prog (T := 100) Tryz.underlying100 rfl (by kernel_rfl); refine bodyPost_ret (v := .tuple #[.agg #[.int .i64 sl, .int .i64 sh'], .int .i64 0]) (by simp [results, Tryz.results57, asAddr, hlv]) rfl ?_; exact ⟨by rw [HS1.out, HS2.out], hb.out.setRow' (by have := HGs.out; omega) _⟩
end Go.Proofs.YtmafmebcgmegeaaGreatDoor
set_option autoImplicit false
set_option relaxedAutoImplicit false
namespace Go.Proofs.Bell
/-! Tracks that are repaired and joined (chapter 2), and totals of flights in any order. -/
def sqFx (a b : Fx) : Int := (b.x - a.x) * (b.x - a.x) + (b.y - a.y) * (b.y - a.y) + (b.z - a.z) * (b.z - a.z)
def flies (v : Int) (a b : Fx) : Prop := sqFx a b <= v * (b.t - a.t) * (v * (b.t - a.t))
instance (v : Int) (a b : Fx) : Decidable (flies v a b) := inferInstanceAs (Decidable (_ <= _))
def keep (v : Int) : Fx -> List Fx -> List Fx
 | _, [] => []
 | a, b :: l => if flies v a b then b :: keep v b l else keep v a l
def repair (v : Int) : List Fx -> List Fx
 | [] => []
 | a :: l => a :: keep v a l
theorem keep_sub (v : Int) (a : Fx) (l : List Fx) : List.Sublist (keep v a l) l := by
 induction l generalizing a with
 | nil => exact List.Sublist.slnil
 | cons b l ih =>
   simp only [keep]
   split
   ·exact (ih b).cons_cons b
   ·exact (ih a).cons b
theorem repair_sub (v : Int) (l : List Fx) : List.Sublist (repair v l) l := by
 cases l with
 | nil => exact List.Sublist.slnil
 | cons a l => exact (keep_sub v a l).cons_cons a
/-! ### Joined tracks -/
end Go.Proofs.Bell
set_option autoImplicit false
set_option relaxedAutoImplicit false
namespace Go.Proofs.Bell
/-! Tracks that are flown along a path (chapter 2). -/
structure Pt where
 x : Int
 y : Int
structure Sp where
 d : Int
 h : Int
 p : Int
def ptAt (l : List Pt) (i : Nat) : Pt := l.getD i ⟨0, 0⟩
def spAt (l : List Sp) (i : Nat) : Sp := l.getD i ⟨0, 0, 0⟩
def absI (a b : Int) : Int := max (a - b) (b - a)
def lenTo (l : List Pt) : Nat -> Int
 | 0 => 0
 | n + 1 => lenTo l n + absI (ptAt l (n + 1)).x (ptAt l n).x + absI (ptAt l (n + 1)).y (ptAt l n).y
theorem lenTo_mono (l : List Pt) {i j : Nat} (h : i <= j) : lenTo l i <= lenTo l j := by
 induction j with
 | zero => have : i = 0 := by omega
           subst this; exact Int.le_refl _
 | succ j ih =>
   rcases Nat.lt_or_ge i (j + 1) with q | q
   ·have := ih (by omega); simp only [lenTo, absI]
    omega
   ·have : i = j + 1 := by omega
    subst this; exact Int.le_refl _
theorem lenTo_nonneg (l : List Pt) (i : Nat) : 0 <= lenTo l i := lenTo_mono l (Nat.zero_le i)
def nextSp (p : List Sp) (d : Int) : Nat := p.findIdx (fun s => decide (d < s.d))
def heightAt (p : List Sp) (d : Int) : Int :=
 if nextSp p d = p.length then (spAt p (p.length - 1)).h
 else betw (spAt p (nextSp p d - 1)).h (spAt p (nextSp p d)).h (d - (spAt p (nextSp p d - 1)).d) ((spAt p (nextSp p d)).d - (spAt p (nextSp p d - 1)).d)
def powerAt (p : List Sp) (d : Int) : Int :=
 if nextSp p d = p.length then (spAt p (p.length - 1)).p
 else betw (spAt p (nextSp p d - 1)).p (spAt p (nextSp p d)).p (d - (spAt p (nextSp p d - 1)).d) ((spAt p (nextSp p d)).d - (spAt p (nextSp p d - 1)).d)
structure GoodSp (p : List Sp) : Prop where
 lo : 2 <= p.length
 zero : (spAt p 0).d = 0
 up : ∀ i j, i < j -> j < p.length -> (spAt p i).d < (spAt p j).d
 h0 : ∀ i, i < p.length -> 0 <= (spAt p i).h /\ (spAt p i).h <= 20000
 p0 : ∀ i, i < p.length -> 1 <= (spAt p i).p /\ (spAt p i).p <= 100
theorem spAt_get {l : List Sp} {j : Nat} (hj : j < l.length) : spAt l j = l[j] := by
 unfold spAt; rw [List.getD_eq_getElem?_getD, List.getElem?_eq_getElem hj]; rfl
theorem next_sp {p : List Sp} (g : GoodSp p) {d : Int} (hd : 0 <= d) (h : nextSp p d ≠ p.length) :
  0 < nextSp p d /\ nextSp p d < p.length /\ (spAt p (nextSp p d - 1)).d <= d /\ d < (spAt p (nextSp p d)).d := by
 have hle := List.findIdx_le_length (xs := p) (p := fun s => decide (d < s.d)); have hl : nextSp p d < p.length := by unfold nextSp at *; omega
 have h3 := of_decide_eq_true (List.findIdx_getElem (p := fun s : Sp => decide (d < s.d)) (xs := p) (w := hl)); have e : spAt p (nextSp p d) = p[nextSp p d] := spAt_get hl; have h4 : d < (spAt p (nextSp p d)).d := by rw [e]; exact h3
 have h0 : 0 < nextSp p d := by
  apply Nat.pos_of_ne_zero
  intro q; rw [q, g.zero] at h4
  omega
 have h5 := List.not_of_lt_findIdx (p := fun s : Sp => decide (d < s.d)) (xs := p) (i := nextSp p d - 1) (by unfold nextSp at *; omega); refine ⟨h0, hl, ?_, h4⟩; rw [spAt_get (by omega)]
 simp at h5
 omega
def flownAt (l : List Pt) (p : List Sp) (speed tick : Int) (i : Nat) : Fx :=
 ⟨tick + (lenTo l i + speed - 1) / speed, (ptAt l i).x, (ptAt l i).y, heightAt p (lenTo l i), powerAt p (lenTo l i)⟩
def flown (l : List Pt) (p : List Sp) (speed tick : Int) : List Fx := (List.range l.length).map (flownAt l p speed tick)
theorem flown_len (l : List Pt) (p : List Sp) (speed tick : Int) : (flown l p speed tick).length = l.length := by simp [flown]
end Go.Proofs.Bell
namespace Go.Proofs.YtmafmebcgmegeaaGreatDoor
open Go.RowKit Go.Sort
theorem srcSpeed_st (x : Int) (w : World) : Calls Tryz.prog 118 #[.int .i64 x] w fun e w' => e = .returned (.int .i64 (withinE x 1 1000)) /\ w' = w := by
 go_enter Tryz.func118, Tryz.ntmps118
 go_wp2_with fail
 refine (within_any _ _ _ _).mono ?_; rintro e w' ⟨rfl, rfl⟩; go_wp2; go_ret; exact ⟨rfl, rfl⟩
theorem srcAlong_st (x : Int) (w : World) : Calls Tryz.prog 183 #[.int .i64 x] w fun e w' => e = .returned (.int .i64 (withinE x 0 400000)) /\ w' = w := by
 go_enter Tryz.func183, Tryz.ntmps183
 go_wp2_with fail
 refine (within_any _ _ _ _).mono ?_; rintro e w' ⟨rfl, rfl⟩; go_wp2; go_ret; exact ⟨rfl, rfl⟩
theorem atMost_pt (A : Option Addr) (n c : Nat) (limit : Int) (w : World) :
  Calls Tryz.prog 214 #[.slice A n c, .int .i64 limit] w fun e w' => e = .returned (.int .i64 (atMostE n limit)) /\ w' = w := by
 by_cases h : limit < (n : Int)
 ·have hr : atMostE n limit = 5 := by simp [atMostE, h]
  rw [hr]; clear hr
  go_enter Tryz.func214, Tryz.ntmps214
  go_wp2
  go_ret
  exact ⟨rfl, rfl⟩
 ·have hr : atMostE n limit = 0 := by simp [atMostE, h]
  rw [hr]; clear hr
  go_enter Tryz.func214, Tryz.ntmps214
  go_wp2
  go_ret
  exact ⟨rfl, rfl⟩
theorem atMost_step (A : Option Addr) (n c : Nat) (limit : Int) (w : World) :
  Calls Tryz.prog 182 #[.slice A n c, .int .i64 limit] w fun e w' => e = .returned (.int .i64 (atMostE n limit)) /\ w' = w := by
 by_cases h : limit < (n : Int)
 ·have hr : atMostE n limit = 5 := by simp [atMostE, h]
  rw [hr]; clear hr
  go_enter Tryz.func182, Tryz.ntmps182
  go_wp2
  go_ret
  exact ⟨rfl, rfl⟩
 ·have hr : atMostE n limit = 0 := by simp [atMostE, h]
  rw [hr]; clear hr
  go_enter Tryz.func182, Tryz.ntmps182
  go_wp2
  go_ret
  exact ⟨rfl, rfl⟩
theorem atMost_flight (A : Option Addr) (n c : Nat) (limit : Int) (w : World) :
  Calls Tryz.prog 217 #[.slice A n c, .int .i64 limit] w fun e w' => e = .returned (.int .i64 (atMostE n limit)) /\ w' = w := by
 by_cases h : limit < (n : Int)
 ·have hr : atMostE n limit = 5 := by simp [atMostE, h]
  rw [hr]; clear hr
  go_enter Tryz.func217, Tryz.ntmps217
  go_wp2
  go_ret
  exact ⟨rfl, rfl⟩
 ·have hr : atMostE n limit = 0 := by simp [atMostE, h]
  rw [hr]; clear hr
  go_enter Tryz.func217, Tryz.ntmps217
  go_wp2
  go_ret
  exact ⟨rfl, rfl⟩
theorem atMost_type (A : Option Addr) (n c : Nat) (limit : Int) (w : World) :
  Calls Tryz.prog 190 #[.slice A n c, .int .i64 limit] w fun e w' => e = .returned (.int .i64 (atMostE n limit)) /\ w' = w := by
 by_cases h : limit < (n : Int)
 ·have hr : atMostE n limit = 5 := by simp [atMostE, h]
  rw [hr]; clear hr
  go_enter Tryz.func190, Tryz.ntmps190
  go_wp2
  go_ret
  exact ⟨rfl, rfl⟩
 ·have hr : atMostE n limit = 0 := by simp [atMostE, h]
  rw [hr]; clear hr
  go_enter Tryz.func190, Tryz.ntmps190
  go_wp2
  go_ret
  exact ⟨rfl, rfl⟩
theorem atMost_fixE (A : Option Addr) (n c : Nat) (limit : Int) (w : World) :
  Calls Tryz.prog 122 #[.slice A n c, .int .i64 limit] w fun e w' => e = .returned (.int .i64 (atMostE n limit)) /\ w' = w := by
 by_cases h : limit < (n : Int)
 ·have hr : atMostE n limit = 5 := by simp [atMostE, h]
  rw [hr]; clear hr
  go_enter Tryz.func122, Tryz.ntmps122
  go_wp2
  go_ret
  exact ⟨rfl, rfl⟩
 ·have hr : atMostE n limit = 0 := by simp [atMostE, h]
  rw [hr]; clear hr
  go_enter Tryz.func122, Tryz.ntmps122
  go_wp2
  go_ret
  exact ⟨rfl, rfl⟩
def lengthE (n : Nat) (limit : Int) : Int := if n < 2 then 16 else atMostE n limit
theorem length_pt (A : Option Addr) (n c : Nat) (limit : Int) (w : World) :
  Calls Tryz.prog 178 #[.slice A n c, .int .i64 limit] w fun e w' => e = .returned (.int .i64 (lengthE n limit)) /\ w' = w := by
 by_cases h : n < 2
 ·have hr : lengthE n limit = 16 := by simp [lengthE, h]
  have h2 : (n : Int) < 2 := by omega
  rw [hr]; clear hr h
  go_enter Tryz.func178, Tryz.ntmps178
  go_wp2
  go_ret
  exact ⟨rfl, rfl⟩
 ·have hr : lengthE n limit = atMostE n limit := by simp [lengthE, h]
  have h2 : ¬ (n : Int) < 2 := by omega
  rw [hr]; clear hr h
  go_enter Tryz.func178, Tryz.ntmps178
  go_wp2_with fail
  refine (atMost_pt A n c limit _).mono ?_; rintro e w' ⟨rfl, rfl⟩; go_wp2; go_ret; exact ⟨rfl, rfl⟩
theorem length_step (A : Option Addr) (n c : Nat) (limit : Int) (w : World) :
  Calls Tryz.prog 132 #[.slice A n c, .int .i64 limit] w fun e w' => e = .returned (.int .i64 (lengthE n limit)) /\ w' = w := by
 by_cases h : n < 2
 ·have hr : lengthE n limit = 16 := by simp [lengthE, h]
  have h2 : (n : Int) < 2 := by omega
  rw [hr]; clear hr h
  go_enter Tryz.func132, Tryz.ntmps132
  go_wp2
  go_ret
  exact ⟨rfl, rfl⟩
 ·have hr : lengthE n limit = atMostE n limit := by simp [lengthE, h]
  have h2 : ¬ (n : Int) < 2 := by omega
  rw [hr]; clear hr h
  go_enter Tryz.func132, Tryz.ntmps132
  go_wp2_with fail
  refine (atMost_step A n c limit _).mono ?_; rintro e w' ⟨rfl, rfl⟩; go_wp2; go_ret; exact ⟨rfl, rfl⟩
theorem length_fix (A : Option Addr) (n c : Nat) (limit : Int) (w : World) :
  Calls Tryz.prog 125 #[.slice A n c, .int .i64 limit] w fun e w' => e = .returned (.int .i64 (lengthE n limit)) /\ w' = w := by
 by_cases h : n < 2
 ·have hr : lengthE n limit = 16 := by simp [lengthE, h]
  have h2 : (n : Int) < 2 := by omega
  rw [hr]; clear hr h
  go_enter Tryz.func125, Tryz.ntmps125
  go_wp2
  go_ret
  exact ⟨rfl, rfl⟩
 ·have hr : lengthE n limit = atMostE n limit := by simp [lengthE, h]
  have h2 : ¬ (n : Int) < 2 := by omega
  rw [hr]; clear hr h
  go_enter Tryz.func125, Tryz.ntmps125
  go_wp2_with fail
  refine (atMost_fixE A n c limit _).mono ?_; rintro e w' ⟨rfl, rfl⟩; go_wp2; go_ret; exact ⟨rfl, rfl⟩
theorem that_any (b : Bool) (x : Int) (w : World) :
  Calls Tryz.prog 193 #[.bool b, .int .i64 x] w fun e w' => e = .returned (.int .i64 (if b then 0 else x)) /\ w' = w := by
 cases b
 ·simp only [Bool.false_eq_true, if_false]
  go_enter Tryz.func193, Tryz.ntmps193
  go_wp2
  go_ret
  exact ⟨rfl, rfl⟩
 ·simp only [if_true]
  go_enter Tryz.func193, Tryz.ntmps193
  go_wp2
  go_ret
  exact ⟨rfl, rfl⟩
theorem isNaN_int (x : Int) (w : World) : Calls Tryz.prog 216 #[.int .i64 x] w fun e w' => e = .returned (.bool false) /\ w' = w := by
 go_enter Tryz.func216, Tryz.ntmps216
 go_wp2
 go_ret
 exact ⟨rfl, rfl⟩
def cmpI (a b : Int) : Int := if a < b then -1 else if b < a then 1 else 0
theorem compare_int (a b : Int) (w : World) : Calls Tryz.prog 189 #[.int .i64 a, .int .i64 b] w fun e w' => e = .returned (.int .i64 (cmpI a b)) /\ w' = w := by
 have HR : Hid (cmpI a b = if a < b then -1 else if b < a then 1 else 0) := rfl; rcases Int.lt_trichotomy a b with h | h | h
 ·have hr : cmpI a b = -1 := by unfold cmpI; rw [if_pos h]
  rw [hr]; clear hr HR
  go_enter Tryz.func189, Tryz.ntmps189
  go_wp2_with fail
  refine (isNaN_int a _).mono ?_; rintro e w1 ⟨rfl, rfl⟩
  go_wp2_with fail
  refine (isNaN_int b _).mono ?_; rintro e w2 ⟨rfl, rfl⟩; go_wp2; go_ret; exact ⟨rfl, rfl⟩
 ·subst h; have hr : cmpI a a = 0 := by unfold cmpI; rw [if_neg (by omega), if_neg (by omega)]
  have h1 : ¬ a < a := by omega
  rw [hr]; clear hr HR
  go_enter Tryz.func189, Tryz.ntmps189
  go_wp2_with fail
  refine (isNaN_int a _).mono ?_; rintro e w1 ⟨rfl, rfl⟩
  go_wp2_with fail
  refine (isNaN_int a _).mono ?_; rintro e w2 ⟨rfl, rfl⟩; go_wp2; go_ret; exact ⟨rfl, rfl⟩
 ·have hr : cmpI a b = 1 := by unfold cmpI; rw [if_neg (by omega), if_pos h]
  have h1 : ¬ a < b := by omega
  rw [hr]; clear hr HR
  go_enter Tryz.func189, Tryz.ntmps189
  go_wp2_with fail
  refine (isNaN_int a _).mono ?_; rintro e w1 ⟨rfl, rfl⟩
  go_wp2_with fail
  refine (isNaN_int b _).mono ?_; rintro e w2 ⟨rfl, rfl⟩; go_wp2; go_ret; exact ⟨rfl, rfl⟩
theorem kind_any (n : Nat) (w : World) : Calls Tryz.prog 148 #[.int .i64 n] w fun e w' => e = .returned (.int .i64 (min n 4 : Nat)) /\ w' = w := by
 rcases Nat.lt_or_ge 4 n with h | h
 ·have hr : (min n 4 : Nat) = 4 := by omega
  have h1 : min (n : Int) 4 = 4 := by omega
  rw [hr]; clear hr
  go_enter Tryz.func148, Tryz.ntmps148
  go_wp2
  go_ret
  exact ⟨ret_int (by omega), rfl⟩
 ·have hr : (min n 4 : Nat) = n := by omega
  have h1 : min (n : Int) 4 = n := by omega
  rw [hr]; clear hr
  go_enter Tryz.func148, Tryz.ntmps148
  go_wp2
  go_ret
  exact ⟨ret_int (by omega), rfl⟩
theorem clip_fix (b off n c : Nat) (w : World) (h : n <= c) (hc : c <= 9223372036854775807) : Calls Tryz.prog 120 #[.slice (some ⟨b, off, none⟩) n c] w fun e w' => e = .returned (.slice (some ⟨b, off, none⟩) n n) /\ w' = w := by
 have h1 : (0 : Int) <= (n : Int) := by omega
 have h2 : (n : Int) <= (c : Int) := by omega
 go_enter Tryz.func120, Tryz.ntmps120
 go_wp2
 go_ret
 exact ⟨rfl, rfl⟩
def stepE (s : Bell.Sp) : Int := firstE [withinE s.d 0 400000, withinE s.h 0 20000, withinE s.p 1 100]
def spV (s : Bell.Sp) : Array Value := #[.int .i64 s.d, .int .i64 s.h, .int .i64 s.p]
set_option maxHeartbeats 2000000 in
set_option maxRecDepth 100000 in
theorem stepCheck_any (s : Bell.Sp) (w : World) :
  Calls Tryz.prog 133 #[.agg (spV s)] w fun e w' => e = .returned (.int .i64 (stepE s)) /\ Below w.heap.size w w' := by
 unfold spV
 go_enter Tryz.func133, Tryz.ntmps133
 go_wp2_with fail
 have HB : Hid (Below w.heap.size w w) := Below.refl _ _; obtain ⟨w0, hw0⟩ : ∃ W, W = (w.alloc (.cells #[.int .i64 s.d, .int .i64 s.h, .int .i64 s.p] 166)) := ⟨_, rfl⟩; rw [<- hw0]; have B : Hid (Blk w0 (w.heap.size) 166 #[.int .i64 s.d, .int .i64 s.h, .int .i64 s.p]) := by show Blk _ _ _ _; rw [hw0]; exact Blk.new _ _ _
 have hb0 : Below w.heap.size w w0 := by rw [hw0]; exact ((Below.refl _ _).alloc (Nat.le_refl _) _)
 obtain ⟨g, hg⟩ : ∃ g, g = w.heap.size := ⟨_, rfl⟩; have HGw0 : Hid (g = w.heap.size) := hg; rw [<- hg] at B
 try rw [<- hg]
 clear hw0 hg; replace HB := lh (HB.out.trans (hb0.mono HB.out.size)); clear hb0; have a0 := fun d os => cell_regrown (B.out.cell 0) d os
 have a1 := fun d os => cell_regrown (B.out.cell 1) d os
 have a2 := fun d os => cell_regrown (B.out.cell 2) d os
 have c0 := fun nd ns => Calls.regrown_of (Calls.grow_same (srcAlong_st s.d (grow (redrawn w0 nd) ns)))
 have c1 := fun nd ns => Calls.regrown_of (Calls.grow_same (srcHeight_st s.h (grow (redrawn w0 nd) ns)))
 have c2 := fun nd ns => Calls.regrown_of (Calls.grow_same (srcPower_st s.p (grow (redrawn w0 nd) ns)))
 refine wp_region_below_tail 9 (by kernel_rfl) (by kernel_rfl) ?_; simp only [List.take_succ_cons, List.take_zero, List.drop_succ_cons, List.drop_zero]
 iterate 2 (quiet_step (fail))
 quiet_step (exact c0 _ _)
 iterate 2 (quiet_step (fail))
 quiet_step (exact c1 _ _)
 iterate 2 (quiet_step (fail))
 quiet_step (exact c2 _ _)
 refine wpQuiet_nil ?_; intro w1 hq1; obtain ⟨⟨dq, osq⟩, hq2⟩ := hq1; have hb1 := below_regrown w0 dq osq; rw [<- hq2] at hb1; clear hq2; replace HB := lh (HB.out.trans (hb1.mono HB.out.size)); clear hb1; clear a0 a1 a2 c0 c1 c2 B
 go_wp2_with fail
 refine (first3 _ _ (withinE s.d 0 400000) (withinE s.h 0 20000) (withinE s.p 1 100) _ (by go_simp) (by go_simp) (by go_simp)).mono ?_; rintro e w2 ⟨rfl, rfl⟩; go_wp2; go_ret; exact ⟨rfl, HB.out.alloc HB.out.size _⟩
theorem refWhen_let (b : Bool) (x : Int) (w : World) :
  Calls Tryz.prog 105 #[.bool b, .int .i64 x] w fun e w' => ∃ a : Int, e = .returned (.int .i64 a) /\ Hid (a = if b then x else 0) /\ w' = w :=
 (refWhen_any b x w).mono fun _ _ h => ⟨_, h.1, rfl, h.2.symm⟩
theorem when_off {b : Bool} {x a : Int} (hx : x ≠ 0) (h : a = if b then x else 0) (h0 : a = 0) : b = false := by
 cases b
 ·rfl
 ·exact absurd (h.symm.trans h0) (by simpa using hx)
theorem firstE3_zero {a b c : Int} (h : firstE [a, b, c] = 0) : a = 0 /\ b = 0 /\ c = 0 := by
 by_cases h1 : a = 0 <;> by_cases h2 : b = 0 <;> by_cases h3 : c = 0 <;> simp_all [firstE]
theorem firstE4_zero {a b c d : Int} (h : firstE [a, b, c, d] = 0) : a = 0 /\ b = 0 /\ c = 0 /\ d = 0 := by
 by_cases h1 : a = 0 <;> by_cases h2 : b = 0 <;> by_cases h3 : c = 0 <;> by_cases h4 : d = 0 <;> simp_all [firstE]
theorem refPower_st (x : Int) (w : World) : Calls Tryz.prog 22 #[.int .i64 x] w fun e w' => e = .returned (.int .i64 (withinE x 1 100)) /\ w' = w := by
 go_enter Tryz.func22, Tryz.ntmps22
 go_wp2_with fail
 refine (refCheckRange_st _ _ _ _).mono ?_; rintro e w' ⟨rfl, rfl⟩; go_wp2; go_ret; exact ⟨rfl, rfl⟩
set_option maxHeartbeats 400000 in
set_option maxRecDepth 100000 in
theorem refRanges_any (A : Option Addr) (n c : Nat) (zs : List Int) (lo hi : Int) (w : World) (hn : n <= 140737488351232) (hz : IntsAt w A n zs) :
  Calls Tryz.prog 102 #[.slice A n c, .int .i64 lo, .int .i64 hi] w fun e w' => e = .returned (.int .i64 (firstInE (fun x => withinE x lo hi) zs)) /\ w' = w := by
 obtain ⟨hl, hc⟩ := hz; have HL := lh hl; have HC := lh hc; clear hl hc
 go_enter Tryz.func102, Tryz.ntmps102
 go_wp2
 go_loop [7, 8] (fun i _ => ∃ k : Nat, k <= n /\ i = .int .i64 k /\ Hid (∀ i, i < k -> withinE (zs.getD i 0) lo hi = 0)) (fun i _ => n - (intOf i).toNat)
 case atStart => exact ⟨0, Nat.zero_le _, rfl, fun i hi => by omega⟩
 case round =>
  obtain ⟨k, hk, rfl, hz⟩ := hrel
  by_cases hlt : k < n
  ·obtain ⟨b, off, rfl, hcc⟩ := HC.out (by omega); obtain ⟨x, hx⟩ : ∃ x, x = zs.getD k 0 := ⟨_, rfl⟩; have h0 := hcc k hlt; clear hcc; rw [<- hx] at h0; have HX := lh hx; clear hx
   go_wp2_with fail
   refine (refCheckRange_st x lo hi _).mono ?_; rintro e w' ⟨rfl, rfl⟩; obtain ⟨y, hy⟩ : ∃ y, y = withinE x lo hi := ⟨_, rfl⟩; rw [<- hy]; have HY := lh hy; clear hy
   by_cases he : y = 0
   ·have h1 : (y != 0) = false := by simp [he]
    have HE := lh he; clear he; go_wp2
    go_round
    case rel =>
     refine ⟨k + 1, by omega, by go_num, fun i hi => ?_⟩
     by_cases hik : i < k
     ·exact hz.out i hik
     ·obtain rfl : i = k := by omega
      rw [<- HX.out, <- HY.out]; exact HE.out
    case measure => simp [intOf]; omega
   ·have h1 : (y != 0) = true := by simp [he]
    have HE := lh he; clear he; go_wp2; go_ret; exact ⟨ret_int (by rw [firstInE_hit (fun x => withinE x lo hi) zs k (by rw [HL.out]; exact hlt) hz.out (by rw [<- HX.out, <- HY.out]; exact HE.out), <- HX.out]; exact HY.out), rfl⟩
  ·go_wp2
   go_ret
   exact ⟨ret_int (firstInE_miss (fun x => withinE x lo hi) zs (fun i hi => hz.out i (by rw [HL.out] at hi; omega))).symm, rfl⟩
theorem firstIn_rng {lo hi : Int} {zs : List Int} (h : firstInE (fun x => withinE x lo hi) zs = 0) : ∀ x, x ∈ zs -> lo <= x /\ x <= hi := fun x hx => by
 obtain ⟨i, hi', rfl⟩ := List.getElem_of_mem hx; have := firstInE_zero h i hi'; rw [List.getD_eq_getElem?_getD, List.getElem?_eq_getElem hi', Option.getD_some] at this; exact withinE_zero this
def TrAt (w : World) (A : Option Addr) (n : Nat) (l : List Bell.Fx) : Prop := l.length = n /\ (0 < n -> ∃ b off, A = some ⟨b, off, none⟩ /\ FixesAt w b off n l)
theorem TrAt.keep {w w' : World} {A : Option Addr} {n : Nat} {l : List Bell.Fx} (h : TrAt w A n l) (hb : Below w.heap.size w w') : TrAt w' A n l :=
 ⟨h.1, fun h0 => by obtain ⟨b, off, e, hf⟩ := h.2 h0; exact ⟨b, off, e, hf.keep hb⟩⟩
theorem refWhen_as {b : Bool} {x a : Int} (w : World) (ha : a = if b then x else 0) :
  Calls Tryz.prog 105 #[.bool b, .int .i64 x] w fun e w' => e = .returned (.int .i64 a) /\ w' = w :=
 (refWhen_any b x w).mono fun _ _ h => ⟨by rw [h.1, ha], h.2.symm⟩
end Go.Proofs.YtmafmebcgmegeaaGreatDoor
