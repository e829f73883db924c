/- Part. -/
import Derived.Test.YtmafmebcgmegeaaGreatDoorGz1
import Derived.Sort.CutIn
import Derived.Test.YtmafmebcgmegeaaGreatDoorGz11
namespace Go.Proofs.YtmafmebcgmegeaaGreatDoor
open Go.RowKit Go.Sort
attribute [local go_sem] Oper.semAt_some
def heardMax {M : Nat} (f : Int -> Int) (a : Int) (pre : List (Fin M)) : Int × Int := pre.foldl (fun p x => if p.1 < f (a + (x.val : Int)) then (f (a + (x.val : Int)), a + (x.val : Int)) else p) (-1, 0)
theorem heardMax_snoc {M : Nat} (f : Int -> Int) (a : Int) (pre : List (Fin M)) (x : Fin M) : heardMax f a (pre ++ [x]) = if (heardMax f a pre).1 < f (a + (x.val : Int)) then (f (a + (x.val : Int)), a + (x.val : Int)) else heardMax f a pre := by
 unfold heardMax; rw [List.foldl_append]; rfl
theorem heardMax_take {M : Nat} (f : Int -> Int) (a : Int) (k : Nat) (hk : k <= M) : heardMax f a ((List.finRange M).take k) = Bell.maxF f a k := by
 induction k with
 | zero => rfl
 | succ k ih => rw [finRange_take (show k < M by omega), heardMax_snoc, ih (by omega)]; rfl
theorem heardMax_all {M : Nat} (f : Int -> Int) (a : Int) : heardMax f a (List.finRange M) = Bell.maxF f a M := by
 have := heardMax_take (M := M) f a M (Nat.le_refl _)
 rwa [List.take_of_length_le (by simp)] at this
theorem foldMax_in {M : Nat} {f : Int -> Int} {a c : Int} (h : ∀ x : Fin M, 0 <= f (a + (x.val : Int)) /\ f (a + (x.val : Int)) <= c) (pre : List (Fin M)) : ∀ p : Int × Int, -1 <= p.1 /\ p.1 <= c ->
  -1 <= (pre.foldl (fun (p : Int × Int) x => if p.1 < f (a + (x.val : Int)) then (f (a + (x.val : Int)), a + (x.val : Int)) else p) p).1 /\ (pre.foldl (fun (p : Int × Int) x => if p.1 < f (a + (x.val : Int)) then (f (a + (x.val : Int)), a + (x.val : Int)) else p) p).1 <= c := by
 induction pre with
 | nil => intro p hp; exact hp
 | cons x l ih =>
   intro p hp; simp only [List.foldl_cons]; refine ih _ ?_; have := h x
   split
   ·simp only; omega
   ·exact hp
theorem heardMax_in {M : Nat} {f : Int -> Int} {a c : Int} (hc : 0 <= c) (h : ∀ x : Fin M, 0 <= f (a + (x.val : Int)) /\ f (a + (x.val : Int)) <= c) (pre : List (Fin M)) : -1 <= (heardMax f a pre).1 /\ (heardMax f a pre).1 <= c :=
 foldMax_in h pre (-1, 0) ⟨by simp, by simp only; omega⟩
theorem wpListIn_load {F : Fence} (hF : Open F) {n : Nat} {P : Program} {ops : Array Oper} {rest : List Oper} {o : Oper} {a : Act} {w : World} {Q : Exit -> Act -> World -> Prop} (hgd : o.guard = none) (ty : TypeId) (x : Operand) (ho : o.op = .load ty x) (p : Addr) (v : Value)
  (hx : a.eval x = .pointer (some p)) (hl : (loadVar ty p).run P w = .ok v w) (h : wpListIn F n P ops Q rest (a.put o.dst v) w) : wpListIn F n P ops Q (o :: rest) a w :=
 wpListIn_plain hgd fun K hK => ⟨fun f _ => hF.fn f, by
  rw [Oper.semAt_eq _ _ _ (by intro c hc; rw [ho] at hc; cases hc)]
  have e : (execOp a.eval o).run P w = .ok (.value v) w := by
   unfold execOp; simp only [ho, hx, Instr.loadAt, Instr.sureAddr, Sem.run_bind, Sem.run_pure, Result.andThen_ok, hl]
  rw [e]; exact hK _ _ h⟩
set_option maxHeartbeats 4000000 in
set_option maxRecDepth 100000 in
theorem Maximum_in {cs : Array Value} {nm : ByteArray} {sh : List Int} {T : Bell.Ty} {sa : Option Addr} {sn sc qb qo qn qc gb go gn gc : Nat} (b off N c : Nat) (l : List Bell.Fx) (f t F U : Int) (M : Nat) (r : Bell.Pl) (w : World) (hT : TyOk w cs nm sh T sa sn sc qb qo qn qc gb go gn gc)
  (hl : FixesAt w b off N l) (hg : Bell.GoodTr l) (hr : GoodPl r) (hf0 : 0 <= f) (hft : f <= t) (ht1 : t <= 100000000) (hF : F = max f (Bell.fxAt l 0).t) (hU : U = min t (Bell.fxAt l (l.length - 1)).t) (hM : M = (U - F).toNat) (hne : 0 < M) :
  CallsIn Fence.wide 4 Tryz.prog 56 #[.agg cs, .slice (some ⟨b, off, none⟩) N c, .agg #[.int .i64 f, .int .i64 t], .agg (plV r)] w fun e w' => e = .returned (.tuple #[.int .i64 (Bell.maxF (Bell.heardAt T l r) F M).1, .int .i64 (Bell.maxF (Bell.heardAt T l r) F M).2, .int .i64 0]) /\ Below w.heap.size w w' := by
 have HO := lh hT; have HL := lh hl; have HG := lh hg; have HR := lh hr; have gp0 := (hg.pts 0 (by have := hg.lo; omega)); have gpl := (hg.pts (l.length - 1) (by have := hg.lo; omega)); have glast := hg.last; have HST := lh (fun W (hb : Below w.heap.size w W) => states_of b off N c l f t W (hl.keep hb) hg); rw [<- hF, <- hU] at HST; have hF1 : (Bell.fxAt l 0).t <= F := by omega
 have hU1 : U <= (Bell.fxAt l (l.length - 1)).t := by omega
 have hb0 := gp0.t0; have hb1 := gpl.t1; have hb2 := gp0.t1; have hb3 := gpl.t0; have hM1 : M <= 1000 := by omega
 have hF2 : F <= 100000000 := by omega
 have hF0 : 0 <= F := by omega
 have hU2 : 0 <= U := by omega
 have HC := lh (fun W (hb : Below w.heap.size w W) => CheckTrack_ok b off N c l W (hl.keep hb) hg); have HTk := lh (fun W => checkTicks_ok f t W hf0 hft ht1); have HPC := lh (fun W => checkPlace_any r.x r.y r.z W); rw [plE_good hr] at HPC; obtain ⟨rv, hrv⟩ : ∃ v, v = plV r := ⟨_, rfl⟩; have ir : Hid ((Tryz.prog.info? 28).map (·.size) = some rv.size) := by show _ = _; rw [hrv]; kernel_rfl
 have IT := lh HO.out.mem.info
 have hgood : Hid (∀ x : Fin M, Bell.GoodSt (Bell.stAt l (F + (x.val : Int)))) := fun x => by
  have := x.isLt; exact Bell.state_ok HG.out (by omega) (by omega)
 have hrng : Hid (∀ x : Fin M, 0 <= Bell.heardAt T l r (F + (x.val : Int)) /\ Bell.heardAt T l r (F + (x.val : Int)) <= 200000000) := fun x => Bell.heard_range HO.out.good.ty _ _
 have HH := lh (fun (x : Fin M) W (hb : Below w.heap.size w W) => heard_any (Bell.stAt l (F + (x.val : Int))) r W (HO.out.mem.keep hb) HO.out.good (hgood.out x) HR.out); have hpos : Hid (0 <= (Bell.maxF (Bell.heardAt T l r) F M).1) := (Bell.maxF_spec (Bell.heardAt T l r) F M (fun i hi => (hrng.out ⟨i, hi⟩).1)).2 hne |>.1; rw [<- hrv] at HH ⊢; have hrv2 : Hid (#[.int .i64 r.x, .int .i64 r.y, .int .i64 r.z] = rv) := by show _ = _; rw [hrv]; rfl
 rw [hrv2.out] at HPC; have HF1 := lh hF1; have HU1 := lh hU1; have HM := lh hM; clear hT hl hg hr gp0 gpl glast hF hU hM hrv hF1 hU1 hb0 hb1 hb2 hb3 hrv2 hf0 hft ht1; refine callsIn_of_wp_marks Tryz.func56 rfl trivial ?_ rfl; simp only [Tryz.ntmps56, List.size_toArray, List.length_cons, List.length_nil, Nat.reduceAdd, Nat.reduceSub, Array.replicate_succ, Array.replicate_zero, List.push_toArray, List.append_toArray, List.nil_append, List.cons_append]
 gi_wp2_with fail
 obtain ⟨w1, hw1⟩ : ∃ W, W = ((w.alloc (.cells cs 42)).alloc (.cells #[.int .i64 f, .int .i64 t] 93)).alloc (.cells rv 28) := ⟨_, rfl⟩; rw [<- hw1]; have T1 : Hid (Blk w1 w.heap.size 42 cs) := by show Blk _ _ _ _; rw [hw1]; exact ((Blk.new _ _ _).alloc _).alloc _
 have S1 : Hid (Blk w1 (w.heap.size + 1) 93 #[.int .i64 f, .int .i64 t]) := by show Blk _ _ _ _; rw [hw1]; exact (Blk.at_size _ _ (by simp)).alloc _
 have R1 : Hid (Blk w1 (w.heap.size + 1 + 1) 28 rv) := by show Blk _ _ _ _; rw [hw1]; exact Blk.at_size _ _ (by simp)
 have HB1 : Hid (Below w.heap.size w w1) := by show Below _ _ _; rw [hw1]; exact (((Below.refl _ _).alloc (Nat.le_refl _) _).alloc (by simp) _).alloc (by simp; omega) _
 obtain ⟨g, hg⟩ : ∃ g, g = w.heap.size := ⟨_, rfl⟩; rw [<- hg] at T1 S1 R1 ⊢; have HGs := lh hg; clear hw1 hg; have bw : ∀ d os, Below w1.heap.size w1 (grow (redrawn w1 d) os) := fun d os => below_regrown w1 d os
 have kp : ∀ d os, Below w.heap.size w (grow (redrawn w1 d) os) := fun d os => HB1.out.trans ((bw d os).mono HB1.out.size)
 have lT := fun d os => HO.out.mem.lv (T1.out.below (bw d os))
 have lR := fun d os => (R1.out.below (bw d os)).lv Tryz.prog (T := 28) Tryz.underlying28 rfl ir.out
 have s0 := fun d os => cell_regrown (S1.out.cell 0) d os
 have s1 := fun d os => cell_regrown (S1.out.cell 1) d os
 have c1 := fun d os => Calls.regrown_of (CheckType_ok (grow (redrawn w1 d) os) (HO.out.keep (kp d os)))
 have c2 := fun d os => Calls.regrown_of (HC.out (grow (redrawn w1 d) os) (kp d os))
 have c3 := fun d os => Calls.regrown_of (HTk.out (grow (redrawn w1 d) os))
 have c4 := fun d os => Calls.regrown_of (HPC.out (grow (redrawn w1 d) os))
 refine wpIn_region_below_tail (Or.inl rfl) 8 (by kernel_rfl) (by kernel_rfl) (by kernel_rfl) ?_; simp only [List.take_succ_cons, List.take_zero, List.drop_succ_cons, List.drop_zero]; refine quiet_load _ _ rfl (by rfl) _ _ rfl lT ?_
 quiet_step (exact c1 _ _)
 quiet_step (fail)
 quiet_step (exact c2 _ _)
 quiet_step (fail)
 quiet_step (exact c3 _ _)
 refine quiet_load _ _ rfl (by rfl) _ _ rfl lR ?_
 quiet_step (exact c4 _ _)
 refine wpQuiet_nil ?_; intro w2 hw'; obtain ⟨⟨dq, osq⟩, hw''⟩ := hw'; have hb2 := bw dq osq; rw [<- hw''] at hb2; have T2 := lh (T1.out.below hb2); have S2 := lh (S1.out.below hb2); have R2 := lh (R1.out.below hb2); have HB2 := lh (HB1.out.trans (hb2.mono HB1.out.size)); clear hw'' hb2 lT lR s0 s1 c1 c2 c3 c4 bw kp T1 S1 R1 HB1 HTk HPC HC
 gi_wp2_with fail
 refine ⟨trivial, CallsIn.mono (callsIn_wide.2 (first4 _ _ 0 0 0 0 _ (by go_simp) (by go_simp) (by go_simp) (by go_simp))) ?_⟩; rw [show firstE [0, 0, 0, 0] = 0 from rfl]; rintro e w3 ⟨rfl, rfl⟩; obtain ⟨w4, hw4⟩ : ∃ W, W = w2.alloc (.cells #[.int .i64 0, .int .i64 0, .int .i64 0, .int .i64 0] 37) := ⟨_, rfl⟩; rw [<- hw4]; have hb4 : Below w2.heap.size w2 w4 := by rw [hw4]; exact (Below.refl _ _).alloc (Nat.le_refl _) _
 have T4 := lh (T2.out.below hb4); have S4 := lh (S2.out.below hb4); have R4 := lh (R2.out.below hb4); have HB4 := lh (HB2.out.trans (hb4.mono HB2.out.size)); have s0 := S4.out.cell 0; have s1 := S4.out.cell 1; simp only [List.getElem?_toArray, List.getElem?_cons_zero, List.getElem?_cons_succ] at s0 s1; clear hw4 hb4 T2 S2 R2 HB2
 gi_upto_region 5 with fail
 obtain ⟨w5, hw5⟩ : ∃ W, W = (w4.alloc (.cells #[.int .i64 (-1)] 3)).alloc (.cells #[.int .i64 0] 3) := ⟨_, rfl⟩; rw [<- hw5]; have hb5 : Below w4.heap.size w4 w5 := by rw [hw5]; exact ((Below.refl _ _).alloc (Nat.le_refl _) _).alloc (by simp) _
 have X5 : Hid (Blk w5 w4.heap.size 3 #[.int .i64 (-1)]) := by show Blk _ _ _ _; rw [hw5]; exact (Blk.new _ _ _).alloc _
 have Y5 : Hid (Blk w5 (w4.heap.size + 1) 3 #[.int .i64 0]) := by show Blk _ _ _ _; rw [hw5]; exact Blk.at_size _ _ (by simp)
 have T5 := lh (T4.out.below hb5); have S5 := lh (S4.out.below hb5); have R5 := lh (R4.out.below hb5); have HB5 := lh (HB4.out.trans (hb5.mono HB4.out.size)); have hg4 : g + 1 + 1 < w4.heap.size := lt_of_block R4.out; have hw4' := HB4.out.size; obtain ⟨gm, hgm⟩ : ∃ x, x = w4.heap.size := ⟨_, rfl⟩; rw [<- hgm] at X5 Y5 hg4 hw4' ⊢; have hbn : b < w.heap.size := World.block_lt_of_cell? _ _ (HL.out.2 0 (by have := HG.out.lo; have := HL.out.1; omega)).1; clear hw5 hb5 T4 S4 R4 HB4 s0 s1 hgm; have s0 := S5.out.cell 0; have s1 := S5.out.cell 1; simp only [List.getElem?_toArray, List.getElem?_cons_zero, List.getElem?_cons_succ] at s0 s1
 gi_wp2_with fail
 refine ⟨trivial, CallsIn.mono (callsIn_wide.2 (HST.out w5 HB5.out)) ?_⟩; rintro e w6 ⟨g1, g2, g3, rfl, k1, k2, k3, ⟨ge1, ge2, ge3⟩, hb6⟩; have T6 := lh (T5.out.below hb6); have R6 := lh (R5.out.below hb6); have X6 := lh (X5.out.below hb6); have Y6 := lh (Y5.out.below hb6); have HB6 := lh (HB5.out.trans (hb6.mono HB5.out.size)); have HL6 := lh (HL.out.keep HB6.out); have K1 := lh k1; have K2 := lh k2; have K3 := lh k3; have hz1 := lt_of_block Y5.out; have hz2 := hb6.size; have e1 := lt_of_block k1; have e2 := lt_of_block k2; have e3 := lt_of_block k3; have hgs := HGs.out; obtain ⟨E, hE⟩ : ∃ E : Nat -> Prop, E = (fun k => k = gm ∨ k = gm + 1) := ⟨_, rfl⟩; have hEn : Hid (∀ k, k ≠ gm -> k ≠ gm + 1 -> ¬ E k) := fun k h1 h2 => by rw [hE]; exact fun h => h.elim h1 h2
 have hEw : Hid (∀ k, k < w.heap.size -> ¬ E k) := fun k hk => hEn.out k (by omega) (by omega)
 have hEg : Hid (¬ E g /\ ¬ E (g + 1 + 1)) := ⟨hEn.out _ (by omega) (by omega), hEn.out _ (by omega) (by omega)⟩; have hEm : Hid (E gm /\ E (gm + 1)) := by show _ /\ _; rw [hE]; exact ⟨.inl rfl, .inr rfl⟩
 have hmem := lh (show (g1 < w6.heap.size /\ ¬ E g1) /\ (g2 < w6.heap.size /\ ¬ E g2) /\ (g3 < w6.heap.size /\ ¬ E g3) /\ (b < w6.heap.size /\ ¬ E b) /\ (gm < w6.heap.size /\ gm + 1 < w6.heap.size /\ g < w6.heap.size /\ g + 1 + 1 < w6.heap.size) from
  ⟨⟨e1, hEn.out _ (by omega) (by omega)⟩, ⟨e2, hEn.out _ (by omega) (by omega)⟩, ⟨e3, hEn.out _ (by omega) (by omega)⟩, ⟨by omega, hEn.out _ (by omega) (by omega)⟩, by omega⟩)
 clear hz1 hz2 e1 e2 e3 hbn hgs ge1 ge2 ge3 k1 k2 k3 hb6 T5 S5 R5 X5 Y5 HB5 HST hE hg4 hw4' s0 s1
 gi_wp2_with fail
 obtain ⟨⟨m1, m1'⟩, ⟨m2, m2'⟩, ⟨m3, m3'⟩, ⟨mb, mb'⟩, ma, my, mg, mr⟩ := hmem.out; have hgs := lh (show gm + 1 ≠ gm from by omega)
 refine wpIn_rangeFunc_ownH (F := Fence.wide) (n := 4) (P := Tryz.prog) (α := Fin M) (w := w6) (w0 := w6) (gf := 184) (lb := #[.pointer (some ⟨g1, 0, none⟩), .pointer (some ⟨g2, 0, none⟩), .pointer (some ⟨g3, 0, none⟩)]) rfl (by omega) rfl trivial (enters_of Tryz.func184 (by kernel_rfl) rfl)
  (encs := fun x => #[.int .i64 (F + (x.val : Int)), .agg (stV (Bell.stAt l (F + (x.val : Int))))]) (Kp := Steady w6.heap.size E) (S := fun xs => xs = List.finRange M) (Sp := fun _ => True) (N := M)
  ?hseq Steady.trans ?hKb (Below.refl _ _) (fun _ => rfl)
  (fun pre W => (Blk W gm 3 #[.int .i64 (heardMax (Bell.heardAt T l r) F pre).1] /\ Blk W (gm + 1) 3 #[.int .i64 (heardMax (Bell.heardAt T l r) F pre).2]) /\ Steady w6.heap.size E w6 W)
  (fun _ _ _ => False) (OwnFrom.and (OwnFrom.and (ownFrom_blk ma) (ownFrom_blk my)) (ownFrom_steady (Nat.le_refl _) (Nat.le_refl _))) (fun _ _ _ _ _ hs _ _ => hs) ⟨⟨X6.out, Y6.out⟩, Steady.refl _ _ _⟩
  (fun x a' W => ∃ gx u16, a' = { tmps := #[.agg cs, .slice (some ⟨b, off, none⟩) N c, .agg #[.int .i64 f, .int .i64 t], .agg rv, .pointer (some ⟨g, 0, none⟩), undef, .pointer (some ⟨g + 1, 0, none⟩), .pointer (some ⟨g + 1 + 1, 0, none⟩), .int .i64 0, .int .i64 0, .int .i64 0, .int .i64 0, .pointer (some ⟨gm, 0, none⟩), .pointer (some ⟨gm + 1, 0, none⟩), .int .i64 (F + (x.val : Int)), .pointer (some ⟨gx, 0, none⟩), u16, .agg cs, .int .i64 0,
    .slice (some ⟨b, off, none⟩) N c, .int .i64 0, .agg #[.int .i64 f, .int .i64 t], .int .i64 0, .agg rv, .int .i64 0, .slice (some ⟨w2.heap.size, 0, none⟩) 4 4, .int .i64 0, .int .i64 0, .bool false, undef, .slice (some ⟨b, off, none⟩) N c, .agg #[.int .i64 f, .int .i64 t],
    .func (.func 184) #[] #[.pointer (some ⟨g1, 0, none⟩), .pointer (some ⟨g2, 0, none⟩), .pointer (some ⟨g3, 0, none⟩)], .int .i64 (F + (x.val : Int)), .agg (stV (Bell.stAt l (F + (x.val : Int)))), undef, undef, undef, undef, undef, undef, undef, undef, undef, undef, undef, undef, undef], defers := [] } /\ Blk W gx 46 (stV (Bell.stAt l (F + (x.val : Int)))))
  ?hAx ?assign ?body ?done ?stop
 case hseq =>
  intro lp J Jx W hW hJ _ hY h0; refine (states1_in 3 (by omega) lp g1 g2 g3 w6.heap.size E ⟨m1, m1'⟩ ⟨m2, m2'⟩ ⟨m3, m3'⟩ b off N c ⟨mb, mb'⟩ l F U M HM.out HG.out HF1.out HU1.out hF2 hU2 J Jx W.heap.size hJ hY W (HL6.out.keep hW) (K1.out.below hW) (K2.out.below hW) (K3.out.below hW) hW.size h0).mono ?_; rintro e W' ⟨he, h⟩; exact ⟨he, h⟩
 case hKb =>
  intro W lo o o' hlo ho hc hw; have hg := grownBy_putObj' W lo o'; have hlt := (Array.getElem?_eq_some_iff.1 ho).1; exact ⟨hg.os, hg.tape, hg.output, hg.size, fun k hk he => hg.block k (by omega) (fun e => by cases e; omega)⟩
 case hAx =>
  rintro x a' _ W W' row ⟨gx, u16, rfl, hb⟩ hg hr; refine ⟨gx, u16, rfl, (hg.block gx (lt_of_block hb) (fun e => ?_)).trans hb⟩; obtain ⟨_, o, ho, hc⟩ := hr gx e.symm; have hb' : W.heap[gx]? = some (.cells _ _ (0, 0)) := hb; rw [hb'] at ho
  cases ho
  cases hc
 case assign =>
  rintro lo pre x W K ⟨⟨hb1, hb2⟩, hst⟩ hK; simp only [stV] at hK ⊢; have hb : Below W.heap.size W (W.alloc (.cells (stV (Bell.stAt l (F + (x.val : Int)))) 46)) := (Below.refl _ _).alloc (Nat.le_refl _) _; simp only [stV] at hb; have HBx := lh hb; clear hb
  gi_wp2
  refine hK _ _ ((KeepsOthers.alloc W _).from _) (Steady.of_below (HBx.out.mono hst.size)) ⟨⟨hb1.alloc _, hb2.alloc _⟩, hst.trans (Steady.of_below (HBx.out.mono hst.size))⟩ ⟨W.heap.size, _, rfl, Blk.new _ _ _⟩
 case body =>
  rintro lp pre x a' W hlp ⟨r0, hr0⟩ ⟨⟨hb1, hb2⟩, hst⟩ ⟨gx, u16, rfl, hbx⟩ hlen; have hbel : Hid (Below w.heap.size w W) := HB6.out.trans (hst.below HB6.out.size (fun k hk => hEw.out k hk)); have hbd := heardMax_in (M := M) (f := Bell.heardAt T l r) (a := F) (c := 200000000) (by omega) hrng.out pre; have hx := hrng.out x; have hsn := lh (heardMax_snoc (Bell.heardAt T l r) F pre x); have hT1 := hst.blk T6.out mg hEg.out.1; have hR1 := hst.blk R6.out mr hEg.out.2; have HT1 := lh hT1; have HR1 := lh hR1; have HBX := lh hb1; have HBY := lh hb2; have HST' := lh hst; obtain ⟨s, hs⟩ : ∃ s, s = (heardMax (Bell.heardAt T l r) F pre).1 := ⟨_, rfl⟩; obtain ⟨u, hu⟩ : ∃ s, s = (heardMax (Bell.heardAt T l r) F pre).2 := ⟨_, rfl⟩; obtain ⟨h, hh⟩ : ∃ h, h = Bell.heardAt T l r (F + (x.val : Int)) := ⟨_, rfl⟩; have HHx := lh (fun W (hb : Below w.heap.size w W) => HH.out x W hb)
  have hh2 : Hid (Bell.heardOf T (Bell.stAt l (F + (x.val : Int))) r = h) := hh.symm; rw [hh2.out] at HHx; have hup : Hid (s < h -> heardMax (Bell.heardAt T l r) F (pre ++ [x]) = (h, F + (x.val : Int))) := fun hlt => by rw [hsn.out, if_pos (by rw [<- hs, <- hh]; exact hlt), <- hh]
  have hno : Hid (¬ s < h -> (heardMax (Bell.heardAt T l r) F (pre ++ [x])).1 = s /\ (heardMax (Bell.heardAt T l r) F (pre ++ [x])).2 = u) := fun hlt => by rw [hsn.out, if_neg (by rw [<- hs, <- hh]; exact hlt), hs, hu]; exact ⟨rfl, rfl⟩
  rw [<- hs] at hbd hb1 HBX; rw [<- hu] at hb2 HBY; rw [<- hh] at hx; obtain ⟨sv, hsv⟩ : ∃ v, v = stV (Bell.stAt l (F + (x.val : Int))) := ⟨_, rfl⟩; rw [<- hsv] at HHx hbx ⊢; have is : Hid ((Tryz.prog.info? 46).map (·.size) = some sv.size) := by show _ = _; rw [hsv]; kernel_rfl
  have HXs := lh hbx; obtain ⟨s1, s2⟩ := hbd; obtain ⟨h1, h2⟩ := hx; have xlt : (x.val : Int) < 1000 := by have := x.isLt; omega
  have xge : (0 : Int) <= (x.val : Int) := by omega
  obtain ⟨tk, htk⟩ : ∃ tk, tk = F + (x.val : Int) := ⟨_, rfl⟩; rw [<- htk] at hup ⊢; clear hs hu hh hsv hlen hrng hst hb1 hb2 hT1 hR1 hbx hsn htk; have lT := lh (HO.out.mem.lv HT1.out); have lS := lh (HXs.out.lv Tryz.prog (T := 46) Tryz.underlying46 rfl is.out); have lR := lh (HR1.out.lv Tryz.prog (T := 28) Tryz.underlying28 rfl ir.out); have hF : Open (Fence.wide.inRound lp) := Or.inr ⟨lp, rfl⟩
  gi_wp2_with (first
   | (refine wpListIn_load hF rfl 42 _ rfl ⟨g, 0, none⟩ (.agg cs) rfl lT.out ?_)
   | (refine wpListIn_load hF rfl 46 _ rfl ⟨gx, 0, none⟩ (.agg sv) rfl lS.out ?_)
   | (refine wpListIn_load hF rfl 28 _ rfl ⟨g + 1 + 1, 0, none⟩ (.agg rv) rfl lR.out ?_))
  refine ⟨trivial, CallsIn.mono (hF.calls (HHx.out W hbel.out)) ?_⟩; rintro e w7 ⟨rfl, hb7⟩; have X7 := HBX.out.below hb7; have Y7 := HBY.out.below hb7; have HX7 := lh X7; have HY7 := lh Y7; have xc := X7.cell 0; have xf := X7.frozen 0; have yc := Y7.cell 0; have yf := Y7.frozen 0; simp only [List.getElem?_toArray, List.getElem?_cons_zero] at xc yc; have hsz : w6.heap.size <= W.heap.size := HST'.out.size; have hst7 := lh (HST'.out.trans (Steady.of_below (E := E) (hb7.mono hsz))); have hkp7 : Hid (Steady w6.heap.size E W w7) := Steady.of_below (hb7.mono hsz); have hko7 : Hid (KeepsOthers W w7) := ⟨hb7.size, fun k o hk _ => (hb7.block k (Array.getElem?_eq_some_iff.1 hk).1).trans hk⟩; clear X7 Y7 hb7 lT lS lR
  by_cases hlt : s < h
  ·have hd : decide (s < h) = true := decide_eq_true hlt; have hv := lh (hup.out hlt); have Z1 := HX7.out.set_ 0 (.int .i64 h); have Z2 := (HY7.out.far (p := ⟨gm, 0, none⟩) hgs.out (.int .i64 h))
   have hstep : Hid (Steady w6.heap.size E w7 ((w7.setCell ⟨gm, 0, none⟩ (.int .i64 h)).setCell ⟨gm + 1, 0, none⟩ (.int .i64 tk))) :=
    ⟨rfl, rfl, rfl, by simp [World.setCell], fun k hk he => (Below.heap_setCell _ ⟨gm + 1, 0, none⟩ _ k (fun e => he (e ▸ hEm.out.2))).trans (Below.heap_setCell _ ⟨gm, 0, none⟩ _ k (fun e => he (e ▸ hEm.out.1)))⟩
   have hko : Hid (KeepsOthers w7 ((w7.setCell ⟨gm, 0, none⟩ (.int .i64 h)).setCell ⟨gm + 1, 0, none⟩ (.int .i64 tk))) := (KeepsOthers.setCell _ _ _).trans (KeepsOthers.setCell _ _ _); have HZ1 := lh (Z1.far (p := ⟨gm + 1, 0, none⟩) (Ne.symm hgs.out) (.int .i64 tk)); have HZ2 := lh (Z2.set_ 0 (.int .i64 tk)); clear Z1 Z2 hlt hup hno
   gi_wp2
   exact ⟨(hko7.out.trans hko.out).from _, hkp7.out.trans hstep.out, ⟨by rw [hv.out]; exact HZ1.out, by rw [hv.out]; exact HZ2.out⟩, hst7.out.trans hstep.out⟩
  ·have hd : decide (s < h) = false := decide_eq_false hlt; have hv := lh (hno.out (by omega)); clear hlt hup hno
   gi_wp2
   exact ⟨hko7.out.from _, hkp7.out, ⟨by rw [hv.out.1]; exact HX7.out, by rw [hv.out.2]; exact HY7.out⟩, hst7.out⟩
 case done =>
  rintro D ys W hD rfl ⟨⟨hb1, hb2⟩, hst⟩ hK; rw [heardMax_all] at hb1 hb2; have hbel : Hid (Below w.heap.size w W) := HB6.out.trans (hst.below HB6.out.size (fun k hk => hEw.out k hk)); have xc := hb1.cell 0; have yc := hb2.cell 0; simp only [List.getElem?_toArray, List.getElem?_cons_zero] at xc yc; obtain ⟨m, hm⟩ : ∃ m, m = (Bell.maxF (Bell.heardAt T l r) F M).1 := ⟨_, rfl⟩; obtain ⟨u, hu⟩ : ∃ m, m = (Bell.maxF (Bell.heardAt T l r) F M).2 := ⟨_, rfl⟩; have hp : 0 <= m := by rw [hm]; exact hpos.out
  rw [<- hm] at xc; rw [<- hu] at yc; have hd : decide (m < 0) = false := decide_eq_false (by omega); have HM' := lh hm; have HU' := lh hu; have hsz : w.heap.size <= W.heap.size := hbel.out.size; have HD := lh hD; have HKK := lh hK; clear hst hb1 hb2 hK hD hp hm hu
  gi_wp2
  gi_region
  all_goals gi_wp2
  refine ⟨by simp, .inl ⟨_, _, rfl, run_takeDeferred HKK.out, ?_⟩⟩; refine ⟨_, results_tmp3 rfl _ _ _, by rw [<- HM'.out, <- HU'.out]; rfl, hbel.out.trans ?_⟩; exact (Below.drew (Below.refl w.heap.size W)).trans (belowK_b (w := w) (Nat.le_refl _) W.drew D _ _ (by have := HD.out; have := HB6.out.size; omega) HKK.out rfl rfl)
 case stop =>
  rintro D c pre W _ _ h _; exact h.elim
theorem Maximum_ok {cs : Array Value} {nm : ByteArray} {sh : List Int} {T : Bell.Ty} {sa : Option Addr} {sn sc qb qo qn qc gb go gn gc : Nat} (b off N c : Nat) (l : List Bell.Fx) (f t F U : Int) (M : Nat) (r : Bell.Pl) (w : World) (hT : TyOk w cs nm sh T sa sn sc qb qo qn qc gb go gn gc)
  (hl : FixesAt w b off N l) (hg : Bell.GoodTr l) (hr : GoodPl r) (hf0 : 0 <= f) (hft : f <= t) (ht1 : t <= 100000000) (hF : F = max f (Bell.fxAt l 0).t) (hU : U = min t (Bell.fxAt l (l.length - 1)).t) (hM : M = (U - F).toNat) (hne : 0 < M) :
  Calls Tryz.prog 56 #[.agg cs, .slice (some ⟨b, off, none⟩) N c, .agg #[.int .i64 f, .int .i64 t], .agg (plV r)] w fun e w' => e = .returned (.tuple #[.int .i64 (Bell.maxF (Bell.heardAt T l r) F M).1, .int .i64 (Bell.maxF (Bell.heardAt T l r) F M).2, .int .i64 0]) /\ Below w.heap.size w w' :=
 callsIn_wide.1 (Maximum_in b off N c l f t F U M r w hT hl hg hr hf0 hft ht1 hF hU hM hne)
end Go.Proofs.YtmafmebcgmegeaaGreatDoor
