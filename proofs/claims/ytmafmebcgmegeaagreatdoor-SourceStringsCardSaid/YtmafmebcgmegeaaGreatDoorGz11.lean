/- Part. -/
import Derived.Test.YtmafmebcgmegeaaGreatDoorGz1
import Derived.RangeFuncBox
import Derived.RangeFuncCalls
import Derived.Test.YtmafmebcgmegeaaGreatDoorGz10
namespace Go.Proofs.YtmafmebcgmegeaaGreatDoor
open Go.RowKit Go.Sort
attribute [local go_sem] Oper.semAt_some
structure OneBut (g : Nat) (A B : World) : Prop where
 os : B.os = A.os
 tape : B.tape = A.tape
 output : B.output = A.output
 size : A.heap.size <= B.heap.size
 block : ∀ k, k < A.heap.size -> k ≠ g -> B.heap[k]? = A.heap[k]?
theorem OneBut.steady {g n₁ : Nat} {A B : World} (h : OneBut g A B) (hn : n₁ <= A.heap.size) : Steady n₁ (fun k => k = g) A B := ⟨h.os, h.tape, h.output, h.size, fun k hk he => h.block k (by omega) he⟩
theorem OneBut.of {g n : Nat} {A B : World} (h : Below A.heap.size A B) (v : Value) : OneBut g A (B.setCell ⟨g, n, none⟩ v) :=
 ⟨h.os, h.tape, h.output, by simpa [World.setCell] using h.size, fun k hk he => (Below.heap_setCell B ⟨g, n, none⟩ v k he).trans (h.block k hk)⟩
theorem Steady.below {n₁ n : Nat} {E : Nat -> Prop} {A B : World} (h : Steady n₁ E A B) (hn : n <= n₁) (he : ∀ k, k < n -> ¬ E k) : Below n A B := ⟨h.os, h.tape, h.output, h.size, fun k hk => h.block k (by omega) (he k hk)⟩
theorem OneBut.keeps {g : Nat} {A B : World} (h : OneBut g A B) {o : Obj} (hg : A.heap[g]? = some o) (ho : o.isCells = true) : KeepsOthers A B :=
 ⟨h.size, fun k o' hk ho' => by
  by_cases hkg : k = g
  ·subst hkg; rw [hg] at hk; cases hk; rw [ho] at ho'; cases ho'
  ·exact (h.block k (Array.getElem?_eq_some_iff.1 hk).1 hkg).trans hk⟩
theorem Steady.grown {n₁ : Nat} {E : Nat -> Prop} {A B C : World} {row : Option Nat} (h : Steady n₁ E A B) (hg : B.grownBy C row) (hn : n₁ <= A.heap.size) (hr : ∀ r, row = some r -> n₁ <= r) : Steady n₁ E A C :=
 ⟨hg.os.trans h.os, hg.tape.trans h.tape, hg.output.trans h.output, Nat.le_trans h.size hg.size, fun k hk he => (hg.block k (by have := h.size; omega) (fun e => by have := hr k e.symm; omega)).trans (h.block k hk he)⟩
theorem ownFrom_steady {β : Type} {n₁ B : Nat} {E : Nat -> Prop} {w₀ : World} (hn : n₁ <= w₀.heap.size) (hB : n₁ <= B) : OwnFrom B (fun (_ : β) W => Steady n₁ E w₀ W) :=
 fun _ _ _ _ hs hg hr => hs.grown hg hn (fun r e => Nat.le_trans hB (hr r e).1)
theorem ownFrom_blk {β : Type} {B g : Nat} {t : TypeId} {cs : β -> Array Value} (hB : g < B) : OwnFrom B (fun (s : β) W => Blk W g t (cs s)) :=
 fun s W W' row hs hg hr => (hg.block g (lt_of_block hs) (fun e => by have := (hr g e.symm).1; omega)).trans hs
def heardSum {M : Nat} (f : Int -> Int) (a : Int) (pre : List (Fin M)) : Int := (pre.map (fun x => f (a + (x.val : Int)))).sum
theorem heardSum_snoc {M : Nat} (f : Int -> Int) (a : Int) (pre : List (Fin M)) (x : Fin M) : heardSum f a (pre ++ [x]) = heardSum f a pre + f (a + (x.val : Int)) := by
 unfold heardSum; simp
theorem heardSum_all {M : Nat} (f : Int -> Int) (a : Int) : heardSum f a (List.finRange M) = Bell.sumF f a M := by
 rw [<- Bell.sumF_list]; unfold heardSum
 congr 1
 apply List.ext_getElem
 ·simp
 ·intro i h1 h2; simp
theorem heardSum_in {M : Nat} {f : Int -> Int} {a c : Int} (h : ∀ x : Fin M, 0 <= f (a + (x.val : Int)) /\ f (a + (x.val : Int)) <= c) (pre : List (Fin M)) : 0 <= heardSum f a pre /\ heardSum f a pre <= c * pre.length := by
 induction pre with
 | nil => simp [heardSum]
 | cons x l ih =>
   have h1 := h x; have e : heardSum f a (x :: l) = f (a + (x.val : Int)) + heardSum f a l := by unfold heardSum; simp
   rw [e, List.length_cons, Int.natCast_add, Int.mul_add]; have : c * ((1 : Nat) : Int) = c := by simp
   omega
set_option maxHeartbeats 4000000 in
set_option maxRecDepth 100000 in
theorem exposure_in {cs : Array Value} {nm : ByteArray} {sh : List Int} {T : Bell.Ty} {sa : Option Addr} {sn sc qb qo qn qc gb go gn gc : Nat} (b off N c : Nat) (l : List Bell.Fx) (f t : Int) (r : Bell.Pl) (w : World) (hT : TyOk w cs nm sh T sa sn sc qb qo qn qc gb go gn gc)
  (hl : FixesAt w b off N l) (hg : Bell.GoodTr l) (hr : GoodPl r) (hf0 : 0 <= f) (hft : f <= t) (ht1 : t <= 100000000) :
  CallsIn Fence.wide 4 Tryz.prog 135 #[.agg cs, .slice (some ⟨b, off, none⟩) N c, .agg #[.int .i64 f, .int .i64 t], .agg (plV r)] w fun e w' => e = .returned (.int .i64 (Bell.expoOf T l r f t)) /\ Below w.heap.size w w' := by
 have HO := lh hT; have HL := lh hl; have HG := lh hg; have HR := lh hr; have gp0 := (hg.pts 0 (by have := hg.lo; omega)); have gpl := (hg.pts (l.length - 1) (by have := hg.lo; omega)); have glast := hg.last; have HST := lh (fun W (hb : Below w.heap.size w W) => states_of b off N c l f t W (hl.keep hb) hg); have hex : Hid (Bell.expoOf T l r f t = Bell.sumF (Bell.heardAt T l r) (max f (Bell.fxAt l 0).t) (min t (Bell.fxAt l (l.length - 1)).t - max f (Bell.fxAt l 0).t).toNat) := rfl; obtain ⟨A0, hA0⟩ : ∃ x, x = (Bell.fxAt l 0).t := ⟨_, rfl⟩; obtain ⟨A1, hA1⟩ : ∃ x, x = (Bell.fxAt l (l.length - 1)).t := ⟨_, rfl⟩; have hF1 : (Bell.fxAt l 0).t <= max f A0 := by omega
 have hU1 : min t A1 <= (Bell.fxAt l (l.length - 1)).t := by omega
 have hb0 := gp0.t0; have hb1 := gpl.t1; have hb2 := gp0.t1; have hb3 := gpl.t0; rw [<- hA0] at hb0 hb2 glast hex HST; rw [<- hA1] at hb1 hb3 glast hex HST; obtain ⟨F, hF⟩ : ∃ x, x = max f A0 := ⟨_, rfl⟩; obtain ⟨U, hU⟩ : ∃ x, x = min t A1 := ⟨_, rfl⟩; rw [<- hF] at hex HST hF1; rw [<- hU] at hex HST hU1; obtain ⟨M, hM⟩ : ∃ M, M = (U - F).toNat := ⟨_, rfl⟩; rw [<- hM] at hex; have hM1 : M <= 1000 := by omega
 have hF2 : F <= 100000000 := by omega
 have hU2 : 0 <= U := by omega
 obtain ⟨rv, hrv⟩ : ∃ v, v = plV r := ⟨_, rfl⟩; have ir : Hid ((Tryz.prog.info? 28).map (·.size) = some rv.size) := by show _ = _; rw [hrv]; kernel_rfl
 have IT := lh HO.out.mem.info
 have hgood : Hid (∀ x : Fin M, Bell.GoodSt (Bell.stAt l (F + (x.val : Int)))) := fun x => by
  have := x.isLt; exact Bell.state_ok HG.out (by omega) (by omega)
 have hrng : Hid (∀ x : Fin M, 0 <= Bell.heardAt T l r (F + (x.val : Int)) /\ Bell.heardAt T l r (F + (x.val : Int)) <= 200000000) := fun x => Bell.heard_range HO.out.good.ty _ _
 have HH := lh (fun (x : Fin M) W (hb : Below w.heap.size w W) => heard_any (Bell.stAt l (F + (x.val : Int))) r W (HO.out.mem.keep hb) HO.out.good (hgood.out x) HR.out); rw [<- hrv] at HH ⊢; have HF1 := lh hF1; have HU1 := lh hU1; have HM := lh hM; have HRV := lh hrv; clear hT hl hg hr gp0 gpl glast hA0 hA1 hF hU hM hrv hF1 hU1 hb0 hb1 hb2 hb3; refine callsIn_of_wp_marks Tryz.func135 rfl trivial ?_ rfl; simp only [Tryz.ntmps135, List.size_toArray, List.length_cons, List.length_nil, Nat.reduceAdd, Nat.reduceSub, Array.replicate_succ, Array.replicate_zero, List.push_toArray, List.append_toArray, List.nil_append, List.cons_append]
 gi_wp2_with fail
 obtain ⟨w1, hw1⟩ : ∃ W, W = (((w.alloc (.cells cs 42)).alloc (.cells #[.int .i64 f, .int .i64 t] 93)).alloc (.cells rv 28)).alloc (.cells #[.int .i64 0] 3) := ⟨_, rfl⟩; rw [<- hw1]; have T1 : Hid (Blk w1 w.heap.size 42 cs) := by show Blk _ _ _ _; rw [hw1]; exact (((Blk.new _ _ _).alloc _).alloc _).alloc _
 have R1 : Hid (Blk w1 (w.heap.size + 1 + 1) 28 rv) := by show Blk _ _ _ _; rw [hw1]; exact (Blk.at_size _ _ (by simp)).alloc _
 have Z1 : Hid (Blk w1 (w.heap.size + 1 + 1 + 1) 3 #[.int .i64 0]) := by show Blk _ _ _ _; rw [hw1]; exact Blk.at_size _ _ (by simp)
 have HB1 : Hid (Below w.heap.size w w1) := by show Below _ _ _; rw [hw1]; exact ((((Below.refl _ _).alloc (Nat.le_refl _) _).alloc (by simp) _).alloc (by simp; omega) _).alloc (by simp; omega) _
 have hbn : b < w.heap.size := World.block_lt_of_cell? _ _ (HL.out.2 0 (by have := HG.out.lo; have := HL.out.1; omega)).1; obtain ⟨g, hg⟩ : ∃ g, g = w.heap.size := ⟨_, rfl⟩; rw [<- hg] at T1 R1 Z1 ⊢; have HGs := lh hg; have HBN := lh hbn; clear hw1 hg hbn; refine ⟨trivial, CallsIn.mono (callsIn_wide.2 (HST.out w1 HB1.out)) ?_⟩; rintro e w2 ⟨g1, g2, g3, rfl, k1, k2, k3, ⟨ge1, ge2, ge3⟩, hb2⟩; have T2 := lh (T1.out.below hb2); have R2 := lh (R1.out.below hb2); have Z2 := lh (Z1.out.below hb2); have HB2 := lh (HB1.out.trans (hb2.mono HB1.out.size)); have HL2 := lh (HL.out.keep HB2.out); have K1 := lh k1; have K2 := lh k2; have K3 := lh k3; have hz1 := lt_of_block Z1.out; have hz2 := hb2.size; have e1 := lt_of_block k1; have e2 := lt_of_block k2; have e3 := lt_of_block k3; have hbn := HBN.out; have hgs := HGs.out; have hmem := lh (show (g1 < w2.heap.size /\ ¬ g1 = g + 1 + 1 + 1) /\ (g2 < w2.heap.size /\ ¬ g2 = g + 1 + 1 + 1) /\ (g3 < w2.heap.size /\ ¬ g3 = g + 1 + 1 + 1) /\ (b < w2.heap.size /\ ¬ b = g + 1 + 1 + 1) /\ g + 1 + 1 + 1 < w2.heap.size from by omega)
 clear hz1 hz2 e1 e2 e3 hbn hgs ge1 ge2 ge3 k1 k2 k3 hb2 T1 R1 Z1 HB1 HST HBN
 gi_wp2_with fail
 obtain ⟨⟨m1, m1'⟩, ⟨m2, m2'⟩, ⟨m3, m3'⟩, ⟨mb, mb'⟩, mz⟩ := hmem.out
 refine wpIn_rangeFunc_ownH (F := Fence.wide) (n := 4) (P := Tryz.prog) (α := Fin M) (w := w2) (w0 := w2) (gf := 184) (lb := #[.pointer (some ⟨g1, 0, none⟩), .pointer (some ⟨g2, 0, none⟩), .pointer (some ⟨g3, 0, none⟩)]) rfl (by omega) rfl trivial (enters_of Tryz.func184 (by kernel_rfl) rfl)
  (encs := fun x => #[.int .i64 (F + (x.val : Int)), .agg (stV (Bell.stAt l (F + (x.val : Int))))]) (Kp := Steady w2.heap.size (fun k => k = g + 1 + 1 + 1)) (S := fun xs => xs = List.finRange M) (Sp := fun _ => True) (N := M)
  ?hseq Steady.trans ?hKb (Below.refl _ _) (fun _ => rfl)
  (fun pre W => Blk W (g + 1 + 1 + 1) 3 #[.int .i64 (heardSum (Bell.heardAt T l r) F pre)] /\ Steady w2.heap.size (fun k => k = g + 1 + 1 + 1) w2 W)
  (fun _ _ _ => False) (OwnFrom.and (ownFrom_blk mz) (ownFrom_steady (Nat.le_refl _) (Nat.le_refl _))) (fun _ _ _ _ _ hs _ _ => hs) ⟨Z2.out, Steady.refl _ _ _⟩
  (fun x a' W => ∃ gx tk, a' = { tmps := #[.agg cs, .slice (some ⟨b, off, none⟩) N c, .agg #[.int .i64 f, .int .i64 t], .agg rv, .pointer (some ⟨g, 0, none⟩), undef, .pointer (some ⟨g + 1, 0, none⟩), .pointer (some ⟨g + 1 + 1, 0, none⟩), .int .i64 0, .pointer (some ⟨g + 1 + 1 + 1, 0, none⟩), undef, .pointer (some ⟨gx, 0, none⟩), .slice (some ⟨b, off, none⟩) N c, .agg #[.int .i64 f, .int .i64 t],
    .func (.func 184) #[] #[.pointer (some ⟨g1, 0, none⟩), .pointer (some ⟨g2, 0, none⟩), .pointer (some ⟨g3, 0, none⟩)], .int .i64 tk, .agg (stV (Bell.stAt l (F + (x.val : Int)))), undef, undef, undef, undef, undef, undef, undef], defers := [] } /\ Blk W gx 46 (stV (Bell.stAt l (F + (x.val : Int)))))
  ?hAx ?assign ?body ?done ?stop
 case hseq =>
  intro lp J Jx W hW hJ _ hY h0; refine (states1_in 3 (by omega) lp g1 g2 g3 w2.heap.size (fun k => k = g + 1 + 1 + 1) ⟨m1, m1'⟩ ⟨m2, m2'⟩ ⟨m3, m3'⟩ b off N c ⟨mb, mb'⟩ l F U M HM.out HG.out HF1.out HU1.out hF2 hU2 J Jx W.heap.size hJ hY W (HL2.out.keep hW) (K1.out.below hW) (K2.out.below hW) (K3.out.below hW) hW.size h0).mono ?_; rintro e W' ⟨he, h⟩; exact ⟨he, h⟩
 case hKb =>
  intro W lo o o' hlo ho hc hw; have hg := grownBy_putObj' W lo o'; have hlt := (Array.getElem?_eq_some_iff.1 ho).1; exact ⟨hg.os, hg.tape, hg.output, hg.size, fun k hk he => hg.block k (by omega) (fun e => by cases e; omega)⟩
 case hAx =>
  rintro x a' _ W W' row ⟨gx, tk, rfl, hb⟩ hg hr; refine ⟨gx, tk, rfl, (hg.block gx (lt_of_block hb) (fun e => ?_)).trans hb⟩; obtain ⟨_, o, ho, hc⟩ := hr gx e.symm; have hb' : W.heap[gx]? = some (.cells _ _ (0, 0)) := hb; rw [hb'] at ho
  cases ho
  cases hc
 case assign =>
  rintro lo pre x W K ⟨hb1, hst⟩ hK; simp only [stV] at hK ⊢; have hb : Below W.heap.size W (W.alloc (.cells (stV (Bell.stAt l (F + (x.val : Int)))) 46)) := (Below.refl _ _).alloc (Nat.le_refl _) _; simp only [stV] at hb; have HBx := lh hb; clear hb
  gi_wp2
  refine hK _ _ ((KeepsOthers.alloc W _).from _) (Steady.of_below (HBx.out.mono hst.size)) ⟨hb1.alloc _, hst.trans (Steady.of_below (HBx.out.mono hst.size))⟩ ⟨W.heap.size, _, rfl, Blk.new _ _ _⟩
 case body =>
  rintro lp pre x a' W hlp ⟨r0, hr0⟩ ⟨hb1, hst⟩ ⟨gx, tk, rfl, hbx⟩ hlen; have hbel : Hid (Below w.heap.size w W) := HB2.out.trans (hst.below HB2.out.size (fun k hk he => by have := HGs.out; omega)); have hbd := heardSum_in (M := M) (f := Bell.heardAt T l r) (a := F) (c := 200000000) hrng.out pre; have hx := hrng.out x; have hsn := lh (heardSum_snoc (Bell.heardAt T l r) F pre x); have hT1 := hst.blk T2.out (by omega) (by omega); have hR1 := hst.blk R2.out (by omega) (by omega); have HBX := lh hb1; have HST' := lh hst; obtain ⟨s, hs⟩ : ∃ s, s = heardSum (Bell.heardAt T l r) F pre := ⟨_, rfl⟩; obtain ⟨h, hh⟩ : ∃ h, h = Bell.heardAt T l r (F + (x.val : Int)) := ⟨_, rfl⟩; have HHx := lh (fun W (hb : Below w.heap.size w W) => HH.out x W hb); have hh2 : Hid (Bell.heardOf T (Bell.stAt l (F + (x.val : Int))) r = h) := hh.symm; rw [hh2.out] at HHx; rw [<- hs] at hbd hsn hb1 HBX
  rw [<- hh] at hx hsn; obtain ⟨sv, hsv⟩ : ∃ v, v = stV (Bell.stAt l (F + (x.val : Int))) := ⟨_, rfl⟩; rw [<- hsv] at HHx hbx ⊢; have is : Hid ((Tryz.prog.info? 46).map (·.size) = some sv.size) := by show _ = _; rw [hsv]; kernel_rfl
  have hpl : (200000000 : Int) * (pre.length : Int) <= 200000000000 := by have : pre.length < M := hlen; omega
  have s1 : 0 <= s := hbd.1; have s2 : s <= 200000000000 := Int.le_trans hbd.2 hpl; obtain ⟨h1, h2⟩ := hx; have bw : ∀ d os, Below W.heap.size W (grow (redrawn W d) os) := fun d os => below_regrown W d os
  have cz := fun d os => cell_regrown (hb1.cell 0) d os
  have lT := fun d os => HO.out.mem.lv (Blk.below hT1 (bw d os))
  have lS := fun d os => (Blk.below hbx (bw d os)).lv Tryz.prog (T := 46) Tryz.underlying46 rfl is.out
  have lR := fun d os => (Blk.below hR1 (bw d os)).lv Tryz.prog (T := 28) Tryz.underlying28 rfl ir.out
  have ch := fun d os => Calls.regrown_of (HHx.out (grow (redrawn W d) os) (hbel.out.trans ((bw d os).mono hbel.out.size)))
  have wr1 : IntKind.i64.wrap (s + h) = s + h := IntWalk.i64_in _ (by omega); clear hs hh hbd hsv hlen hpl hrng hst hb1
  gi_wp2
  refine wpIn_region_below_tail (Or.inr ⟨lp, rfl⟩) 6 (by kernel_rfl) (by kernel_rfl) (by kernel_rfl) ?_; simp only [List.take_succ_cons, List.take_zero, List.drop_succ_cons, List.drop_zero]
  quiet_step (fail)
  refine quiet_load _ _ rfl (by rfl) _ _ rfl lT ?_; refine quiet_load _ _ rfl (by rfl) _ _ rfl lS ?_; refine quiet_load _ _ rfl (by rfl) _ _ rfl lR ?_
  quiet_step (exact ch _ _)
  quiet_step (fail)
  refine wpQuiet_nil ?_; intro w3 hw'; obtain ⟨⟨dq, osq⟩, hw''⟩ := hw'; have hb3 := bw dq osq; rw [<- hw''] at hb3; have Z3 := HBX.out.below hb3; have zc := Z3.cell 0; have zf := Z3.frozen 0; simp only [List.getElem?_toArray, List.getElem?_cons_zero] at zc; have HZ3 := lh Z3; have HB3 := lh hb3; clear hw'' hb3 cz lT lS lR ch bw Z3 wr1; have hone := OneBut.of (g := g + 1 + 1 + 1) (n := 0) HB3.out (.int .i64 (s + h)); have HK := lh (hone.keeps HBX.out rfl); have hsz : w2.heap.size <= W.heap.size := HST'.out.size; have HSt := lh (hone.steady hsz); have HZ4 := lh (HZ3.out.set_ 0 (.int .i64 (s + h))); clear hone hsz
  gi_wp2
  exact ⟨HK.out.from _, HSt.out, by rw [hsn.out]; exact HZ4.out, HST'.out.trans HSt.out⟩
 case done =>
  rintro D ys W hD rfl ⟨hb1, hst⟩ hK; have hv : Hid (heardSum (Bell.heardAt T l r) F (List.finRange M) = Bell.expoOf T l r f t) := by show _ = _; rw [heardSum_all, hex.out]
  have hbel : Hid (Below w.heap.size w W) := HB2.out.trans (hst.below HB2.out.size (fun k hk he => by have := HGs.out; omega)); rw [hv.out] at hb1; have zc := hb1.cell 0; simp only [List.getElem?_toArray, List.getElem?_cons_zero] at zc; have hsz : w.heap.size <= W.heap.size := hbel.out.size; have HD := lh hD; have HKK := lh hK; clear hst hb1 hK hD
  gi_wp2
  refine ⟨by simp, .inl ⟨_, _, rfl, run_takeDeferred HKK.out, ?_⟩⟩; refine ⟨_, results_tmp rfl _ _ _, rfl, hbel.out.trans ?_⟩; exact belowK_b (w := w) (Nat.le_refl _) W D _ _ (by have := HD.out; have := HB2.out.size; omega) HKK.out rfl rfl
 case stop =>
  rintro D c pre W _ _ h _; exact h.elim
theorem exposure_any {cs : Array Value} {nm : ByteArray} {sh : List Int} {T : Bell.Ty} {sa : Option Addr} {sn sc qb qo qn qc gb go gn gc : Nat} (b off N c : Nat) (l : List Bell.Fx) (f t : Int) (r : Bell.Pl) (w : World) (hT : TyOk w cs nm sh T sa sn sc qb qo qn qc gb go gn gc)
  (hl : FixesAt w b off N l) (hg : Bell.GoodTr l) (hr : GoodPl r) (hf0 : 0 <= f) (hft : f <= t) (ht1 : t <= 100000000) :
  Calls Tryz.prog 135 #[.agg cs, .slice (some ⟨b, off, none⟩) N c, .agg #[.int .i64 f, .int .i64 t], .agg (plV r)] w fun e w' => e = .returned (.int .i64 (Bell.expoOf T l r f t)) /\ Below w.heap.size w w' :=
 callsIn_wide.1 (exposure_in b off N c l f t r w hT hl hg hr hf0 hft ht1)
set_option maxHeartbeats 4000000 in
set_option maxRecDepth 100000 in
theorem Exposure_ok {cs : Array Value} {nm : ByteArray} {sh : List Int} {T : Bell.Ty} {sa : Option Addr} {sn sc qb qo qn qc gb go gn gc : Nat} (b off N c : Nat) (l : List Bell.Fx) (f t : Int) (r : Bell.Pl) (w : World) (hT : TyOk w cs nm sh T sa sn sc qb qo qn qc gb go gn gc)
  (hl : FixesAt w b off N l) (hg : Bell.GoodTr l) (hr : GoodPl r) (hf0 : 0 <= f) (hft : f <= t) (ht1 : t <= 100000000) :
  Calls Tryz.prog 55 #[.agg cs, .slice (some ⟨b, off, none⟩) N c, .agg #[.int .i64 f, .int .i64 t], .agg (plV r)] w fun e w' => e = .returned (.tuple #[.int .i64 (Bell.expoOf T l r f t), .int .i64 0]) /\ Below w.heap.size w w' := by
 have HO := lh hT; have HL := lh hl; obtain ⟨V, hV⟩ : ∃ V, V = Bell.expoOf T l r f t := ⟨_, rfl⟩; have HH := lh (fun W (hb : Below w.heap.size w W) => exposure_any b off N c l f t r W (hT.keep hb) (hl.keep hb) hg hr hf0 hft ht1); have HC := lh (fun W (hb : Below w.heap.size w W) => CheckTrack_ok b off N c l W (hl.keep hb) hg); have HTk := lh (fun W => checkTicks_ok f t W hf0 hft ht1); rw [<- hV] at HH ⊢; have HPC := lh (fun W => checkPlace_any r.x r.y r.z W); rw [plE_good hr] at HPC; obtain ⟨rv, hrv⟩ : ∃ v, v = plV r := ⟨_, rfl⟩; have ir : Hid ((Tryz.prog.info? 28).map (·.size) = some rv.size) := by show _ = _; rw [hrv]; kernel_rfl
 rw [<- hrv] at HH ⊢; have hrv2 : Hid (#[.int .i64 r.x, .int .i64 r.y, .int .i64 r.z] = rv) := by show _ = _; rw [hrv]; rfl
 rw [hrv2.out] at HPC; clear hT hl hg hr hV hrv hrv2 hf0 hft ht1
 go_enter Tryz.func55, Tryz.ntmps55
 go_upto_region 1 with fail
 obtain ⟨w1, hw1⟩ : ∃ W, W = ((w.alloc (.cells cs 42)).alloc (.cells #[.int .i64 f, .int .i64 t] 93)).alloc (.cells rv 28) := ⟨_, rfl⟩; rw [<- hw1]; have T1 : Hid (Blk w1 w.heap.size 42 cs) := by show Blk _ _ _ _; rw [hw1]; exact ((Blk.new _ _ _).alloc _).alloc _
 have S1 : Hid (Blk w1 (w.heap.size + 1) 93 #[.int .i64 f, .int .i64 t]) := by show Blk _ _ _ _; rw [hw1]; exact (Blk.at_size _ _ (by simp)).alloc _
 have R1 : Hid (Blk w1 (w.heap.size + 1 + 1) 28 rv) := by show Blk _ _ _ _; rw [hw1]; exact Blk.at_size _ _ (by simp)
 have HB1 : Hid (Below w.heap.size w w1) := by show Below _ _ _; rw [hw1]; exact (((Below.refl _ _).alloc (Nat.le_refl _) _).alloc (by simp) _).alloc (by simp; omega) _
 obtain ⟨g, hg⟩ : ∃ g, g = w.heap.size := ⟨_, rfl⟩; rw [<- hg] at T1 S1 R1 ⊢; clear hw1 hg; have bw : ∀ d os, Below w1.heap.size w1 (grow (redrawn w1 d) os) := fun d os => below_regrown w1 d os
 have kp : ∀ d os, Below w.heap.size w (grow (redrawn w1 d) os) := fun d os => HB1.out.trans ((bw d os).mono HB1.out.size)
 have lT := fun d os => HO.out.mem.lv (T1.out.below (bw d os))
 have lR := fun d os => (R1.out.below (bw d os)).lv Tryz.prog (T := 28) Tryz.underlying28 rfl ir.out
 have s0 := fun d os => cell_regrown (S1.out.cell 0) d os
 have s1 := fun d os => cell_regrown (S1.out.cell 1) d os
 have c1 := fun d os => Calls.regrown_of (CheckType_ok (grow (redrawn w1 d) os) (HO.out.keep (kp d os)))
 have c2 := fun d os => Calls.regrown_of (HC.out (grow (redrawn w1 d) os) (kp d os))
 have c3 := fun d os => Calls.regrown_of (HTk.out (grow (redrawn w1 d) os))
 have c4 := fun d os => Calls.regrown_of (HPC.out (grow (redrawn w1 d) os))
 refine wp_region_below_tail 8 (by kernel_rfl) (by kernel_rfl) ?_; simp only [List.take_succ_cons, List.take_zero, List.drop_succ_cons, List.drop_zero]; refine quiet_load _ _ rfl (by rfl) _ _ rfl lT ?_
 quiet_step (exact c1 _ _)
 quiet_step (fail)
 quiet_step (exact c2 _ _)
 quiet_step (fail)
 quiet_step (exact c3 _ _)
 refine quiet_load _ _ rfl (by rfl) _ _ rfl lR ?_
 quiet_step (exact c4 _ _)
 refine wpQuiet_nil ?_; intro w2 hw'; obtain ⟨⟨dq, osq⟩, hw''⟩ := hw'; have hb2 := bw dq osq; rw [<- hw''] at hb2; have T2 := lh (T1.out.below hb2); have S2 := lh (S1.out.below hb2); have R2 := lh (R1.out.below hb2); have HB2 := lh (HB1.out.trans (hb2.mono HB1.out.size)); clear hw'' hb2 lT lR s0 s1 c1 c2 c3 c4 bw kp T1 S1 R1 HB1 HTk HPC HC
 go_wp2_with fail
 refine (first4 _ _ 0 0 0 0 _ (by go_simp) (by go_simp) (by go_simp) (by go_simp)).mono ?_; rw [show firstE [0, 0, 0, 0] = 0 from rfl]; rintro e w3 ⟨rfl, rfl⟩; obtain ⟨w4, hw4⟩ : ∃ W, W = w2.alloc (.cells #[.int .i64 0, .int .i64 0, .int .i64 0, .int .i64 0] 37) := ⟨_, rfl⟩; rw [<- hw4]; have hb4 : Below w2.heap.size w2 w4 := by rw [hw4]; exact (Below.refl _ _).alloc (Nat.le_refl _) _
 have T4 := lh (T2.out.below hb4); have S4 := lh (S2.out.below hb4); have R4 := lh (R2.out.below hb4); have HB4 := lh (HB2.out.trans (hb4.mono HB2.out.size)); have IT := lh HO.out.mem.info; have s0 := S4.out.cell 0; have s1 := S4.out.cell 1; simp only [List.getElem?_toArray, List.getElem?_cons_zero, List.getElem?_cons_succ] at s0 s1; clear hw4 hb4 T2 S2 R2 HB2
 go_wp2_with (first
  | (refine wpList_load_row rfl 42 _ rfl g rfl 42 cs (0, 0) _ T4.out Tryz.underlying42 rfl IT.out ?_)
  | (refine wpList_load_row rfl 28 _ rfl (g + 1 + 1) rfl 28 rv (0, 0) _ R4.out Tryz.underlying28 rfl ir.out ?_))
 refine (HH.out w4 HB4.out).mono ?_; rintro e w5 ⟨rfl, hb5⟩; have HB5 := lh (HB4.out.trans (hb5.mono HB4.out.size)); clear hb5; go_wp2
 go_ret2
 exact ⟨rfl, HB5.out⟩
end Go.Proofs.YtmafmebcgmegeaaGreatDoor
