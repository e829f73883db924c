/- The ticks that are in a span and in a track, one after the other. -/
import Derived.Test.YtnbionhahifacaaDoorIi
import Derived.RangeFuncNested
import Derived.RangeFuncBound
import Derived.RangeFuncLeaves
import Derived.Shelf.Abstract
import Derived.Shelf.RegionOpen
import Derived.OwnWalkIn
import Derived.TacticsInMore
import Derived.LoopNIn
import Derived.LoopIn
namespace Go.Proofs.YtnbionhahifacaaDoor
open Go.RowKit Go.Sort

attribute [local go_sem] Oper.semAt_some

/-- Below `n₁` all is as it was, but for some blocks. -/
structure Steady (n₁ : Nat) (E : Nat → Prop) (A B : World) : Prop where
  os : B.os = A.os
  tape : B.tape = A.tape
  output : B.output = A.output
  size : A.heap.size ≤ B.heap.size
  block : ∀ k, k < n₁ → ¬ E k → B.heap[k]? = A.heap[k]?
theorem Steady.refl (n₁ : Nat) (E : Nat → Prop) (A : World) : Steady n₁ E A A := ⟨rfl, rfl, rfl, Nat.le_refl _, fun _ _ _ => rfl⟩
theorem Steady.trans {n₁ : Nat} {E : Nat → Prop} {A B C : World} (h : Steady n₁ E A B) (k : Steady n₁ E B C) : Steady n₁ E A C :=
  ⟨k.os.trans h.os, k.tape.trans h.tape, k.output.trans h.output, Nat.le_trans h.size k.size, fun i hi he => (k.block i hi he).trans (h.block i hi he)⟩
theorem Steady.of_below {n₁ : Nat} {E : Nat → Prop} {A B : World} (h : Below n₁ A B) : Steady n₁ E A B := ⟨h.os, h.tape, h.output, h.size, fun k hk _ => h.block k hk⟩
theorem Steady.blk {n₁ : Nat} {E : Nat → Prop} {A B : World} (h : Steady n₁ E A B) {g : Nat} {t : TypeId} {cs : Array Value} (hb : Blk A g t cs) (hg : g < n₁) (he : ¬ E g) : Blk B g t cs := (h.block g hg he).trans hb
theorem cell_same {A B : World} {p : Addr} (h : B.heap[p.block]? = A.heap[p.block]?) : B.cell? p = A.cell? p := by
  unfold World.cell?
  rw [h]
theorem Steady.fixes {n₁ : Nat} {E : Nat → Prop} {A B : World} (h : Steady n₁ E A B) {b off n : Nat} {l : List Bell.Fx} (hl : FixesAt A b off n l) (hb : b < n₁) (he : ¬ E b) : FixesAt B b off n l := by
  refine ⟨hl.1, fun i hi => ?_⟩
  obtain ⟨h0, h1, h2, h3, h4⟩ := hl.2 i hi
  have k : ∀ {j : Nat}, B.cell? ⟨b, j, none⟩ = A.cell? ⟨b, j, none⟩ := fun {j} => cell_same (p := ⟨b, j, none⟩) (h.block b hb he)
  exact ⟨k.trans h0, k.trans h1, k.trans h2, k.trans h3, k.trans h4⟩

theorem finRange_take {M k : Nat} (hk : k < M) : (List.finRange M).take (k + 1) = (List.finRange M).take k ++ [⟨k, hk⟩] := by
  rw [List.take_succ_eq_append_getElem (by simpa using hk)]
  simp

set_option maxHeartbeats 4000000 in
set_option maxRecDepth 100000 in
theorem states1_in (n : Nat) (hn : 1 ≤ n) (lp g1 g2 g3 n₁ : Nat) (E : Nat → Prop) (e1 : g1 < n₁ ∧ ¬ E g1) (e2 : g2 < n₁ ∧ ¬ E g2) (e3 : g3 < n₁ ∧ ¬ E g3) (b off N c : Nat) (eb : b < n₁ ∧ ¬ E b) (l : List Bell.Fx) (f t : Int) (M : Nat) (hM : M = (t - f).toNat)
    (hg : Bell.GoodTr l) (hf : (Bell.fxAt l 0).t ≤ f) (ht : t ≤ (Bell.fxAt l (l.length - 1)).t) (hf2 : f ≤ 100000000) (ht2 : 0 ≤ t)
    (J Jx : List (Fin M) → World → Prop) (B : Nat) (hJ : AbidesFrom B J)
    (hY : ∀ pre (x : Fin M) W1, J pre W1 → pre.length < M → YieldAt Fence.wide (n - 1) Tryd.prog lp #[.int .i64 (f + (x.val : Int)), .agg (stV (Bell.stAt l (f + (x.val : Int))))] W1 fun e W' =>
      (e = .returned (.bool true) ∧ J (pre ++ [x]) W' ∧ Steady n₁ E W1 W') ∨ (e = .returned (.bool false) ∧ Jx (pre ++ [x]) W'))
    (W : World) (hl : FixesAt W b off N l) (c1 : Blk W g1 3 #[.int .i64 t]) (c2 : Blk W g2 3 #[.int .i64 f]) (c3 : Blk W g3 49 #[.slice (some ⟨b, off, none⟩) N c]) (hsz : n₁ ≤ W.heap.size) (h0 : J [] W) :
    CallsIn Fence.wide n Tryd.prog 66 #[.func (.yield lp) #[] #[], .pointer (some ⟨g1, 0, none⟩), .pointer (some ⟨g2, 0, none⟩), .pointer (some ⟨g3, 0, none⟩)] W fun e W' => (∃ v, e = .returned v) ∧
      ((∃ ys, ys = List.finRange M ∧ J ys W') ∨ (∃ pre, True ∧ Jx pre W')) := by
  have gp0 := (hg.pts 0 (by have := hg.lo; omega)).t0
  have gpl := (hg.pts (l.length - 1) (by have := hg.lo; omega)).t1
  refine callsIn_of_wp Tryd.func66 rfl trivial ?_ rfl
  simp only [Tryd.ntmps66, List.size_toArray, List.length_cons, List.length_nil, Nat.reduceAdd, Nat.reduceSub, Array.replicate_succ, Array.replicate_zero, List.push_toArray, List.append_toArray, List.nil_append, List.cons_append]
  have k1 := c1.cell 0
  have k2 := c2.cell 0
  simp only [List.getElem?_toArray, List.getElem?_cons_zero] at k1 k2
  gi_wp2
  clear k1 k2
  gi_loopw [5, 9] (fun _ i wr => ∃ k : Nat, k ≤ M ∧ i = .int .i64 k ∧ Hid (J ((List.finRange M).take k) wr) ∧ Hid (Steady n₁ E W wr)) (fun _ i _ => M - (intOf i).toNat)
  case atStart => exact ⟨0, Nat.zero_le _, rfl, h0, Steady.refl _ _ _⟩
  case round =>
    obtain ⟨k, hk, rfl, hJs, hst⟩ := hrel
    by_cases hlt : k < M
    · have q1 : (k : Int) < t - f := by omega
      have x2 := (hst.out.blk c2 e2.1 e2.2).cell 0
      have x3 := (hst.out.blk c3 e3.1 e3.2).cell 0
      simp only [List.getElem?_toArray, List.getElem?_cons_zero] at x2 x3
      have y2 := fun d os => cell_regrown x2 d os
      have y3 := fun d os => cell_regrown x3 d os
      have hlr := hst.out.fixes hl eb.1 eb.2
      have cS := fun d os => Calls.regrown_of (state_any b off N c l (f + (k : Int)) (grow (redrawn wr d) os) (hlr.keep (below_regrown wr d os)) hg (by omega) (by omega))
      have w1 : IntKind.i64.wrap (f + (k : Int)) = f + (k : Int) := IntWalk.i64_in _ (by omega)
      gi_wp2
      refine wpIn_region_below_tail (Or.inl rfl) 9 (by kernel_rfl) (by kernel_rfl) (by kernel_rfl) ?_
      simp only [List.take_succ_cons, List.take_zero, List.drop_succ_cons, List.drop_zero]
      iterate 8 (quiet_step (fail))
      quiet_step (exact cS _ _)
      refine wpQuiet_nil ?_
      intro w2 hw'
      obtain ⟨⟨dq, osq⟩, hw''⟩ := hw'
      have hb2 := below_regrown wr dq osq
      rw [← hw''] at hb2
      have hst2 : Hid (Steady n₁ E W w2) := hst.out.trans (Steady.of_below (hb2.mono (Nat.le_trans hsz hst.out.size)))
      have hJ2 := hJ _ wr w2 none hJs.out ⟨hb2.os, hb2.tape, hb2.output, hb2.size, fun k hk _ => hb2.block k hk⟩ (fun r e => by cases e)
      obtain ⟨fn, tmps, assign, body, hy, hR⟩ := hY _ ⟨k, hlt⟩ w2 hJ2 (by simp; omega)
      clear hw'' hb2 y2 y3 x2 x3 cS hJs hst hlr w1 hJ2
      gi_wp2
      refine hR.mono ?_
      rintro e W3 (⟨rfl, hJ3, hk3⟩ | ⟨rfl, hJx3⟩)
      · have HJ3 : Hid (J ((List.finRange M).take (k + 1)) W3) := by show J _ _; rw [finRange_take hlt]; exact hJ3
        have hst3 : Hid (Steady n₁ E W W3) := hst2.out.trans hk3
        clear hJ3 hk3
        gi_wp2
        go_roundw
        case rel => exact ⟨k + 1, by omega, by go_num, HJ3, hst3⟩
        case measure => simp [intOf]; omega
      · gi_wp2
        refine bodyPost_ret (results_none rfl _ _ _) rfl ?_
        exact ⟨⟨_, rfl⟩, .inr ⟨_, trivial, hJx3⟩⟩
    · have q1 : ¬ (k : Int) < t - f := by omega
      have hall : Hid (J (List.finRange M) wr) := by
        have := hJs.out
        rw [List.take_of_length_le (by simp; omega)] at this
        exact this
      gi_wp2
      go_end0
      exact ⟨⟨_, rfl⟩, .inl hall.out⟩

end Go.Proofs.YtnbionhahifacaaDoor
