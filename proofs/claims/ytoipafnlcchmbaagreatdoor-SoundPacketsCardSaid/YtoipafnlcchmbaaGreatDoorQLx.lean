/- The parts of four bytes, one after another. All parts of four bytes, collected. Unpack, of a packed stream. -/
import Derived.Test.YtoipafnlcchmbaaGreatDoorQL
import Derived.RangeFuncNested
import Derived.RangeFuncBound
import Derived.RangeFuncCalls
import Derived.RangeFuncLeaves
import Derived.Shelf.Abstract
import Derived.Shelf.RegionOpen
import Derived.OwnWalkIn
import Derived.TacticsInMore
import Derived.LoopNIn
import Derived.LoopIn
import Derived.Maps.AppendAt
import Derived.Test.YtoipafnlcchmbaaGreatDoorQJx
namespace Go.Proofs.YtoipafnlcchmbaaGreatDoor
open Go.RowKit Go.Shelf

attribute [local go_sem] Oper.semAt_some

theorem chunk_len (g off cap M k : Nat) (hk : k < M) (hc : M * 4 ≤ cap) (w : World) : (Instr.slice 106 (.slice (some ⟨g, off, none⟩) (M * 4) cap) (some (.int .i64 ((k * 4 : Nat) : Int))) none none).run Tryz.prog w = .ok (.slice (some ⟨g, off + k * 4, none⟩) (M * 4 - k * 4) (cap - k * 4)) w := by
  rw [run_slice_l w _ _ _ _ (by kernel_rfl) .i64 _ (by omega) (by omega), show Tryz.prog.elem 106 = 5 by kernel_rfl, show (Go.sizeOf 5).run Tryz.prog w = .ok 1 w by kernel_rfl]
  have e1 : ((k * 4 : Nat) : Int).toNat = k * 4 := by omega
  have hne : cap ≠ k * 4 := by omega
  simp only [Result.andThen, sliced, e1, if_neg hne, Option.map_some, Addr.add, Nat.mul_one]
  by_cases h0 : k = 0
  · subst h0; simp
  · rw [if_neg (by omega)]
theorem chunk_at (g off cap M k : Nat) (hk : k < M) (hc : M * 4 ≤ cap) (w : World) : (Instr.slice 106 (.slice (some ⟨g, off, none⟩) (M * 4) cap) (some (.int .i64 ((k : Int) * 4))) (some (.int .i64 ((k : Int) * 4 + 4))) (some (.int .i64 ((k : Int) * 4 + 4)))).run Tryz.prog w = .ok (chV g off k) w := by
  rw [run_slice_lhm w _ _ _ _ (by kernel_rfl) .i64 .i64 .i64 _ _ _ (by omega) (by omega) (by omega) (by omega), show Tryz.prog.elem 106 = 5 by kernel_rfl, show (Go.sizeOf 5).run Tryz.prog w = .ok 1 w by kernel_rfl]
  have e1 : ((k : Int) * 4).toNat = k * 4 := by omega
  have e2 : ((k : Int) * 4 + 4).toNat = k * 4 + 4 := by omega
  rw [e1, e2]
  have hne : k * 4 + 4 ≠ k * 4 := by omega
  simp [Result.andThen, sliced, Addr.add, chV]

set_option maxHeartbeats 2000000 in
set_option maxRecDepth 100000 in
theorem chunk1_in (F : Fence) (n : Nat) (hf : F.fn 177) (hro : F.round = none) (hn : 1 ≤ n) (l B1 B2 n₀ g off cap M : Nat) (hb1 : B1 < n₀) (hb2 : B2 < n₀) (hM : M ≤ 4096) (hcap : M * 4 ≤ cap) (J Jx : List Nat → World → Prop) (B : Nat) (hJ : AbidesFrom B J)
    (hY : ∀ pre x W, J pre W → pre.length < M → YieldAt F (n - 1) Tryz.prog l #[chV g off x] W fun e W' =>
      (e = .returned (.bool true) ∧ J (pre ++ [x]) W' ∧ Below n₀ W W') ∨ (e = .returned (.bool false) ∧ Jx (pre ++ [x]) W'))
    (W : World) (h1 : W.cell? ⟨B1, 0, none⟩ = some (.slice (some ⟨g, off, none⟩) (M * 4) cap)) (h2 : W.cell? ⟨B2, 0, none⟩ = some (.int .i64 4)) (h0 : J [] W) :
    CallsIn F n Tryz.prog 177 #[.func (.yield l) #[] #[], .pointer (some ⟨B1, 0, none⟩), .pointer (some ⟨B2, 0, none⟩)] W fun e W' => (∃ v, e = .returned v) ∧
      ((∃ ys, ys = List.range M ∧ J ys W') ∨ (∃ pre, (∃ k, k ≤ M ∧ pre = List.range k) ∧ Jx pre W')) := by
  refine callsIn_of_wp Tryz.func177 rfl hf ?_ hro
  simp only [Tryz.ntmps177, List.size_toArray, List.length_cons, List.length_nil, Nat.reduceAdd, Nat.reduceSub, Array.replicate_succ, Array.replicate_zero, List.push_toArray, List.append_toArray, List.nil_append, List.cons_append]
  gi_wp2
  gi_loopw [4] (fun i wr => ∃ k : Nat, k ≤ M ∧ i = .int .i64 ((k * 4 : Nat) : Int) ∧ J (List.range k) wr ∧ Below n₀ W wr)
    (fun i _ => M * 4 - (intOf i).toNat)
  case atStart => exact ⟨0, Nat.zero_le _, rfl, h0, Below.refl _ _⟩
  case round =>
    obtain ⟨k, hk, rfl, hJs, hnx⟩ := hrel
    have x1 : wr.cell? ⟨B1, 0, none⟩ = some (.slice (some ⟨g, off, none⟩) (M * 4) cap) := (hnx.cell (p := ⟨B1, 0, none⟩) hb1).trans h1
    have x2 : wr.cell? ⟨B2, 0, none⟩ = some (.int .i64 4) := (hnx.cell (p := ⟨B2, 0, none⟩) hb2).trans h2
    by_cases hlt : k < M
    · obtain ⟨fn, tmps, assign, body, hy, hR⟩ := hY _ k wr.drew (hJ _ wr wr.drew none hJs ⟨rfl, rfl, rfl, Nat.le_refl _, fun _ _ _ => rfl⟩ (fun r e => by cases e)) (by rw [List.length_range]; exact hlt)
      have hs1 := chunk_len g off cap M k hlt hcap
      have hs2 := chunk_at g off cap M k hlt hcap
      have hd : (((M * 4 - k * 4 : Nat) : Int) < 4) = False := by simp; omega
      clear hs1
      gi_wp2
      gi_region
      all_goals
        gi_wp2
        refine hR.mono ?_
        rintro e W3 (⟨rfl, hJ3, hk3⟩ | ⟨rfl, hJx3⟩)
        · have x3 : W3.cell? ⟨B2, 0, none⟩ = some (.int .i64 4) := (hk3.cell (p := ⟨B2, 0, none⟩) hb2).trans x2
          gi_wp2
          go_roundw
          case rel => exact ⟨k + 1, by omega, by go_num, by rw [List.range_succ]; exact hJ3, hnx.drew.trans hk3⟩
          case measure => simp [intOf]; omega
        · gi_wp2
          refine bodyPost_ret (results_none rfl _ _ _) rfl ?_
          exact ⟨⟨_, rfl⟩, .inr ⟨_, ⟨k + 1, by omega, List.range_succ.symm⟩, hJx3⟩⟩
    · obtain rfl : k = M := by omega
      gi_wp2
      go_end0
      exact ⟨⟨_, rfl⟩, .inl ⟨_, rfl, hJs⟩⟩
end Go.Proofs.YtoipafnlcchmbaaGreatDoor
namespace Go.Proofs.YtoipafnlcchmbaaGreatDoor
open Go.RowKit Go.Shelf

attribute [local go_sem] Oper.semAt_some

theorem chunk_stops (F : Fence) (n : Nat) (hf : F.fn 177) (hro : F.round = none) (hn : 1 ≤ n) (B1 B2 n₀ g off cap M : Nat) (hb1 : B1 < n₀) (hb2 : B2 < n₀) (hM : M ≤ 4096) (hcap : M * 4 ≤ cap) (w : World) (hn₀ : n₀ ≤ w.heap.size)
    (h1 : w.cell? ⟨B1, 0, none⟩ = some (.slice (some ⟨g, off, none⟩) (M * 4) cap)) (h2 : w.cell? ⟨B2, 0, none⟩ = some (.int .i64 4)) :
    SeqStopsK F n Tryz.prog 177 #[.pointer (some ⟨B1, 0, none⟩), .pointer (some ⟨B2, 0, none⟩)] (fun i : Nat => #[chV g off i]) (Below n₀) (fun xs => xs = List.range M) (fun pre => ∃ k, k ≤ M ∧ pre = List.range k) M w := fun l J Jx W hW hJ _ hY h0 => by
  refine (chunk1_in F n hf hro hn l B1 B2 n₀ g off cap M hb1 hb2 hM hcap J Jx W.heap.size hJ hY W ((hW.cell (p := ⟨B1, 0, none⟩) (Nat.lt_of_lt_of_le hb1 hn₀)).trans h1) ((hW.cell (p := ⟨B2, 0, none⟩) (Nat.lt_of_lt_of_le hb2 hn₀)).trans h2) h0).mono ?_
  rintro e W' ⟨he, ⟨ys, rfl, hj⟩ | ⟨pre, hp, hj⟩⟩
  · exact ⟨he, .inl ⟨_, rfl, hj⟩⟩
  · exact ⟨he, .inr ⟨_, hp, hj⟩⟩

theorem infoC : (Tryz.prog.info? 106).map (fun i => (i.zero, i.size, i.bytes)) = some (some (.slice none 0 0), 1, 24) := by kernel_rfl
/-- A slice of parts that the call made. -/
def OwnC (w : World) (base : Nat) (v : Value) (g off M : Nat) : Prop := w.ownsRow base 106 1 v M ((List.range M).map (chV g off))

set_option maxHeartbeats 2000000 in
set_option maxRecDepth 100000 in
theorem appendSeq_in (F : Fence) (n : Nat) (h177 : F.fn 178) (h176 : F.fn 177) (hro : F.round = none) (hn : 3 ≤ n) (B1 B2 g off cap M : Nat) (hM : M ≤ 4096) (hcap : M * 4 ≤ cap) (w : World) (hb1 : B1 < w.heap.size) (hb2 : B2 < w.heap.size)
    (h1 : w.cell? ⟨B1, 0, none⟩ = some (.slice (some ⟨g, off, none⟩) (M * 4) cap)) (h2 : w.cell? ⟨B2, 0, none⟩ = some (.int .i64 4)) :
    CallsIn F n Tryz.prog 178 #[.slice none 0 0, .func (.func 177) #[] #[.pointer (some ⟨B1, 0, none⟩), .pointer (some ⟨B2, 0, none⟩)]] w fun e W' => ∃ v, e = .returned v ∧ OwnC W' w.heap.size v g off M ∧ Below w.heap.size w W' := by
  have hn1 : 1 ≤ n := by omega
  obtain ⟨i0, hi, hz0, hz1, hz2⟩ := info_parts infoC
  refine callsIn_of_wp_marks Tryz.func178 rfl h177 ?_ hro
  simp only [Tryz.ntmps178, List.size_toArray, List.length_cons, List.length_nil, Nat.reduceAdd, Nat.reduceSub, Array.replicate_succ, Array.replicate_zero, List.push_toArray, List.append_toArray, List.nil_append, List.cons_append]
  gi_wp2
  have bO := Boxed.new w 237 (.slice none 0 0)
  have hB0 : Below w.heap.size w (w.alloc (.cells #[.slice none 0 0] 237)) := (Below.refl _ w).alloc (Nat.le_refl _) _
  have h1' : (w.alloc (.cells #[.slice none 0 0] 237)).cell? ⟨B1, 0, none⟩ = some (.slice (some ⟨g, off, none⟩) (M * 4) cap) := (hB0.cell (p := ⟨B1, 0, none⟩) hb1).trans h1
  have h2' : (w.alloc (.cells #[.slice none 0 0] 237)).cell? ⟨B2, 0, none⟩ = some (.int .i64 4) := (hB0.cell (p := ⟨B2, 0, none⟩) hb2).trans h2
  refine wpIn_rangeFunc_ownG hro hn1 (gf := 177) (lb := #[.pointer (some ⟨B1, 0, none⟩), .pointer (some ⟨B2, 0, none⟩)]) rfl h176 (enters_of Tryz.func177 (by kernel_rfl) rfl)
    (chunk_stops F (n - 1) h176 hro (by omega) B1 B2 w.heap.size g off cap M hb1 hb2 hM hcap _ (by simp) h1' h2') belowK_t (belowK_b (by simp)) (Below.refl _ _) (fun _ => rfl)
    (fun pre W => (∃ v, Boxed W w.heap.size 237 v ∧ W.ownsRow w.heap.size 106 1 v pre.length (pre.map (chV g off)) ∧ (v = .slice none 0 0 ↔ pre = [])) ∧ Below w.heap.size w W)
    (fun _ _ _ => False)
    (OwnFrom.and (Own.from (holdsRow_own w.heap.size w.heap.size 237 106 1 (fun pre => pre.length) (fun pre => pre.map (chV g off)) (fun pre v => v = .slice none 0 0 ↔ pre = [])) _) (ownFrom_below (Nat.le_refl _) (by simp)))
    (fun _ _ _ _ _ hs _ _ => hs)
    ⟨⟨_, bO, World.ownsRow_nil _ _ _ _, by simp⟩, hB0⟩
    (fun x => { tmps := #[.slice none 0 0, .func (.func 177) #[] #[.pointer (some ⟨B1, 0, none⟩), .pointer (some ⟨B2, 0, none⟩)], .pointer (some ⟨w.heap.size, 0, none⟩), undef, .slice none 0 0, chV g off x, .func (.func 177) #[] #[.pointer (some ⟨B1, 0, none⟩), .pointer (some ⟨B2, 0, none⟩)], chV g off x, undef, undef, undef, undef, undef], defers := [] }) ?assign ?body ?done ?stop
  case assign =>
    intro l x W K hK
    gi_wp2
    exact hK
  case body =>
    rintro l pre x W ⟨⟨v, hv, hrow, hnil⟩, hB⟩ hlt
    have hc := hv.cell
    have hx : chV g off x = .slice (some ⟨g, off + x * 4, none⟩) 4 4 := rfl
    rw [hx]
    gi_wp2_with (gi_at_builtin; refine wpListIn_append_own _ rfl _ _ 237 rfl w.heap.size 106 i0 (.slice none 0 0) 1 24 Tryz.underlying237 hi hz0 hz1 hz2 rfl (by decide) _ _ _ rfl (hrow.alloc _) ⟨W.heap.size, 0, none⟩ 1 1 [.slice (some ⟨g, off + x * 4, none⟩) 4 4] rfl rfl (cell_one_new _ _ _) (by simp [Value.oneCell']) (by unfold maxLen; omega) (by omega) (by have := hB.size; simp; omega) ?_; intro v' w1 hown' hgrow _; obtain ⟨g', cap', rfl⟩ := ownsRow_succ hown'; obtain ⟨hv1, hv2, hr2, hk2, hb2⟩ := hv.appended (by decide) hrow hB.size (Nat.le_refl _) hown' hgrow; have hc1 := hv1.cell; have hf1 := hv1.frozen)
    exact ⟨hk2.from _, hb2, ⟨_, hv2, by rw [List.length_append, List.map_append]; exact hr2, by simp⟩, hB.trans hb2⟩
  case done =>
    rintro D ys W hD rfl ⟨⟨v, hv, hrow, hnil⟩, hB⟩ hK
    have hc := hv.cell
    gi_wp2
    refine ⟨by simp, .inl ⟨_, _, rfl, run_takeDeferred hK, ?_⟩⟩
    refine ⟨_, results_tmp rfl _ _ _, v, rfl, ?_, hB.trans (belowK_b (w := w) (Nat.le_refl _) W D _ _ (by simp at hD; omega) hK rfl rfl)⟩
    have := ownsRow_putObj hrow (.deferred none) hK rfl
    rwa [List.length_range] at this
  case stop =>
    rintro D c pre W _ _ h _
    exact h.elim

set_option maxHeartbeats 1000000 in
theorem collect_in (F : Fence) (n : Nat) (h151 : F.fn 151) (h177 : F.fn 178) (h176 : F.fn 177) (hro : F.round = none) (hn : 4 ≤ n) (B1 B2 g off cap M : Nat) (hM : M ≤ 4096) (hcap : M * 4 ≤ cap) (w : World) (hb1 : B1 < w.heap.size) (hb2 : B2 < w.heap.size)
    (h1 : w.cell? ⟨B1, 0, none⟩ = some (.slice (some ⟨g, off, none⟩) (M * 4) cap)) (h2 : w.cell? ⟨B2, 0, none⟩ = some (.int .i64 4)) :
    CallsIn F n Tryz.prog 151 #[.func (.func 177) #[] #[.pointer (some ⟨B1, 0, none⟩), .pointer (some ⟨B2, 0, none⟩)]] w fun e W' => ∃ v, e = .returned v ∧ OwnC W' w.heap.size v g off M ∧ Below w.heap.size w W' := by
  have hn1 : 1 ≤ n := by omega
  refine callsIn_of_wp Tryz.func151 rfl h151 ?_ hro
  simp only [Tryz.ntmps151, List.size_toArray, List.length_cons, List.length_nil, Nat.reduceAdd, Nat.reduceSub, Array.replicate_succ, Array.replicate_zero, List.push_toArray, List.append_toArray, List.nil_append, List.cons_append]
  gi_wp2_with (gi_at_call 178; refine (appendSeq_in F (n - 1) h177 h176 hro (by omega) B1 B2 g off cap M hM hcap _ hb1 hb2 h1 h2).mono ?_; rintro e w' ⟨v, rfl, hO, hb⟩)
  go_ret
  exact ⟨v, rfl, hO, hb⟩

theorem collect_parts (B1 B2 g off cap M : Nat) (hM : M ≤ 4096) (hcap : M * 4 ≤ cap) (w : World) (hb1 : B1 < w.heap.size) (hb2 : B2 < w.heap.size)
    (h1 : w.cell? ⟨B1, 0, none⟩ = some (.slice (some ⟨g, off, none⟩) (M * 4) cap)) (h2 : w.cell? ⟨B2, 0, none⟩ = some (.int .i64 4)) :
    Calls Tryz.prog 151 #[.func (.func 177) #[] #[.pointer (some ⟨B1, 0, none⟩), .pointer (some ⟨B2, 0, none⟩)]] w fun e W' => ∃ v, e = .returned v ∧ OwnC W' w.heap.size v g off M ∧ Below w.heap.size w W' :=
  callsIn_wide.1 (collect_in Fence.wide 4 trivial trivial trivial rfl (Nat.le_refl _) B1 B2 g off cap M hM hcap w hb1 hb2 h1 h2)

theorem chunk_of (A : Option Addr) (n c : Nat) (w : World) :
    Calls Tryz.prog 149 #[.slice A n c, .int .i64 4] w fun e w' => e = .returned (.func (.func 177) #[] #[.pointer (some ⟨w.heap.size, 0, none⟩), .pointer (some ⟨w.heap.size + 1, 0, none⟩)]) ∧ w' = (w.alloc (.cells #[.slice A n c] 106)).alloc (.cells #[.int .i64 4] 3) := by
  go_enter Tryz.func149, Tryz.ntmps149
  go_wp2
  go_ret
  exact ⟨rfl, rfl⟩
end Go.Proofs.YtoipafnlcchmbaaGreatDoor
namespace Go.Proofs.YtoipafnlcchmbaaGreatDoor
open Go.RowKit

theorem OwnF.below {w w' : World} {base : Nat} {v : Value} {fs : List Nat} (h : OwnF w base v fs) (hb : Below w.heap.size w w') : OwnF w' base v fs :=
  World.ownsRow.kept h (row := none) ⟨hb.os, hb.tape, hb.output, hb.size, fun k hk _ => hb.block k hk⟩ (Classical.em _)
theorem OwnF.form {w : World} {base : Nat} {v : Value} {fs : List Nat} (h : OwnF w base v fs) : ∃ A c, v = .slice A fs.length c ∧ FlAt w A fs.length fs := by
  have h0 := h
  rcases h.2 with ⟨hv, hn⟩ | ⟨g, cap, cur, hv, hb, hg, hnc, hm, hs, ht⟩
  · exact ⟨none, 0, by rw [hn]; exact hv, rfl, fun h => by omega⟩
  · subst hv
    refine ⟨_, _, rfl, rfl, fun _ => ⟨g, 0, rfl, fun i hi => ?_⟩⟩
    rw [Nat.zero_add, World.ownsRow.cellAt h0 i (by omega)]
    simp [List.getElem?_eq_getElem hi]
theorem OwnC.form {w : World} {base : Nat} {v : Value} {g off M : Nat} (h : OwnC w base v g off M) : ∃ A c, v = .slice A M c ∧ ChAt w A M g off := by
  have h0 := h
  rcases h.2 with ⟨hv, hn⟩ | ⟨b, cap, cur, hv, hb, hg, hnc, hm, hs, ht⟩
  · exact ⟨none, 0, by rw [hn]; exact hv, fun h => by omega⟩
  · subst hv
    refine ⟨_, _, rfl, fun _ => ⟨b, 0, rfl, fun i hi => ?_⟩⟩
    rw [Nat.zero_add, World.ownsRow.cellAt h0 i (by omega), List.getElem?_map, List.getElem?_range hi]
    rfl
theorem slice_mid (g N c M : Nat) (hN : N = 14 + M * 4) (hc : N ≤ c) (w : World) : (Instr.slice 106 (.slice (some ⟨g, 0, none⟩) N c) (some (.int .i64 6)) (some (.int .i64 ((6 + M * 4 : Nat) : Int))) none).run Tryz.prog w = .ok (.slice (some ⟨g, 6, none⟩) (M * 4) (c - 6)) w := by
  rw [run_slice_lh w _ _ _ _ bytes_under .i64 .i64 _ _ (by omega) (by omega) (by omega), bytes_elem, byte_size]
  have hne : c ≠ 6 := by omega
  have e1 : (6 : Int).toNat = 6 := rfl
  have e2 : ((6 + M * 4 : Nat) : Int).toNat = 6 + M * 4 := by omega
  rw [e2]
  simp [Result.andThen, sliced, Addr.add, hne]
theorem packL_mid (fs : List Nat) (i j : Nat) (hi : i < fs.length) (hj : j < 4) : (packL fs).getD (6 + i * 4 + j) 0 = (b4 (fs.getD i 0 : Nat)).getD j 0 := by
  rw [packL_part fs _ (by omega)]
  unfold packHead
  rw [List.take_length, List.getD_eq_getElem?_getD, List.getElem?_append_right (by simp; omega)]
  have e : 6 + i * 4 + j - ([83, 78, 68, 49, (fs.length : Int) / 256, (fs.length : Int) % 256] : List Int).length = i * 4 + j := by simp; omega
  rw [e, flat4_at fs i j hi hj]
  rfl
theorem enters_nmz (args : Array Value) (W : World) : (callFunc 153 args).run Tryz.prog W = .ok (.enter 153 args) W := by kernel_rfl

set_option maxHeartbeats 2000000 in
set_option maxRecDepth 100000 in
theorem Unpack_of (g c M N : Nat) (fs : List Nat) (w : World) (hm : fs.length = M) (hM : M ≤ 4096) (hN : N = 14 + M * 4) (hc : N ≤ c) (hg : ∀ i, i < M → Good 1149239296 (fs.getD i 0)) (hv : ∀ i, i < M → fs.getD i 0 < 4294967296 ∧ ((fs.getD i 0 : Int) == 2147483648) = false) (hb : ∀ b ∈ fs, b < 4294967296) (hz : BytesAt w (some ⟨g, 0, none⟩) N (packL fs)) :
    Calls Tryz.prog 87 #[.slice (some ⟨g, 0, none⟩) N c] w fun e w' => ∃ v, e = .returned (.tuple #[v, .int .i64 0]) ∧ OwnF w' w.heap.size v fs ∧ Below w.heap.size w w' := by
  have HZ := Lib.hid hz
  have HN := Lib.hid hN
  have HG := Lib.hid hg
  have HV := Lib.hid hv
  have HB := Lib.hid hb
  have HM := Lib.hid hm
  have hs := slice_mid g N c M hN hc
  have hN8 : (N : Int) - 8 = ((6 + M * 4 : Nat) : Int) := by omega
  have hN9 : N ≤ 20000 := by omega
  have hN6 : 6 ≤ N := by omega
  obtain ⟨T, hT⟩ : ∃ T, T = 6 + M * 4 := ⟨_, rfl⟩
  rw [← hT] at hs hN8
  have HT := Lib.hid hT
  have hT3 : T ≤ 20000 := by omega
  have HC : Hid (∀ i, i < M → ∀ j, j < 4 → w.cell? ⟨g, 6 + i * 4 + j, none⟩ = some (.int .u8 ((b4 (fs.getD i 0 : Nat)).getD j 0))) := by
    intro i hi j hj
    obtain ⟨b, off, he, hcc⟩ := hz.2.2 (by omega)
    simp only [Option.some.injEq, Addr.mk.injEq, and_true] at he
    obtain ⟨rfl, rfl⟩ := he
    have := hcc (6 + i * 4 + j) (by omega)
    rw [Nat.zero_add, packL_mid fs i j (by omega) hj] at this
    exact this
  have hl2 : g < w.heap.size := by
    obtain ⟨b, off, he, hcc⟩ := hz.2.2 (by omega)
    simp only [Option.some.injEq, Addr.mk.injEq, and_true] at he
    obtain ⟨rfl, rfl⟩ := he
    exact World.block_lt_of_cell? _ _ (hcc 0 (by omega))
  clear hg hv hb hm hz hN hT
  go_enter Tryz.func87, Tryz.ntmps87
  go_wp2_with fail
  refine (checkStream_pack g c M T N fs w HM.out hM HT.out (by have := HN.out; have := HT.out; omega) hc HB.out HZ.out).mono ?_
  rintro e w1 ⟨rfl, hb1⟩
  have HB1 := Lib.hid hb1
  have sz1 := hb1.size
  clear hb1
  go_wp2_with fail
  refine (chunk_of (some ⟨g, 6, none⟩) (M * 4) (c - 6) w1).mono ?_
  rintro e w2 ⟨rfl, hw2⟩
  have HB2 : Hid (Below w.heap.size w w2) := by rw [hw2]; exact (HB1.out.alloc HB1.out.size _).alloc (by have := HB1.out.size; simp; omega) _
  have x1 : w2.cell? ⟨w1.heap.size, 0, none⟩ = some (.slice (some ⟨g, 6, none⟩) (M * 4) (c - 6)) := by rw [hw2]; exact ((Blk.new w1 _ _).alloc _).cell 0
  have x2 : w2.cell? ⟨w1.heap.size + 1, 0, none⟩ = some (.int .i64 4) := by rw [hw2]; have := (Blk.new (w1.alloc (.cells #[.slice (some ⟨g, 6, none⟩) (M * 4) (c - 6)] 106)) 3 #[.int .i64 4]).cell 0; rw [size_alloc1] at this; exact this
  have sz2 : w2.heap.size = w1.heap.size + 2 := by rw [hw2]; simp
  have X1 := Lib.hid x1
  have X2 := Lib.hid x2
  have S2 := Lib.hid sz2
  clear x1 x2 sz2 hw2
  go_wp2_with fail
  refine (collect_parts w1.heap.size (w1.heap.size + 1) g 6 (c - 6) M hM (by have := HN.out; omega) w2 (by rw [S2.out]; omega) (by rw [S2.out]; omega) X1.out X2.out).mono ?_
  rintro e w3 ⟨v, rfl, hO, hb3⟩
  have HB3 : Hid (Below w.heap.size w w3) := HB2.out.trans (hb3.mono HB2.out.size)
  obtain ⟨A, cA, rfl, hch⟩ := hO.form
  have HCH := Lib.hid hch
  clear hb3 hO hch
  have HC3 : Hid (∀ i, i < M → ∀ j, j < 4 → w3.cell? ⟨g, 6 + i * 4 + j, none⟩ = some (.int .u8 ((b4 (fs.getD i 0 : Nat)).getD j 0))) := fun i hi j hj => (HB3.out.cell (p := ⟨g, 6 + i * 4 + j, none⟩) hl2).trans (HC.out i hi j hj)
  go_wp2_with fail
  refine (mapped_numbers A M cA g 6 fs w3 hM HM.out (fun i hi => (HV.out i hi).1) HCH.out HC3.out).mono ?_
  rintro e w4 ⟨v, rfl, hO, hb4⟩
  have HB4 : Hid (Below w.heap.size w w4) := HB3.out.trans (hb4.mono HB3.out.size)
  have HO4 : Hid (OwnF w4 w.heap.size v fs) := ownsRow_mono hO HB3.out.size
  obtain ⟨A5, c5, rfl, hfl⟩ := hO.form
  rw [HM.out] at hfl HO4 ⊢
  have HF4 := Lib.hid hfl
  clear hb4 hO hfl HCH HC3
  go_wp2_with fail
  refine (checkSamples_good A5 M c5 fs w4 hM HF4.out HG.out).mono ?_
  rintro e w5 ⟨rfl, hb5⟩
  have HB5 : Hid (Below w.heap.size w w5) := HB4.out.trans (hb5.mono HB4.out.size)
  have HO5 := Lib.hid (HO4.out.below hb5)
  have HF5 := Lib.hid (HF4.out.keep hb5)
  clear hb5
  go_wp2_with fail
  refine (each_float_q 153 A5 M c5 fs w5 (by omega) enters_nmz (fun i hi W => notMinusZero_of _ W (HV.out i hi).2) HF5.out).mono ?_
  rintro e w6 ⟨rfl, rfl⟩
  go_wp2_with (go_at_call 103; (with_reducible refine (first2 _ _ 0 0 _ (by go_simp) (by go_simp)).mono ?_); rintro x w7 ⟨rfl, rfl⟩)
  go_ret2
  exact ⟨_, rfl, World.ownsRow.alloc HO5.out _, HB5.out.alloc HB5.out.size _⟩
end Go.Proofs.YtoipafnlcchmbaaGreatDoor
