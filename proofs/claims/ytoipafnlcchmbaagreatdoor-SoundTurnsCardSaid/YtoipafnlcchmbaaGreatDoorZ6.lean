/- The reference's check of a panel of sixteenths, its conjugates. -/
import Derived.Test.YtoipafnlcchmbaaGreatDoorQZ
import Derived.Test.YtoipafnlcchmbaaGreatDoorQW
namespace Go.Proofs.YtoipafnlcchmbaaGreatDoor
open Go.RowKit Ieee

set_option maxHeartbeats 1000000 in
theorem refCheckPart_S (b : Nat) (v : Int) (hS : S b v) (hb : v.natAbs ≤ 65536) (w : World) : Calls Tryz.prog 110 #[.float .f32 b, .int .i64 65536] w fun e w' => e = .returned (.int .i64 0) ∧ w = w' := by
  have hE := hS.part 12 (by omega) hb
  obtain ⟨s, m, e, h, h1, h2, h3, _⟩ := hS.read (by omega)
  obtain ⟨y, z, m2, e2, N⟩ := num_facts h h1 h2 h3
  have hin := N.in64 lims12
  rw [partE_number h] at hE
  have hout : ¬ 2 ^ (12 + 149) < bigM m e := fun hout => by rw [if_pos hout] at hE; cases hE
  rw [if_neg hout] at hE
  have hw : 16 * bigM m e % 2 ^ 149 = 0 := Classical.byContradiction fun hw => by rw [if_neg hw] at hE; cases hE
  have hp : floatOfInt .f64 65536 = 4679240012837945344 := by kernel_rfl
  have hq : floatBits .sub .f64 0 4679240012837945344 = some 13902612049692721152 := by kernel_rfl
  have hsb : ∀ w', (binOp .sub 37 (.float .f32 b) (.float .f32 b)).run Tryz.prog w' = .ok (.float .f32 0) w' := fun w' => run_float_arith w' .sub _ .f32 b b 0 (sub_self h)
  have hz0 : (FloatKind.f32.format.order 0 0 != some .eq) = false := by kernel_rfl
  have hcv : ∀ w', (convert 37 254 (.float .f32 b)).run Tryz.prog w' = .ok (.float .f64 y) w' := fun w' => run_convert_float_float w' _ _ .f32 .f64 b y (by rw [Tryz.underlying37]; rfl) Tryz.underlying254 N.wide
  have hml : ∀ w', (binOp .mul 254 (.float .f64 4625196817309499392) (.float .f64 y)).run Tryz.prog w' = .ok (.float .f64 z) w' := fun w' => run_float_arith w' .mul _ .f64 _ y z N.mulr
  have hs : ∀ w', (binOp .sub 254 (.float .f64 0) (.float .f64 (floatOfInt .f64 65536))).run Tryz.prog w' = .ok (.float .f64 13902612049692721152) w' := fun w' => by rw [hp]; exact run_float_arith w' .sub _ .f64 0 _ _ hq
  obtain ⟨b1, b2⟩ := hin
  have b1' : (FloatKind.f64.format.order z 13902612049692721152 == some .lt) = (s && decide (2 ^ (12 + 149) < bigM m e)) := b1
  have b2' : (FloatKind.f64.format.order z (floatOfInt .f64 65536) == some .gt) = (!s && decide (2 ^ (12 + 149) < bigM m e)) := by rw [hp]; exact b2
  obtain ⟨t, n, _, _, hn, hz⟩ := N.whole (c := 12) (by omega) hout
  rw [decide_eq_false hout] at b1' b2'
  simp only [Bool.and_false] at b1' b2'
  have hfi : ∀ w', (convert 254 3 (.float .f64 z)).run Tryz.prog w' = .ok (.int .i64 n) w' := fun w' => run_convert_float_int w' _ _ .f64 .i64 z n (by rw [Tryz.underlying254]; rfl) Tryz.underlying3 hn
  have hz' : (FloatKind.f64.format.order (floatOfInt .f64 n) z != some .eq) = !decide (16 * bigM m e % 2 ^ 149 = 0) := hz
  rw [decide_eq_true hw] at hz'
  simp only [Bool.not_true] at hz'
  clear hz hn hE hout hw h N b1 b2 hp hq hS hb
  go_enter Tryz.func110, Tryz.ntmps110
  go_wp2
  go_ret
  exact ⟨rfl, rfl⟩

set_option maxHeartbeats 1000000 in
set_option maxRecDepth 100000 in
theorem refCheckPanel_S (z : Nat → Nat × Nat) (V : Nat → Int × Int) (hz : ∀ n, n < 4 → Z (z n) (V n)) (hV : ∀ n, n < 4 → (V n).1.natAbs ≤ 20000 ∧ (V n).2.natAbs ≤ 20000) (w : World) :
    Calls Tryz.prog 98 #[.agg #[cV (z 0), cV (z 1), cV (z 2), cV (z 3)]] w fun e w' => e = .returned (.int .i64 0) ∧ Below w.heap.size w w' := by
  have HC : Hid (∀ n, n < 4 → ∀ w, (Calls Tryz.prog 110 #[.float .f32 (z n).1, .int .i64 65536] w fun e w' => e = .returned (.int .i64 0) ∧ w = w') ∧ (Calls Tryz.prog 110 #[.float .f32 (z n).2, .int .i64 65536] w fun e w' => e = .returned (.int .i64 0) ∧ w = w')) := fun n hn w =>
    ⟨refCheckPart_S _ _ (hz n hn).1 (by have := hV n hn; omega) w, refCheckPart_S _ _ (hz n hn).2 (by have := hV n hn; omega) w⟩
  have HI : Hid (∀ k, k < 4 → ∀ (t : TypeId) (W : World), Blk W w.heap.size t #[cV (z 0), cV (z 1), cV (z 2), cV (z 3)] → W.cell? ⟨w.heap.size, k, none⟩ = some (cV (z k))) := fun k hk t W hW => by
    rw [hW.cell k]
    match k, hk with
    | 0, _ => rfl
    | 1, _ => rfl
    | 2, _ => rfl
    | 3, _ => rfl
  clear hz hV
  obtain ⟨W0, hW0⟩ : ∃ W0, W0 = w.alloc (.cells #[cV (z 0), cV (z 1), cV (z 2), cV (z 3)] 167) := ⟨_, rfl⟩
  have B0 : Hid (Blk W0 w.heap.size 167 #[cV (z 0), cV (z 1), cV (z 2), cV (z 3)]) := by rw [hW0]; exact Blk.new w _ _
  have HB0 : Hid (Below w.heap.size w W0) := by rw [hW0]; exact (Below.refl _ _).alloc (Nat.le_refl _) _
  go_enter Tryz.func98, Tryz.ntmps98
  go_wp2_with fail
  rw [← hW0]
  clear hW0
  go_loopw [3, 4, 5, 6] (fun bd i _ _ wr => ∃ k : Nat, k ≤ 4 ∧ i = .int .i64 k ∧ bd = .int .i64 0 ∧ Below W0.heap.size W0 wr) (fun _ i _ _ _ => 4 - (intOf i).toNat)
  case atStart => exact ⟨0, Nat.zero_le _, rfl, rfl, Below.refl _ _⟩
  case round =>
    obtain ⟨k, hk, rfl, rfl, hb⟩ := hrel
    have HB := Lib.hid hb
    by_cases hlt : k < 4
    · have hc := HI.out k hlt _ wr (B0.out.below hb)
      unfold cV at hc
      have HC1 := Lib.hid (fun w => (HC.out k hlt w).1.mono fun _ _ ⟨h, e⟩ => (⟨h, e.symm⟩ : _ ∧ _))
      have HC2 := Lib.hid (fun w => (HC.out k hlt w).2.mono fun _ _ ⟨h, e⟩ => (⟨h, e.symm⟩ : _ ∧ _))
      clear hb
      go_upto_region 5 with fail
      refine wp_region_still_tail 10 (by kernel_rfl) (by kernel_rfl) ?_
      simp only [List.take_succ_cons, List.take_zero, List.drop_succ_cons, List.drop_zero]
      change wpStill _ _ (World.drew _) _ _ _
      repeat still_step
      still_call (HC1.out _)
      repeat still_step
      still_call (HC2.out _)
      repeat still_step
      refine wpStill_nil ?_
      change wpList _ _ _ _ _ (World.drew _)
      go_wp2_with fail
      refine (refFirst3 _ _ 0 0 0 _ (by go_simp) (by go_simp) (by go_simp)).mono ?_
      rintro e w1 ⟨rfl, rfl⟩
      go_wp2
      go_roundw
      case rel => exact ⟨k + 1, by omega, by go_num, rfl, HB.out.drew.alloc HB.out.size _⟩
      case measure => simp [intOf]; omega
    · clear hb
      go_wp2
      go_ret
      exact ⟨rfl, HB0.out.trans (HB.out.mono HB0.out.size)⟩
theorem refConjugate_any (a b : Int) (w : World) (hb : b.natAbs ≤ 1000000000000000) :
    Calls Tryz.prog 101 #[.agg #[.int .i64 a, .int .i64 b]] w fun e w' => e = .returned (.agg #[.int .i64 a, .int .i64 (-b)]) ∧ Below w.heap.size w w' := by
  have b1 : -1000000000000000 ≤ b := by omega
  have b2 : b ≤ 1000000000000000 := by omega
  clear hb
  go_enter Tryz.func101, Tryz.ntmps101
  go_wp2
  exact bodyPost_ret (v := .agg #[.int .i64 a, .int .i64 (-b)]) (by simp [results, Tryz.results101, go_sem]) rfl ⟨rfl, ((Below.refl _ _).alloc (Nat.le_refl _) _).alloc (by simp) _⟩
end Go.Proofs.YtoipafnlcchmbaaGreatDoor
