/- What SoundTurns wants besides: samples of integers, floats compared, sums of squares. -/
import Derived.Test.YtoipafnlcchmbaaGreatDoorZ6
import Derived.Test.YtoipafnlcchmbaaGreatDoorZ7
namespace Go.Proofs.YtoipafnlcchmbaaGreatDoor
open Go.RowKit Ieee

/-- The word of the sample of an integer. -/
def sampW (v : Int) : Nat := norm (bitsK (decide (v < 0)) v.natAbs)
theorem sampW_S (v : Int) (h : v.natAbs ≤ 16384) : S (sampW v) v := by
  unfold sampW
  rw [norm_bitsK _ _ h]
  by_cases h0 : v.natAbs = 0
  · rw [if_pos h0]
    have : v = 0 := by omega
    rw [this]; exact S.zero
  · rw [if_neg h0]
    exact ⟨_, rfl, fun _ => rfl⟩
theorem sampW_lt (v : Int) (h : v.natAbs ≤ 16384) : sampW v < 4294967296 := by unfold sampW; exact norm_lt (bitsK_lt _ _ h)
theorem sampW_nmz (v : Int) : nmzE (sampW v) = 0 := by
  unfold nmzE sampW norm
  by_cases h : bitsK (decide (v < 0)) v.natAbs = 2147483648
  · rw [if_pos h]; rfl
  · rw [if_neg h, if_neg h]
theorem sampW_part (v : Int) (h : v.natAbs ≤ 16384) : partE 10 (sampW v) = 0 := (sampW_S v h).part 10 (by omega) h
theorem refSample_v (v : Int) (h : v.natAbs ≤ 16384) (w : World) : Calls Tryz.prog 96 #[.int .i64 v] w fun e w' => e = .returned (.float .f32 (sampW v)) ∧ w = w' := by
  have e : v = intK (decide (v < 0)) v.natAbs := by
    unfold intK
    by_cases hn : v < 0
    · rw [if_pos (by simp [hn])]; omega
    · rw [if_neg (by simp [hn])]; omega
  have := refSample_any (decide (v < 0)) v.natAbs h w
  rw [← e] at this
  exact this
theorem S.eq {x y : Nat} {v : Int} (hx : S x v) (hy : S y v) (hb : v.natAbs ≤ 1048576) : FloatKind.f32.format.order x y = some .eq := by
  obtain ⟨s, m, e, h1, _, h2, _, h3⟩ := hx.read hb
  obtain ⟨t, n, j, g1, _, g2, _, g3⟩ := hy.read hb
  show single.order x y = _
  unfold Format.order
  rw [h1, g1, order_at s t m n e j (-149) h2 g2, show (e - -149) = e + 149 by omega, show (j - -149) = j + 149 by omega, h3, g3, cmp_int, if_neg (Int.lt_irrefl _), if_pos rfl]
theorem S.neq {x y : Nat} {v : Int} (hx : S x v) (hy : S y v) (hb : v.natAbs ≤ 1048576) : (FloatKind.f32.format.order x y != some .eq) = false := by rw [hx.eq hy hb]; rfl
theorem run_part_f32 (w : World) {xs : Array Value} {off : Nat} {v : Value} (hx : xs[off]? = some v) : (part 37 xs off).run Tryz.prog w = .ok v w := by
  simp [part, isAgg, run_underlying Tryz.underlying37, hx]
theorem run_eqItems_float (w : World) (d : Nat) (xs ys : Array Value) (a b : Nat → Nat) :
    ∀ (is : List Nat), (∀ i ∈ is, xs[i]? = some (.float .f32 (a i)) ∧ ys[i]? = some (.float .f32 (b i)) ∧ FloatKind.f32.format.order (a i) (b i) = some .eq) → (Op.eqItems (d + 1) 37 1 xs ys is).run Tryz.prog w = .ok true w
  | [], _ => by simp [Op.eqItems]
  | i :: is, h => by
    obtain ⟨h1, h2, h3⟩ := h i (by simp)
    have ih := run_eqItems_float w d xs ys a b is (fun j hj => h j (by simp [hj]))
    have p1 := run_part_f32 w h1
    have p2 := run_part_f32 w h2
    have q : (Op.equalIn (d + 1) 37 (.float .f32 (a i)) (.float .f32 (b i))).run Tryz.prog w = .ok true w := by
      simp [Op.equalIn, run_underlying Tryz.underlying37, Op.floatEq, h3]
    unfold Op.eqItems
    simp only [Nat.mul_one, Sem.run_bind, p1, p2, Result.andThen_ok, q]
    simp only [Bool.not_true, Bool.false_eq_true, if_false]
    exact ih
theorem eq_f32s (a b : Nat → Nat) (h : ∀ i, i < 4 → FloatKind.f32.format.order (a i) (b i) = some .eq) (w : World) : (Op.equalIn 10000 164 (.agg #[.float .f32 (a 0), .float .f32 (a 1), .float .f32 (a 2), .float .f32 (a 3)]) (.agg #[.float .f32 (b 0), .float .f32 (b 1), .float .f32 (b 2), .float .f32 (b 3)])).run Tryz.prog w = .ok true w := by
  obtain ⟨i, hi⟩ : ∃ i, Tryz.prog.info? 37 = some i := Option.isSome_iff_exists.1 (by kernel_rfl)
  rw [run_equalIn_array w 9999 (n := 4) (e := 37) (i := i) _ _ Tryz.underlying164 hi]
  rw [show Tryz.prog.cellsOf 37 = 1 by kernel_rfl]
  exact run_eqItems_float w 9998 _ _ a b (List.range 4) (fun i hi => by
    have hi4 := List.mem_range.1 hi
    refine ⟨?_, ?_, h i hi4⟩
    · match i, hi4 with
      | 0, _ => rfl
      | 1, _ => rfl
      | 2, _ => rfl
      | 3, _ => rfl
    · match i, hi4 with
      | 0, _ => rfl
      | 1, _ => rfl
      | 2, _ => rfl
      | 3, _ => rfl)
/-- The transform's parts. -/
def pan (x : Nat → Int) (k : Nat) : Int × Int := tsum (fun n => (x n, 0)) (gpow (0, -1) k) 4
theorem pan_0 (x : Nat → Int) : pan x 0 = (x 0 + x 1 + x 2 + x 3, 0) := by simp [pan, tsum, gm, gpow]
theorem pan_1 (x : Nat → Int) : pan x 1 = (x 0 - x 2, x 3 - x 1) := by simp [pan, tsum, gm, gpow]; omega
theorem pan_2 (x : Nat → Int) : pan x 2 = (x 0 - x 1 + x 2 - x 3, 0) := by simp [pan, tsum, gm, gpow]; omega
theorem pan_3 (x : Nat → Int) : pan x 3 = (x 0 - x 2, x 1 - x 3) := by simp [pan, tsum, gm, gpow]; omega
theorem pan_bd (x : Nat → Int) (h : ∀ k, k < 4 → (x k).natAbs ≤ 2000) (k : Nat) (hk : k < 4) : (pan x k).1.natAbs ≤ 8000 ∧ (pan x k).2.natAbs ≤ 8000 := by
  have a := h 0 (by omega)
  have b := h 1 (by omega)
  have c := h 2 (by omega)
  have d := h 3 (by omega)
  match k, hk with
  | 0, _ => rw [pan_0]; simp only; omega
  | 1, _ => rw [pan_1]; simp only; omega
  | 2, _ => rw [pan_2]; simp only; omega
  | 3, _ => rw [pan_3]; simp only; omega
theorem pan_back (x : Nat → Int) (k : Nat) (hk : k < 4) : tsum (pan x) (gpow (0, 1) k) 4 = (4 * x k, 0) := by
  match k, hk with
  | 0, _ => simp [tsum, gm, gpow, pan_0, pan_1, pan_2, pan_3]; omega
  | 1, _ => simp [tsum, gm, gpow, pan_0, pan_1, pan_2, pan_3]; omega
  | 2, _ => simp [tsum, gm, gpow, pan_0, pan_1, pan_2, pan_3]; omega
  | 3, _ => simp [tsum, gm, gpow, pan_0, pan_1, pan_2, pan_3]; omega
theorem pan_power (x : Nat → Int) : (crossI (pan x 0) (pan x 0)).1 + (crossI (pan x 1) (pan x 1)).1 + (crossI (pan x 2) (pan x 2)).1 + (crossI (pan x 3) (pan x 3)).1 = 4 * (x 0 * x 0 + x 1 * x 1 + x 2 * x 2 + x 3 * x 3) := by
  simp only [crossI, pan_0, pan_1, pan_2, pan_3]
  grind
theorem cross_self (p : Int × Int) : (crossI p p).2 = 0 := by simp only [crossI]; grind
theorem cross_swap (p q : Int × Int) : crossI q p = ((crossI p q).1, -(crossI p q).2) := by
  simp only [crossI, Prod.mk.injEq]
  constructor <;> grind
theorem cross_bd (p q : Int × Int) (h1 : p.1.natAbs ≤ 8000) (h2 : p.2.natAbs ≤ 8000) (h3 : q.1.natAbs ≤ 8000) (h4 : q.2.natAbs ≤ 8000) : (crossI p q).1.natAbs ≤ 128000000 ∧ (crossI p q).2.natAbs ≤ 128000000 := by
  have k1 := natAbs_le h1 h3
  have k2 := natAbs_le h2 (show (-q.2).natAbs ≤ 8000 by omega)
  have k3 := natAbs_le h1 (show (-q.2).natAbs ≤ 8000 by omega)
  have k4 := natAbs_le h2 h3
  simp only [crossI]
  omega
end Go.Proofs.YtoipafnlcchmbaaGreatDoor
