/- The reference's checks of samples, at any floats. -/
import Derived.Test.YtiglfpgigdclgaaGreatDoorW2
import Derived.Deep.RegionHeld3
namespace Go.Proofs.YtiglfpgigdclgaaGreatDoor
open Go.RowKit Ieee

def NaN32 (r : Nat) : Prop := ∃ s t, single.read r = .nan s t
theorem nan32_word (n : Nat) : NaN32 (n % 2 * 2 ^ 31 + 0x7f800000 + 1 + n / 2 % (2 ^ 23 - 1)) := by
  unfold NaN32 Format.read
  simp only [splace, sbin, sinf, ssign]
  have h1 : (n % 2 * 2 ^ 31 + 0x7f800000 + 1 + n / 2 % (2 ^ 23 - 1)) % 2147483648 = 2139095040 + 1 + n / 2 % 8388607 := by omega
  rw [h1, if_neg (by omega), if_neg (by omega), if_neg (by omega)]
  exact ⟨_, _, rfl⟩
theorem NaN32.order_l {r : Nat} (h : NaN32 r) (x : Nat) : single.order r x = none := by
  obtain ⟨s, t, h⟩ := h
  unfold Format.order
  rw [h]
  rfl
theorem sub_self {b m : Nat} {s : Bool} {e : Int} (h : single.read b = .number s m e) : floatBits .sub .f32 b b = some 0 := by
  show single.sub b b = some 0
  unfold Format.sub
  rw [h]
  have e0 : signed s m (e - min e e).toNat + signed (!s) m (e - min e e).toNat = 0 := by
    rw [signed_eq, signed_eq]
    cases s <;> simp <;> omega
  show Option.map _ (some (Datum.number (if signed s m (e - min e e).toNat + signed (!s) m (e - min e e).toNat = 0 then s && !s else decide (signed s m (e - min e e).toNat + signed (!s) m (e - min e e).toNat < 0)) (signed s m (e - min e e).toNat + signed (!s) m (e - min e e).toNat).natAbs (min e e))) = some 0
  rw [e0, if_pos rfl]
  cases s <;> rfl
theorem sub_bad {b : Nat} (h : ∀ s m e, single.read b ≠ .number s m e) (w : World) : ∃ r, NaN32 r ∧ (binOp .sub 37 (.float .f32 b) (.float .f32 b)).run Tryz.prog w = .ok (.float .f32 r) w.drew := by
  refine ⟨_, nan32_word (w.tape w.drawn (.nanBits .f32 b b)), ?_⟩
  have e : FloatKind.f32.format.sub b b = none := by
    show single.sub b b = none
    unfold Format.sub
    rcases hb : single.read b with ⟨s, m, e⟩ | s | ⟨s, t⟩
    · exact absurd hb (h s m e)
    · cases s <;> rfl
    · rfl
  simp [binOp, Op.floatArith, e, Question.forced, Question.cut]

set_option maxHeartbeats 2000000 in
theorem refCheckPart_any (c l nl p q b : Nat) (most : Int) (L : Lims c l nl p q) (hp : floatOfInt .f64 most = p) (hq : floatBits .sub .f64 0 p = some q) (w : World) : Calls Tryz.prog 110 #[.float .f32 b, .int .i64 most] w fun e w' => e = .returned (.int .i64 (partE c b)) ∧ Below w.heap.size w w' := by
  by_cases hnum : ∃ s m e, single.read b = .number s m e ∧ m < 2 ^ 24 ∧ -149 ≤ e ∧ e ≤ 104
  · obtain ⟨s, m, e, h, h1, h2, h3⟩ := hnum
    obtain ⟨y, z, m2, e2, N⟩ := num_facts h h1 h2 h3
    have hb := N.in64 L
    have hsb : ∀ w', (binOp .sub 37 (.float .f32 b) (.float .f32 b)).run Tryz.prog w' = .ok (.float .f32 0) w' := fun w' => run_float_arith w' .sub _ .f32 b b 0 (sub_self h)
    have hz0 : (FloatKind.f32.format.order 0 0 != some .eq) = false := by kernel_rfl
    have hcv : ∀ w', (convert 37 253 (.float .f32 b)).run Tryz.prog w' = .ok (.float .f64 y) w' := fun w' => run_convert_float_float w' _ _ .f32 .f64 b y (by rw [Tryz.underlying37]; rfl) Tryz.underlying253 N.wide
    have hml : ∀ w', (binOp .mul 253 (.float .f64 4625196817309499392) (.float .f64 y)).run Tryz.prog w' = .ok (.float .f64 z) w' := fun w' => run_float_arith w' .mul _ .f64 _ y z N.mulr
    have hs : ∀ w', (binOp .sub 253 (.float .f64 0) (.float .f64 (floatOfInt .f64 most))).run Tryz.prog w' = .ok (.float .f64 q) w' := fun w' => by rw [hp]; exact run_float_arith w' .sub _ .f64 0 p q hq
    have hE := Lib.hid (partE_number (c := c) h)
    have HN := Lib.hid N
    have HC := Lib.hid L.c
    obtain ⟨b1, b2⟩ := hb
    have b1' : (FloatKind.f64.format.order z q == some .lt) = (s && decide (2 ^ (c + 149) < bigM m e)) := b1
    have b2' : (FloatKind.f64.format.order z (floatOfInt .f64 most) == some .gt) = (!s && decide (2 ^ (c + 149) < bigM m e)) := by rw [hp]; exact b2
    clear h b1 b2 N L hp hq
    by_cases hout : 2 ^ (c + 149) < bigM m e
    · rw [hE.out, if_pos hout]
      rw [decide_eq_true hout] at b1' b2'
      clear hE hout
      cases s
      · simp only [Bool.false_and, Bool.not_false, Bool.true_and] at b1' b2'
        go_enter Tryz.func110, Tryz.ntmps110
        go_wp2
        go_ret
        exact ⟨rfl, Below.refl _ _⟩
      · simp only [Bool.true_and, Bool.not_true, Bool.false_and] at b1' b2'
        go_enter Tryz.func110, Tryz.ntmps110
        go_wp2
        go_ret
        exact ⟨rfl, Below.refl _ _⟩
    · obtain ⟨t, n, _, _, hn, hz⟩ := HN.out.whole HC.out hout
      rw [hE.out, if_neg hout]
      rw [decide_eq_false hout] at b1' b2'
      simp only [Bool.and_false] at b1' b2'
      have hfi : ∀ w', (convert 253 3 (.float .f64 z)).run Tryz.prog w' = .ok (.int .i64 n) w' := fun w' => run_convert_float_int w' _ _ .f64 .i64 z n (by rw [Tryz.underlying253]; rfl) Tryz.underlying3 hn
      have hz' : (FloatKind.f64.format.order (floatOfInt .f64 n) z != some .eq) = !decide (16 * bigM m e % 2 ^ 149 = 0) := hz
      clear hz hn hE hout
      by_cases hw : 16 * bigM m e % 2 ^ 149 = 0
      · rw [if_pos hw]
        rw [decide_eq_true hw] at hz'
        simp only [Bool.not_true] at hz'
        clear hw
        go_enter Tryz.func110, Tryz.ntmps110
        go_wp2
        go_ret
        exact ⟨rfl, Below.refl _ _⟩
      · rw [if_neg hw]
        rw [decide_eq_false hw] at hz'
        simp only [Bool.not_false] at hz'
        clear hw
        go_enter Tryz.func110, Tryz.ntmps110
        go_wp2
        go_ret
        exact ⟨rfl, Below.refl _ _⟩
  · have hnone : ∀ s m e, single.read b ≠ .number s m e := fun s m e h => by
      rcases single_cases b with ⟨s', m', e', h', h1, h2, h3⟩ | ⟨s', h'⟩ | ⟨s', t, h'⟩
      · exact hnum ⟨s', m', e', h', h1, h2, h3⟩
      · rw [h'] at h; cases h
      · rw [h'] at h; cases h
    have hE := partE_none (c := c) hnone
    rw [hE]
    obtain ⟨r, hr, hsb⟩ := sub_bad hnone w
    have hz : (FloatKind.f32.format.order r 0 != some .eq) = true := by rw [show FloatKind.f32.format.order r 0 = none from hr.order_l 0]; rfl
    clear hnone hnum hE hr L hp hq
    go_enter Tryz.func110, Tryz.ntmps110
    go_wp2
    go_ret
    exact ⟨rfl, (Below.refl _ _).drew⟩

set_option maxRecDepth 100000 in
theorem refCheckSample_any (b : Nat) (w : World) :
    Calls Tryz.prog 28 #[.float .f32 b] w fun e w' => e = .returned (.int .i64 (partE 10 b)) ∧ Below w.heap.size w w' := by
  go_enter Tryz.func28, Tryz.ntmps28
  go_wp2_with fail
  refine (refCheckPart_any 10 1149239296 3296722944 4670232813583204352 13893604850437980160 b 16384 lims10 (by kernel_rfl) (by kernel_rfl) _).mono ?_
  rintro e w1 ⟨rfl, hb⟩
  have HB := Lib.hid hb
  clear hb
  go_wp2
  go_ret
  exact ⟨rfl, HB.out⟩

set_option maxHeartbeats 1000000 in
set_option maxRecDepth 100000 in
theorem refCheckAll_any (A : Option Addr) (n c : Nat) (fs : List Nat) (w : World) (hn : n ≤ 140737488351232) (hz : FlAt w A n fs) :
    Calls Tryz.prog 113 #[.slice A n c] w fun e w' => e = .returned (.int .i64 (firstInF (partE 10) fs)) ∧ Below w.heap.size w w' := by
  have HZ := Lib.hid hz
  clear hz
  go_enter Tryz.func113, Tryz.ntmps113
  go_wp2
  go_loopw [3, 4] (fun i _ wr => ∃ k : Nat, k ≤ n ∧ i = .int .i64 k ∧ Hid (∀ i, i < k → partE 10 (fs.getD i 0) = 0) ∧ Below w.heap.size w wr) (fun i _ _ => n - (intOf i).toNat)
  case atStart => exact ⟨0, Nat.zero_le _, rfl, fun i hi => by omega, Below.refl _ _⟩
  case round =>
    obtain ⟨k, hk, rfl, hz, hb⟩ := hrel
    have HB := Lib.hid hb
    by_cases hlt : k < n
    · obtain ⟨b, off, rfl, hcc⟩ := (HZ.out.keep hb).2 (by omega)
      clear hb
      obtain ⟨x, hx⟩ : ∃ x, x = fs.getD k 0 := ⟨_, rfl⟩
      have h0 := hcc k hlt
      rw [← hx] at h0
      have HX := Lib.hid hx
      clear hcc hx
      go_wp2_with fail
      refine (refCheckSample_any x _).mono ?_
      rintro e w1 ⟨rfl, hb1⟩
      have HB1 : Hid (Below w.heap.size w w1) := HB.out.trans (hb1.mono HB.out.size)
      obtain ⟨y, hy⟩ : ∃ y, y = partE 10 x := ⟨_, rfl⟩
      rw [← hy]
      have HY := Lib.hid hy
      clear hb1 hy
      by_cases he : y = 0
      · have h1 : (y != 0) = false := by simp [he]
        have HE := Lib.hid he
        clear he
        go_wp2
        go_roundw
        case rel =>
          refine ⟨k + 1, by omega, by go_num, fun i hi => ?_, HB1.out⟩
          by_cases hik : i < k
          · exact hz.out i hik
          · obtain rfl : i = k := by omega
            rw [← HX.out, ← HY.out]; exact HE.out
        case measure => simp [intOf]; omega
      · have h1 : (y != 0) = true := by simp [he]
        have HE := Lib.hid he
        clear he
        go_wp2
        go_ret
        exact ⟨ret_int (by rw [firstInF_hit (partE 10) fs k (by rw [HZ.out.1]; exact hlt) hz.out (by rw [← HX.out, ← HY.out]; exact HE.out), ← HX.out]; exact HY.out), HB1.out⟩
    · clear hb
      go_wp2
      go_ret
      exact ⟨ret_int (firstInF_miss (partE 10) fs (fun i hi => hz.out i (by rw [HZ.out.1] at hi; omega))).symm, HB.out⟩
theorem shortList_any (A : Option Addr) (n c : Nat) (w : World) (hn : n ≤ 140737488351232) :
    Calls Tryz.prog 26 #[.slice A n c] w fun e w' => e = .returned (.bool (decide (n ≤ 40 ∨ n = 4097))) ∧ w = w' := by
  obtain ⟨b, hb⟩ : ∃ b, b = decide (n ≤ 40 ∨ n = 4097) := ⟨_, rfl⟩
  rw [← hb]
  have HB := Lib.hid hb
  clear hb
  by_cases h : n ≤ 40
  · have h1 : decide ((n : Int) ≤ 40) = true := by simp; omega
    go_enter Tryz.func26, Tryz.ntmps26
    go_wp2
    go_ret
    exact ⟨ret_bool (by rw [HB.out]; simp [h]), rfl⟩
  · have h1 : decide ((n : Int) ≤ 40) = false := by simp; omega
    by_cases h2 : n = 4097
    · have h3 : ((n : Int) == 4097) = true := by simp [h2]
      have H2 := Lib.hid h2
      clear h2
      go_enter Tryz.func26, Tryz.ntmps26
      go_wp2
      go_ret
      exact ⟨ret_bool (by rw [HB.out]; simp [H2.out]), rfl⟩
    · have h3 : ((n : Int) == 4097) = false := by simp; omega
      go_enter Tryz.func26, Tryz.ntmps26
      go_wp2
      go_ret
      exact ⟨ret_bool (by rw [HB.out]; simp [h, h2]), rfl⟩
end Go.Proofs.YtiglfpgigdclgaaGreatDoor
