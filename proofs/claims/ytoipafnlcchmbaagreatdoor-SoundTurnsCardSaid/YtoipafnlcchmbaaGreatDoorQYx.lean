/- The reference's words of samples: bits, there and back. The reference's Pack of samples without fault. The reference's Unpack, of any bytes. The reference's Unpack: the samples of a stream that is whole. What SoundStreams wants besides: its copies of long bytes, the reference's Unpack of any bytes, and bytes compared. -/
import Derived.Test.YtoipafnlcchmbaaGreatDoorQY
import Derived.Test.YtoipafnlcchmbaaGreatDoorQW
import Derived.Test.YtoipafnlcchmbaaGreatDoorQF
import Derived.Test.YtoipafnlcchmbaaGreatDoorQL
import Derived.Test.YtoipafnlcchmbaaGreatDoorR4
import Derived.Test.YtoipafnlcchmbaaGreatDoorR2
namespace Go.Proofs.YtoipafnlcchmbaaGreatDoor
open Go.RowKit Ieee

theorem intK_bd (s : Bool) (k : Nat) (h : k ≤ 16384) : -16384 ≤ intK s k ∧ intK s k ≤ 16384 := by
  unfold intK; cases s <;> simp <;> omega
theorem intK_zero (s : Bool) : intK s 0 = 0 := by cases s <;> rfl

theorem refSixteenths_any (s : Bool) (k : Nat) (h : k ≤ 16384) (w : World) :
    Calls Tryz.prog 180 #[.float .f32 (bitsK s k)] w fun e w' => e = .returned (.int .i64 (intK s k)) ∧ w = w' := by
  obtain ⟨z, hm, hi⟩ := times16 s k h
  obtain ⟨x, hx⟩ : ∃ x, x = bitsK s k := ⟨_, rfl⟩
  obtain ⟨i, hi2⟩ : ∃ i, i = intK s k := ⟨_, rfl⟩
  have hi3 : floatToIntVal .f32 z .i64 = some i := by rw [hi, hi2]; rfl
  rw [← hx] at hm ⊢
  rw [← hi2]
  have hml : ∀ w', (binOp .mul 37 (.float .f32 1098907648) (.float .f32 x)).run Tryz.prog w' = .ok (.float .f32 z) w' := fun w' => run_float_arith w' .mul _ .f32 _ x z hm
  have hcv : ∀ w', (convert 37 3 (.float .f32 z)).run Tryz.prog w' = .ok (.int .i64 i) w' := fun w' => run_convert_float_int w' _ _ .f32 .i64 z _ (by rw [Tryz.underlying37]; rfl) Tryz.underlying3 hi3
  clear hm hi hi2 hi3 hx
  go_enter Tryz.func180, Tryz.ntmps180
  go_wp2
  go_ret
  exact ⟨rfl, rfl⟩
theorem refSample_any (s : Bool) (k : Nat) (h : k ≤ 16384) (w : World) :
    Calls Tryz.prog 96 #[.int .i64 (intK s k)] w fun e w' => e = .returned (.float .f32 (norm (bitsK s k))) ∧ w = w' := by
  obtain ⟨y, hy⟩ : ∃ y, y = norm (bitsK s k) := ⟨_, rfl⟩
  obtain ⟨i, hi⟩ : ∃ i, i = intK s k := ⟨_, rfl⟩
  have hq : ∀ w', (binOp .quo 37 (.float .f32 (floatOfInt .f32 i)) (.float .f32 1098907648)).run Tryz.prog w' = .ok (.float .f32 y) w' := fun w' => run_float_arith w' .quo _ .f32 _ _ y (by rw [hi, hy, norm_bitsK s k h]; exact sampleOf s k h)
  rw [← hy, ← hi]
  clear hy hi
  go_enter Tryz.func96, Tryz.ntmps96
  go_wp2
  go_ret
  exact ⟨rfl, rfl⟩

/-- The word in the reference's own arithmetic. -/
theorem bits_parts (s : Bool) (k p : Nat) (h0 : k ≠ 0) (h : k ≤ 16384) (hp : p = k.log2) : ∃ P Q : Int, (2 : Int) ^ p = P ∧ ((k : Int) - P) * 2 ^ (23 - p) = Q ∧ 1 ≤ P ∧ P ≤ 16384 ∧ P ≤ k ∧ 0 ≤ Q ∧ Q < 8388608 ∧ ((norm (bitsK s k) : Nat) : Int) = (if s then 2147483648 else 0) + (((p : Int) + 123) * 8388608 + Q) := by
  have hl := logK k h
  rw [← hp] at hl
  obtain ⟨lo, hi⟩ := log_lt k p h0 hp
  refine ⟨2 ^ p, ((k : Int) - 2 ^ p) * 2 ^ (23 - p), rfl, rfl, ?_, ?_, ?_, ?_, ?_, ?_⟩
  · have := Nat.two_pow_pos p
    have e : ((2 ^ p : Nat) : Int) = 2 ^ p := by rw [Int.natCast_pow]; rfl
    omega
  · have e : ((2 ^ p : Nat) : Int) = 2 ^ p := by rw [Int.natCast_pow]; rfl
    omega
  · have e : ((2 ^ p : Nat) : Int) = 2 ^ p := by rw [Int.natCast_pow]; rfl
    omega
  · have e : ((2 ^ p : Nat) : Int) = 2 ^ p := by rw [Int.natCast_pow]; rfl
    have e2 : ((2 ^ (23 - p) : Nat) : Int) = 2 ^ (23 - p) := by rw [Int.natCast_pow]; rfl
    rw [← e2]
    exact Int.mul_nonneg (by omega) (Int.natCast_nonneg _)
  · have e : ((2 ^ p : Nat) : Int) = 2 ^ p := by rw [Int.natCast_pow]; rfl
    have e2 : ((2 ^ (23 - p) : Nat) : Int) = 2 ^ (23 - p) := by rw [Int.natCast_pow]; rfl
    have e3 : 2 ^ p * 2 ^ (23 - p) = 8388608 := by rw [← Nat.pow_add, show p + (23 - p) = 23 by omega]
    rw [← e, ← e2, ← Int.ofNat_sub lo, ← Int.natCast_mul]
    have h2 : k - 2 ^ p < 2 ^ p := by rw [Nat.pow_succ] at hi; omega
    have h3 : (k - 2 ^ p) * 2 ^ (23 - p) < 2 ^ p * 2 ^ (23 - p) := Nat.mul_lt_mul_of_pos_right h2 (Nat.two_pow_pos _)
    omega
  · rw [norm_word s k h0 h, ← hp]

set_option maxHeartbeats 400000 in
set_option maxRecDepth 100000 in
theorem refBits_any (s : Bool) (k : Nat) (h : k ≤ 16384) (w : World) :
    Calls Tryz.prog 154 #[.float .f32 (bitsK s k)] w fun e w' => e = .returned (.int .i64 (norm (bitsK s k) : Nat)) ∧ w = w' := by
  have HC : Hid (∀ w, Calls Tryz.prog 180 #[.float .f32 (bitsK s k)] w fun e w' => e = .returned (.int .i64 (intK s k)) ∧ w = w') := refSixteenths_any s k h
  by_cases h0 : k = 0
  · subst h0
    have hn : ((norm (bitsK s 0) : Nat) : Int) = 0 := by rw [norm_bitsK s 0 h, if_pos rfl]; rfl
    rw [hn]
    rw [intK_zero] at HC
    obtain ⟨x, hx⟩ : ∃ x, x = bitsK s 0 := ⟨_, rfl⟩
    rw [← hx] at HC ⊢
    clear hx hn
    go_enter Tryz.func154, Tryz.ntmps154
    go_wp2_with fail
    refine (HC.out _).mono ?_
    rintro e w1 ⟨rfl, rfl⟩
    go_wp2
    go_ret
    exact ⟨rfl, rfl⟩
  · obtain ⟨p, hp⟩ : ∃ p, p = k.log2 := ⟨_, rfl⟩
    have hp14 : p ≤ 14 := by rw [hp]; exact logK k h
    obtain ⟨P, Q, hP, hQ, p1, p2, p3, q1, q2, hr⟩ := bits_parts s k p h0 h hp
    have HD : Hid (∀ j : Nat, (0 < (k : Int) / 2 ^ (j + 1)) ↔ j < p) := fun j => more_digits k p j h0 hp
    obtain ⟨x, hx⟩ : ∃ x, x = bitsK s k := ⟨_, rfl⟩
    rw [← hx] at hr HC ⊢
    rw [hr]
    have HP := Lib.hid hP
    have HQ := Lib.hid hQ
    clear hP hQ hr hx hp
    have hk0 : 0 < k := by omega
    cases s
    · have hz : intK false k = (k : Int) := rfl
      rw [hz] at HC
      clear hz
      simp only [Bool.false_eq_true, if_false]
      go_enter Tryz.func154, Tryz.ntmps154
      go_wp2_with fail
      refine (HC.out _).mono ?_
      rintro e w1 ⟨rfl, rfl⟩
      go_wp2
      go_loop [5] (fun i => ∃ j : Nat, j ≤ p ∧ i = .int .i64 j) (fun i => p - (intOf i).toNat)
      case atStart => exact ⟨0, Nat.zero_le _, rfl⟩
      case round =>
        obtain ⟨j, hj, rfl⟩ := hrel
        have hD := HD.out j
        by_cases hlt : j < p
        · have hgt : (0 : Int) < (k : Int) / 2 ^ (j + 1) := hD.2 hlt
          clear hD
          go_wp2
          go_round
          case rel => exact ⟨j + 1, by omega, by go_num⟩
          case measure => simp [intOf]; omega
        · have hgt : ¬ (0 : Int) < (k : Int) / 2 ^ (j + 1) := fun hh => hlt (hD.1 hh)
          obtain rfl : j = p := by omega
          clear hD
          go_wp2
          go_ret
          refine ⟨ret_int ?_, rfl⟩
          have e1 : wrap64 ((2 : Int) ^ j) = P := by rw [HP.out]; unfold wrap64; omega
          have e0 : wrap64 ((k : Int) - P) = (k : Int) - P := by unfold wrap64; omega
          have e2 : wrap64 (wrap64 ((k : Int) - wrap64 (2 ^ j)) * 2 ^ (23 - j)) = Q := by rw [e1, e0, HQ.out]; unfold wrap64; omega
          rw [e2]
          unfold wrap64
          omega
    · have hz : intK true k = -(k : Int) := rfl
      rw [hz] at HC
      clear hz
      simp only [if_true]
      go_enter Tryz.func154, Tryz.ntmps154
      go_wp2_with fail
      refine (HC.out _).mono ?_
      rintro e w1 ⟨rfl, rfl⟩
      go_wp2
      go_loop [5] (fun i => ∃ j : Nat, j ≤ p ∧ i = .int .i64 j) (fun i => p - (intOf i).toNat)
      case atStart => exact ⟨0, Nat.zero_le _, rfl⟩
      case round =>
        obtain ⟨j, hj, rfl⟩ := hrel
        have hD := HD.out j
        by_cases hlt : j < p
        · have hgt : (0 : Int) < (k : Int) / 2 ^ (j + 1) := hD.2 hlt
          clear hD
          go_wp2
          go_round
          case rel => exact ⟨j + 1, by omega, by go_num⟩
          case measure => simp [intOf]; omega
        · have hgt : ¬ (0 : Int) < (k : Int) / 2 ^ (j + 1) := fun hh => hlt (hD.1 hh)
          obtain rfl : j = p := by omega
          clear hD
          go_wp2
          go_ret
          refine ⟨ret_int ?_, rfl⟩
          have e1 : wrap64 ((2 : Int) ^ j) = P := by rw [HP.out]; unfold wrap64; omega
          have e0 : wrap64 ((k : Int) - P) = (k : Int) - P := by unfold wrap64; omega
          have e2 : wrap64 (wrap64 ((k : Int) - wrap64 (2 ^ j)) * 2 ^ (23 - j)) = Q := by rw [e1, e0, HQ.out]; unfold wrap64; omega
          rw [e2]
          unfold wrap64
          omega

theorem norm_zero {b : Nat} (hb : b < 4294967296) (h1 : b / 8388608 % 256 = 0) (h2 : b % 8388608 = 0) : norm b = 0 := by
  unfold norm
  split
  · rfl
  · omega
set_option maxHeartbeats 2000000 in
set_option maxRecDepth 100000 in
/-- The middle: one walk for the three ways. -/
theorem refNumber_mid (b E R M D : Nat) (w : World) (e1 : (b : Int) / 8388608 % 256 = (E : Int)) (e2 : (b : Int) % 8388608 = (R : Int)) (hR8 : R < 8388608) (h0 : 123 ≤ E) (h1 : E < 146) (hM : M = 8388608 + R) (hD : D = 2 ^ (146 - E)) (hb : b < 4294967296) (q : Nat) (hq : q = M % D) (k : Nat) (hk : k = M / D) (y : Nat)
    (HS : Hid (∀ i : Int, q = 0 → k ≤ 16384 → i = (if 2147483648 ≤ b then -(k : Int) else k) → ∀ w, Calls Tryz.prog 96 #[.int .i64 i] w fun e w' => e = .returned (.float .f32 y) ∧ w = w')) :
    Calls Tryz.prog 155 #[.int .i64 b] w fun e w' => e = .returned (.tuple #[.float .f32 (if q = 0 ∧ k ≤ 16384 then y else 0), .int .i64 (if q = 0 ∧ k ≤ 16384 then 0 else 3)]) ∧ w = w' := by
  have hD0 : 0 < D := by rw [hD]; exact Nat.two_pow_pos _
  have hDm : D ≤ 8388608 := by
    rw [hD, show 8388608 = 2 ^ 23 by decide]
    exact Nat.pow_le_pow_right (by omega) (by omega)
  have hsh : (2 : Int) ^ (146 - E) = (D : Int) := by rw [hD, Int.natCast_pow]; rfl
  have q1 : ((E : Int) == 255) = false := by simp; omega
  have q2 : ((E : Int) == 0) = false := by simp; omega
  have q3 : decide ((146 : Int) ≤ (E : Int)) = false := by simp; omega
  have q4 : decide ((E : Int) < 123) = false := by simp; omega
  have hM2 : (8388608 : Int) + (R : Int) = (M : Int) := by omega
  have f1 : (M : Int) % (D : Int) = (q : Int) := by rw [hq]; exact (Int.natCast_emod M D).symm
  have f2 : (M : Int) / (D : Int) = (k : Int) := by rw [hk]; exact (Int.natCast_ediv M D).symm
  have hkM : k ≤ 16777216 := by rw [hk]; exact Nat.le_trans (Nat.div_le_self _ _) (by omega)
  have hqM : q ≤ 16777216 := by rw [hq]; exact Nat.le_trans (Nat.mod_le _ _) (by omega)
  have HF1 := Lib.hid f1
  have HF2 := Lib.hid f2
  have HM2 := Lib.hid hM2
  have HSH := Lib.hid hsh
  obtain ⟨rv, hrv⟩ : ∃ rv : Nat, rv = if q = 0 ∧ k ≤ 16384 then y else 0 := ⟨_, rfl⟩
  obtain ⟨re, hre⟩ : ∃ re : Int, re = if q = 0 ∧ k ≤ 16384 then 0 else 3 := ⟨_, rfl⟩
  rw [← hrv, ← hre]
  have HRV := Lib.hid hrv
  have HRE := Lib.hid hre
  clear hD hM hk hq hsh f1 f2 hM2 hrv hre
  go_enter Tryz.func155, Tryz.ntmps155
  go_upto_region 2 with fail
  simp only [e1, e2]
  clear e1 e2
  go_upto_region 7 with fail
  simp only [HM2.out]
  go_upto_region 10 with fail
  have hw : wrap64 ((2 : Int) ^ (146 - E)) = (D : Int) := by rw [HSH.out]; unfold wrap64; omega
  simp only [hw]
  clear hw HM2 HSH
  have f1 := HF1.out
  have f2 := HF2.out
  have hDi : (0 : Int) < (D : Int) := by omega
  have hDn : (D : Int) ≠ 0 := by omega
  by_cases c1 : q = 0
  · subst c1
    by_cases c2 : k ≤ 16384
    · rw [if_pos ⟨rfl, c2⟩] at HRV HRE
      by_cases hs : 2147483648 ≤ b
      · have HS' := Lib.hid (HS.out (-(k : Int)) rfl c2 (by rw [if_pos hs]))
        have hs' : decide ((2147483648 : Int) ≤ (b : Int)) = true := by simp; omega
        clear HS
        go_wp2_with fail
        refine (HS'.out _).mono ?_
        rintro e w1 ⟨rfl, rfl⟩
        go_wp2
        go_ret2
        exact ⟨by rw [HRV.out, HRE.out]; rfl, rfl⟩
      · have HS' := Lib.hid (HS.out (k : Int) rfl c2 (by rw [if_neg hs]))
        have hs' : decide ((2147483648 : Int) ≤ (b : Int)) = false := by simp; omega
        clear HS
        go_wp2_with fail
        refine (HS'.out _).mono ?_
        rintro e w1 ⟨rfl, rfl⟩
        go_wp2
        go_ret2
        exact ⟨by rw [HRV.out, HRE.out]; rfl, rfl⟩
    · rw [if_neg (fun h => c2 h.2)] at HRV HRE
      have f3 : decide ((16384 : Int) < (k : Int)) = true := by simp; omega
      clear HS
      go_wp2
      go_ret2
      exact ⟨by rw [HRV.out, HRE.out]; rfl, rfl⟩
  · rw [if_neg (fun h => c1 h.1)] at HRV HRE
    have f3 : ((q : Int) != 0) = true := by simp; omega
    clear HS
    go_wp2
    go_ret2
    exact ⟨by rw [HRV.out, HRE.out]; rfl, rfl⟩

set_option maxHeartbeats 400000 in
set_option maxRecDepth 100000 in
theorem refNumber_any (b : Nat) (hb : b < 4294967296) (w : World) :
    Calls Tryz.prog 155 #[.int .i64 b] w fun e w' => e = .returned (.tuple #[.float .f32 (if partE 10 b = 0 then norm b else 0), .int .i64 (partE 10 b)]) ∧ w = w' := by
  obtain ⟨E, hE⟩ : ∃ E, E = b / 8388608 % 256 := ⟨_, rfl⟩
  obtain ⟨R, hR⟩ : ∃ R, R = b % 8388608 := ⟨_, rfl⟩
  have e1 : (b : Int) / 8388608 % 256 = (E : Int) := by omega
  have e2 : (b : Int) % 8388608 = (R : Int) := by omega
  have hE256 : E < 256 := by omega
  have hR8 : R < 8388608 := by omega
  by_cases c1 : E = 255
  · have hp := part_full (hE.symm.trans c1)
    rw [hp, if_neg (by decide)]
    subst c1
    clear hE hR hp
    go_enter Tryz.func155, Tryz.ntmps155
    go_wp2
    go_ret2
    exact ⟨rfl, rfl⟩
  · by_cases c2 : E = 0
    · have hp := part_none (hE.symm.trans c2)
      rw [← hR] at hp
      by_cases r0 : R = 0
      · rw [if_pos r0] at hp
        rw [hp, if_pos rfl, norm_zero hb (hE.symm.trans c2) (hR.symm.trans r0)]
        subst c2 r0
        clear hE hR hp
        go_enter Tryz.func155, Tryz.ntmps155
        go_wp2_with fail
        refine (refWhen_any _ _ _).mono ?_
        rintro e w1 ⟨rfl, rfl⟩
        go_wp2
        go_ret2
        exact ⟨rfl, rfl⟩
      · rw [if_neg r0] at hp
        rw [hp, if_neg (by decide)]
        have hr1 : ((R : Int) != 0) = true := by simp [r0]
        subst c2
        clear hE hR hp
        go_enter Tryz.func155, Tryz.ntmps155
        go_wp2_with fail
        refine (refWhen_any _ _ _).mono ?_
        rintro e w1 ⟨rfl, rfl⟩
        go_wp2
        go_ret2
        exact ⟨rfl, rfl⟩
    · by_cases c3 : 146 ≤ E
      · have hp := part_high (by rw [← hE]; exact c3) (by rw [← hE]; omega)
        rw [hp, if_neg (by decide)]
        have q1 : ((E : Int) == 255) = false := by simp; omega
        have q2 : ((E : Int) == 0) = false := by simp; omega
        have q3 : decide ((146 : Int) ≤ (E : Int)) = true := by simp; omega
        clear hE hR hp
        go_enter Tryz.func155, Tryz.ntmps155
        go_wp2
        go_ret2
        exact ⟨rfl, rfl⟩
      · by_cases c4 : E < 123
        · have hp := part_low (by rw [← hE]; exact c4) (by rw [← hE]; exact c2)
          rw [hp, if_neg (by decide)]
          have q1 : ((E : Int) == 255) = false := by simp; omega
          have q2 : ((E : Int) == 0) = false := by simp; omega
          have q3 : decide ((146 : Int) ≤ (E : Int)) = false := by simp; omega
          have q4 : decide ((E : Int) < 123) = true := by simp; omega
          clear hE hR hp
          go_enter Tryz.func155, Tryz.ntmps155
          go_wp2
          go_ret2
          exact ⟨rfl, rfl⟩
        · have hp := part_mid hE.symm (by omega) (by omega)
          have hw := fun k => mid_word (k := k) hb hE.symm (by omega) (by omega)
          rw [← hR] at hp hw
          obtain ⟨D, hD⟩ : ∃ D, D = 2 ^ (146 - E) := ⟨_, rfl⟩
          obtain ⟨M, hM⟩ : ∃ M, M = 8388608 + R := ⟨_, rfl⟩
          rw [← hD, ← hM] at hp hw
          have hp' : partE 10 b = if M % D = 0 ∧ M / D ≤ 16384 then 0 else 3 := hp
          have e : (if partE 10 b = 0 then norm b else 0) = if M % D = 0 ∧ M / D ≤ 16384 then norm b else 0 := by
            rw [hp']; split <;> simp
          rw [e, hp']
          refine refNumber_mid b E R M D w e1 e2 hR8 (by omega) (by omega) hM hD hb _ rfl _ rfl (norm b) (fun i h1 h2 hi w => ?_)
          obtain ⟨hk0, hbk⟩ := hw (M / D) (Nat.div_mul_cancel (Nat.dvd_of_mod_eq_zero h1)).symm h2
          have e3 := refSample_any (decide (2147483648 ≤ b)) (M / D) h2 w
          rw [← hbk] at e3
          have e4 : i = intK (decide (2147483648 ≤ b)) (M / D) := by
            rw [hi]
            unfold intK
            by_cases hs : 2147483648 ≤ b
            · rw [if_pos hs, if_pos (by simp [hs])]
            · rw [if_neg hs, if_neg (by simp [hs])]
          rw [e4]
          exact e3
end Go.Proofs.YtoipafnlcchmbaaGreatDoor
namespace Go.Proofs.YtoipafnlcchmbaaGreatDoor
open Go.RowKit

/-- Lists of samples without fault. -/
def Kay (b : Nat) : Prop := ∃ s k, k ≤ 16384 ∧ b = bitsK s k
theorem kay_of {fs : List Nat} (hE : checkSamplesE fs = 0) (hb : ∀ i, i < fs.length → fs.getD i 0 < 4294967296) (i : Nat) (hi : i < fs.length) : Kay (fs.getD i 0) := by
  have hm : ¬ 4096 < fs.length := fun hm => by rw [checkSamplesE_many fs hm] at hE; cases hE
  rw [checkSamplesE_few fs hm] at hE
  refine sample_is (hb i hi) ?_
  by_cases hall : ∀ j, j < fs.length → partE 10 (fs.getD j 0) = 0
  · exact hall i hi
  · exfalso
    obtain ⟨k, hk, hne, hz⟩ : ∃ k, k < fs.length ∧ partE 10 (fs.getD k 0) ≠ 0 ∧ ∀ j, j < k → partE 10 (fs.getD j 0) = 0 := by
      have : ∃ k, k < fs.length ∧ partE 10 (fs.getD k 0) ≠ 0 := by
        refine Classical.byContradiction fun hn => hall fun j hj => Classical.byContradiction fun h => hn ⟨j, hj, h⟩
      obtain ⟨k0, hk0⟩ := this
      induction k0 using Nat.strongRecOn with
      | ind n ih =>
        by_cases hall2 : ∀ j, j < n → partE 10 (fs.getD j 0) = 0
        · exact ⟨n, hk0.1, hk0.2, hall2⟩
        · obtain ⟨j, hj⟩ : ∃ j, j < n ∧ partE 10 (fs.getD j 0) ≠ 0 := Classical.byContradiction fun hn => hall2 fun j hj => Classical.byContradiction fun h => hn ⟨j, hj, h⟩
          exact ih j hj.1 ⟨by omega, hj.2⟩
    rw [firstInF_hit _ _ k hk hz hne] at hE
    exact hne hE
theorem norm_lt {b : Nat} (h : b < 4294967296) : norm b < 4294967296 := by unfold norm; split <;> omega

theorem refBits_kay {b : Nat} (h : Kay b) (w : World) : Calls Tryz.prog 154 #[.float .f32 b] w fun e w' => e = .returned (.int .i64 (norm b : Nat)) ∧ w = w' := by
  obtain ⟨s, k, hk, rfl⟩ := h
  exact refBits_any s k hk w

set_option maxHeartbeats 4000000 in
set_option maxRecDepth 100000 in
theorem refPack_good (A : Option Addr) (n c : Nat) (os fs : List Nat) (w : World) (hn : n ≤ 4096) (hz : FlAt w A n os) (hk : ∀ i, i < n → Kay (os.getD i 0)) (hgl : fs.length = n) (hgv : ∀ i, i < n → fs.getD i 0 = norm (os.getD i 0)) (hb : ∀ b ∈ fs, b < 4294967296) :
    Calls Tryz.prog 88 #[.slice A n c] w fun e w' => ∃ v, e = .returned v ∧ OwnB w' w.heap.size v (packL fs) ∧ Below w.heap.size w w' := by
  obtain ⟨i0, hi, hz0, hz1, hz2⟩ := info_parts infoB
  have HZ := Lib.hid hz
  have HK := Lib.hid hk
  have HGV := Lib.hid hgv
  have HBB := Lib.hid hb
  have hlen := Lib.hid hgl
  clear hz hk hgl hgv hb
  have kc := fun (w : World) (C : Array Value) (n c : Nat) => Lib.run_convert_bytes_const (P := Tryz.prog) w 106 5 C n c Tryz.underlying106 Tryz.underlying5
  have hmk := fun o => marked_cells w 5 #[.int .u8 83, .int .u8 78, .int .u8 68, .int .u8 49] (4, 5) o [.int .u8 83, .int .u8 78, .int .u8 68, .int .u8 49] rfl
  have HMK := Lib.hid hmk
  clear hmk
  have hnn : ((n : Int) / 256) ≤ 16 := by omega
  go_enter Tryz.func88, Tryz.ntmps88
  go_wp2_with (at_builtin; refine wpList_append_arg _ rfl _ _ 106 rfl 5 i0 (.int .u8 0) 1 1 Tryz.underlying106 hi hz0 hz1 hz2 rfl (by decide) w.heap.size 0 4 4 [.int .u8 83, .int .u8 78, .int .u8 68, .int .u8 49] rfl rfl (HMK.out _) ⟨w.heap.size + 1, 0, none⟩ 2 2 [.int .u8 ((n : Int) / 256), .int .u8 ((n : Int) % 256)] rfl rfl (by have := cells_two_new (w.alloc (.cells #[.int .u8 83, .int .u8 78, .int .u8 68, .int .u8 49] 5 (4, 5))) 5 (.int .u8 ((n : Int) / 256)) (.int .u8 ((n : Int) % 256)); rw [World.size_alloc] at this; exact this) (by simp [Value.oneCell']) (fun h => by omega) (by unfold maxLen; omega) (by omega) (fun h => by omega) ?_; intro _ v2 w2 hown2 hgrow2)
  have HO2 : Hid (OwnB w2 w.heap.size v2 (packHead fs 0)) := by
    show w2.ownsRow _ _ _ _ _ _
    have := ownsRow_mono hown2 (base' := w.heap.size) (by simp; omega)
    rw [packHead_zero, hlen.out]
    exact this
  have HB2 : Hid (Below w.heap.size w w2) := Below.grown (((Below.refl _ _).alloc (Nat.le_refl _) _).alloc (by simp) _) hgrow2 (by simp; omega) (fun k hk => by cases hk)
  clear hown2 hgrow2 kc HMK
  go_wp2_with fail
  go_loopw [3, 4, 5] (fun v i _ wr => ∃ k : Nat, k ≤ n ∧ i = .int .i64 k ∧ OwnB wr w.heap.size v (packHead fs k) ∧ Below w.heap.size w wr) (fun _ i _ _ => n - (intOf i).toNat)
  case atStart => exact ⟨0, Nat.zero_le _, rfl, HO2.out, HB2.out⟩
  case round =>
    clear HO2 HB2
    obtain ⟨k, hk, rfl, ho, hb⟩ := hrel
    have HO := Lib.hid ho
    have HB := Lib.hid hb
    have HZr := Lib.hid (HZ.out.keep hb)
    clear ho hb
    by_cases hlt : k < n
    · obtain ⟨b, off, rfl, hcc⟩ := HZr.out.2 (by omega)
      have hck := hcc k hlt
      have HKK := Lib.hid (HK.out k hlt)
      have hgk := HGV.out k hlt
      have HS := Lib.hid (packHead_snoc fs k (by rw [hlen.out]; exact hlt))
      obtain ⟨x, hx⟩ : ∃ x, x = os.getD k 0 := ⟨_, rfl⟩
      obtain ⟨y, hy⟩ : ∃ y, y = fs.getD k 0 := ⟨_, rfl⟩
      rw [← hx] at hck HKK hgk
      rw [← hy] at hgk HS
      have hyb : y < 4294967296 := by
        rw [hy, List.getD_eq_getElem?_getD, List.getElem?_eq_getElem (by rw [hlen.out]; exact hlt)]
        exact HBB.out _ (List.getElem_mem _)
      have hpl := packHead_len fs k (by rw [hlen.out]; exact hk)
      have hb' := HB.out.size
      have hown0 : wr.ownsRow w.heap.size 5 1 u3 (6 + k * 4) ((packHead fs k).map (Value.int .u8)) := by have := HO.out; unfold OwnB at this; rwa [hpl] at this
      clear hcc hpl hx hy
      go_wp2_with fail
      refine (refBits_kay HKK.out _).mono ?_
      rw [← hgk]
      clear hgk
      rintro e w3 ⟨rfl, rfl⟩
      obtain ⟨y0, hy0⟩ : ∃ y0 : Int, y0 = (y : Int) / 16777216 := ⟨_, rfl⟩
      obtain ⟨y1, hy1⟩ : ∃ y1 : Int, y1 = (y : Int) / 65536 % 256 := ⟨_, rfl⟩
      obtain ⟨y2, hy2⟩ : ∃ y2 : Int, y2 = (y : Int) / 256 % 256 := ⟨_, rfl⟩
      obtain ⟨y3, hy3⟩ : ∃ y3 : Int, y3 = (y : Int) % 256 := ⟨_, rfl⟩
      have HB4 : Hid (b4 (y : Int) = [y0, y1, y2, y3]) := by show _ = _; rw [hy0, hy1, hy2, hy3]; rfl
      have g0 : (y : Int) / 16777216 = y0 := by omega
      have g1 : (y : Int) / 65536 % 256 = y1 := by omega
      have g2 : (y : Int) / 256 % 256 = y2 := by omega
      have g3 : (y : Int) % 256 = y3 := by omega
      rw [HB4.out] at HS
      clear hy0 hy1 hy2 hy3
      go_wp2_with (at_builtin; refine wpList_append_own _ rfl _ _ 106 rfl w.heap.size 5 i0 (.int .u8 0) 1 1 Tryz.underlying106 hi hz0 hz1 hz2 rfl (by decide) _ _ _ rfl (World.ownsRow.alloc hown0 _) ⟨wr.heap.size, 0, none⟩ 4 4 [.int .u8 y0, .int .u8 y1, .int .u8 y2, .int .u8 y3] rfl rfl (cells_four_new _ _ _ _ _ _) (by simp [Value.oneCell']) (by unfold maxLen; omega) (by omega) (by simp; omega) ?_; intro v' w4 hown' hgrow _)
      have R : OwnB w4 w.heap.size v' (packHead fs (k + 1)) := by
        unfold OwnB
        rw [HS.out, List.length_append, packHead_len fs k (by rw [hlen.out]; exact hk), List.map_append]
        exact hown'
      have B3 : Below w.heap.size w w4 := Below.grown (HB.out.alloc HB.out.size _) hgrow (by simp; omega) (fun j hj => (hown0.lt j hj).1)
      clear hown' hgrow hown0
      go_wp2
      go_roundw
      case rel => exact ⟨k + 1, by omega, by go_num, R, B3⟩
      case measure => simp [intOf]; omega
    · obtain rfl : k = n := by omega
      clear HZr
      have hpl := packHead_len fs k (by rw [hlen.out]; exact Nat.le_refl _)
      have hall : AllB (packHead fs k) := by rw [← hlen.out]; exact packHead_all fs HBB.out (by rw [hlen.out]; exact hn)
      rcases HO.out.form with ⟨_, h0⟩ | ⟨g, cap, rfl, hg0, hgl, hcap, hcc, _⟩
      · rw [h0] at hpl; simp at hpl; omega
      have HBA := Lib.hid (HO.out.at_ hall)
      rw [hpl] at HBA
      have HPL := Lib.hid hpl
      clear hcc hall hpl hcap
      rw [HPL.out] at HO ⊢
      have hk8 : Hid (Key8 0 0 0 0 0 0 0 0) := key0
      go_wp2_with fail
      refine (refSeal_any 0 0 0 0 0 0 0 0 (some ⟨g, 0, none⟩) (6 + k * 4) cap (packHead fs k) _ (by omega) hk8.out HBA.out).mono ?_
      rintro e w5 ⟨rfl, hb5⟩
      have H5 := Lib.hid (HO.out.below hb5)
      have HB5 : Hid (Below w.heap.size w w5) := HB.out.trans (hb5.mono HB.out.size)
      clear hb5
      have sz5 := HB5.out.size
      have hown0 : w5.ownsRow w.heap.size 5 1 (.slice (some ⟨g, 0, none⟩) (6 + k * 4) cap) (6 + k * 4) ((packHead fs k).map (Value.int .u8)) := by have := H5.out; unfold OwnB at this; rwa [HPL.out] at this
      obtain ⟨z0, z1, z2, z3, z4, z5, z6, z7, hz⟩ := eightJ (sealL [0, 0, 0, 0, 0, 0, 0, 0] (packHead fs k)) (sealL_len _ _)
      have hz' : [sealAt 0 0 (packHead fs k), sealAt 1 0 (packHead fs k), sealAt 2 0 (packHead fs k), sealAt 3 0 (packHead fs k), sealAt 4 0 (packHead fs k), sealAt 5 0 (packHead fs k), sealAt 6 0 (packHead fs k), sealAt 7 0 (packHead fs k)] = [z0, z1, z2, z3, z4, z5, z6, z7] := hz
      simp only [List.cons.injEq, and_true] at hz'
      obtain ⟨q0, q1, q2, q3, q4, q5, q6, q7⟩ := hz'
      rw [q0, q1, q2, q3, q4, q5, q6, q7]
      have HZ8 := Lib.hid hz
      clear q0 q1 q2 q3 q4 q5 q6 q7 hz
      go_wp2_with (at_builtin; refine wpList_append_own _ rfl _ _ 106 rfl w.heap.size 5 i0 (.int .u8 0) 1 1 Tryz.underlying106 hi hz0 hz1 hz2 rfl (by decide) _ _ _ rfl (World.ownsRow.alloc hown0 _) ⟨w5.heap.size, 0, none⟩ 8 8 [.int .u8 z0, .int .u8 z1, .int .u8 z2, .int .u8 z3, .int .u8 z4, .int .u8 z5, .int .u8 z6, .int .u8 z7] rfl rfl (cells_eight_new _ _ _) (by simp [Value.oneCell']) (by unfold maxLen; omega) (by omega) (by simp; omega) ?_; intro v' w6 hown' hgrow _)
      have R : OwnB w6 w.heap.size v' (packL fs) := by
        unfold OwnB packL
        rw [hlen.out, HZ8.out, List.length_append, HPL.out, List.map_append]
        exact hown'
      have B6 : Below w.heap.size w w6 := Below.grown (HB5.out.alloc HB5.out.size _) hgrow (by simp; omega) (fun j hj => (hown0.lt j hj).1)
      clear hown' hgrow hown0
      go_wp2
      go_ret
      exact ⟨_, rfl, R, B6⟩
end Go.Proofs.YtoipafnlcchmbaaGreatDoor
namespace Go.Proofs.YtoipafnlcchmbaaGreatDoor
open Go.RowKit

theorem refUnpack_long (A : Option Addr) (n c : Nat) (w : World) (h : 400000 < n) :
    Calls Tryz.prog 89 #[.slice A n c] w fun e w' => e = .returned (.tuple #[.slice none 0 0, .int .i64 26]) ∧ w = w' := by
  have h1 : decide ((400000 : Int) < (n : Int)) = true := by simp; omega
  go_enter Tryz.func89, Tryz.ntmps89
  go_wp2
  go_ret2
  exact ⟨rfl, rfl⟩
theorem refUnpack_torn (A : Option Addr) (n c : Nat) (w : World) (h : n < 14) :
    Calls Tryz.prog 89 #[.slice A n c] w fun e w' => e = .returned (.tuple #[.slice none 0 0, .int .i64 28]) ∧ w = w' := by
  have h1 : decide ((400000 : Int) < (n : Int)) = false := by simp; omega
  have h2 : decide ((n : Int) < 14) = true := by simp; omega
  go_enter Tryz.func89, Tryz.ntmps89
  go_wp2
  go_ret2
  exact ⟨rfl, rfl⟩
theorem refUnpack_form (g off N c : Nat) (zs : List Int) (w : World) (hl : zs.length = N) (hb : AllB zs) (h14 : 14 ≤ N) (hm : N ≤ 400000) (hcap : N ≤ c) (hc : ∀ i, i < N → w.cell? ⟨g, off + i, none⟩ = some (.int .u8 (zs.getD i 0))) (hx : zs.take 4 ≠ magicL) :
    Calls Tryz.prog 89 #[.slice (some ⟨g, off, none⟩) N c] w fun e w' => e = .returned (.tuple #[.slice none 0 0, .int .i64 1]) ∧ w = w' := by
  have h1 : decide ((400000 : Int) < (N : Int)) = false := by simp; omega
  have h2 : decide ((N : Int) < 14) = false := by simp; omega
  have k1 := fun cap => first_four (w := w) hl h14 hc cap
  obtain ⟨S, hS⟩ : ∃ S, S = strOfNums (zs.take 4) := ⟨_, rfl⟩
  have h3 := magic_str zs hb
  rw [decide_eq_false hx, ← hS] at h3
  rw [← hS] at k1
  have h4 : (!(S.toList == [83, 78, 68, 49])) = true := by rw [toList_of h3]; rfl
  clear hS hx hc hb hl
  go_enter Tryz.func89, Tryz.ntmps89
  go_wp2
  go_ret2
  exact ⟨rfl, rfl⟩
set_option maxHeartbeats 1000000 in
set_option maxRecDepth 100000 in
theorem refUnpack_shape (g off N c : Nat) (zs : List Int) (w : World) (hl : zs.length = N) (hb : AllB zs) (h14 : 14 ≤ N) (hm : N ≤ 400000) (hcap : N ≤ c) (hc : ∀ i, i < N → w.cell? ⟨g, off + i, none⟩ = some (.int .u8 (zs.getD i 0))) (hx : zs.take 4 = magicL) (hs : (N : Int) ≠ 14 + 4 * (zs.getD 4 0 * 256 + zs.getD 5 0)) :
    Calls Tryz.prog 89 #[.slice (some ⟨g, off, none⟩) N c] w fun e w' => e = .returned (.tuple #[.slice none 0 0, .int .i64 2]) ∧ Below w.heap.size w w' := by
  have h1 : decide ((400000 : Int) < (N : Int)) = false := by simp; omega
  have h2 : decide ((N : Int) < 14) = false := by simp; omega
  have k1 := fun cap => first_four (w := w) hl h14 hc cap
  rw [hx] at k1
  have es : strOfNums magicL = ⟨#[83, 78, 68, 49]⟩ := rfl
  rw [es] at k1
  have c4 := hc 4 (by omega)
  have c5 := hc 5 (by omega)
  obtain ⟨b40, b41⟩ := hb 4 (by omega)
  obtain ⟨b50, b51⟩ := hb 5 (by omega)
  obtain ⟨y4, hy4⟩ : ∃ y, y = zs.getD 4 0 := ⟨_, rfl⟩
  obtain ⟨y5, hy5⟩ : ∃ y, y = zs.getD 5 0 := ⟨_, rfl⟩
  rw [← hy4] at c4 b40 b41 hs
  rw [← hy5] at c5 b50 b51 hs
  have HS := Lib.hid hs
  clear es hy4 hy5 hx hc hb hl hs
  go_enter Tryz.func89, Tryz.ntmps89
  go_upto_region 7 with fail
  go_region
  all_goals (
    have hd3 : ((N : Int) != 14 + 4 * (256 * y4 + y5)) = true := by have := HS.out; simp; omega
    go_wp2
    go_ret2
    exact ⟨rfl, (Below.refl _ w).drew⟩)

theorem firstInF_snoc (f : Nat → Int) (fs : List Nat) (i : Nat) (h : i < fs.length) : firstInF f (fs.take (i + 1)) = if firstInF f (fs.take i) = 0 then f (fs.getD i 0) else firstInF f (fs.take i) := by
  have app : ∀ (xs : List Int) (y : Int), firstE (xs ++ [y]) = if firstE xs = 0 then y else firstE xs := by
    intro xs y
    induction xs with
    | nil =>
      simp only [List.nil_append, firstE]
      by_cases h : y = 0 <;> simp [h]
    | cons a r ih =>
      simp only [List.cons_append, firstE]
      by_cases ha : a = 0
      · simp [ha, ih]
      · simp [ha]
  unfold firstInF
  rw [take_snocN fs i h, List.map_append, List.map_cons, List.map_nil, app]
theorem firstInF_more (f : Nat → Int) (fs : List Nat) (i : Nat) (h : firstInF f (fs.take i) ≠ 0) : firstInF f fs = firstInF f (fs.take i) := by
  have app : ∀ (xs ys : List Int), firstE xs ≠ 0 → firstE (xs ++ ys) = firstE xs := by
    intro xs ys
    induction xs with
    | nil => intro h; exact absurd rfl h
    | cons a r ih =>
      intro h
      simp only [List.cons_append, firstE] at h ⊢
      by_cases ha : a = 0
      · simp only [if_pos ha] at h ⊢
        exact ih h
      · simp only [if_neg ha]
  unfold firstInF at h ⊢
  conv => lhs; rw [← List.take_append_drop i fs, List.map_append]
  exact app _ _ h
theorem norm_all (fs : List Nat) (h : firstInF nmzE fs = 0) : fs.map norm = fs := by
  have key : ∀ l : List Nat, firstE (l.map nmzE) = 0 → l.map norm = l := by
    intro l
    induction l with
    | nil => intro _; rfl
    | cons a r ih =>
      intro h
      rw [List.map_cons, firstE] at h
      by_cases ha : nmzE a = 0
      · rw [if_pos ha] at h
        have : norm a = a := by
          unfold norm
          unfold nmzE at ha
          split
          · rename_i h1; rw [if_pos h1] at ha; cases ha
          · rfl
        rw [List.map_cons, this, ih h]
      · rw [if_neg ha] at h; exact absurd h ha
  exact key fs h
theorem nmz_two (fs : List Nat) : firstInF nmzE fs = 0 ∨ firstInF nmzE fs = 1 := by
  have key : ∀ l : List Nat, firstE (l.map nmzE) = 0 ∨ firstE (l.map nmzE) = 1 := by
    intro l
    induction l with
    | nil => exact .inl rfl
    | cons a r ih =>
      rw [List.map_cons, firstE]
      split
      · exact ih
      · unfold nmzE; split
        · exact .inr rfl
        · exact .inl rfl
  exact key fs
/-- What the loop of the reference keeps: after i samples. -/
def unpR (fs : List Nat) (i : Nat) (bad : Int) (zb : Bool) (gs : List Nat) : Prop :=
  bad = firstInF (partE 10) (fs.take i) ∧ gs.length = i ∧ (bad = 0 → gs = (fs.take i).map norm ∧ zb = decide (firstInF nmzE (fs.take i) ≠ 0))
theorem unpR_zero (fs : List Nat) : unpR fs 0 0 false [] := ⟨rfl, rfl, fun _ => ⟨rfl, rfl⟩⟩
theorem unpR_step {fs : List Nat} {i : Nat} {zb : Bool} {gs : List Nat} (h : unpR fs i 0 zb gs) (hi : i < fs.length) (y : Nat) (hy : y = if partE 10 (fs.getD i 0) = 0 then norm (fs.getD i 0) else 0) : unpR fs (i + 1) (partE 10 (fs.getD i 0)) (zb || decide (fs.getD i 0 = 2147483648)) (gs ++ [y]) := by
  obtain ⟨h1, h2, h3⟩ := h
  obtain ⟨h4, h5⟩ := h3 rfl
  refine ⟨?_, by simp [h2], fun h0 => ?_⟩
  · rw [firstInF_snoc _ _ _ hi, if_pos h1.symm]
  · rw [if_pos h0] at hy
    refine ⟨by rw [take_snocN fs i hi, List.map_append, h4, hy]; rfl, ?_⟩
    rw [firstInF_snoc _ _ _ hi, h5]
    by_cases c : firstInF nmzE (fs.take i) = 0
    · rw [if_pos c]
      simp only [c, ne_eq, not_true_eq_false, decide_false, Bool.false_or]
      unfold nmzE
      simp
    · rw [if_neg c]
      simp [c]
/-- What is returned behind the loop. -/
theorem unpR_end {fs : List Nat} {i : Nat} {bad : Int} {zb : Bool} {gs : List Nat} (h : unpR fs i bad zb gs) (hm : fs.length ≤ 4096) (hx : bad ≠ 0 ∨ i = fs.length) : firstE [bad, if zb = true then 1 else 0] = samplesE fs ∧ (samplesE fs = 0 → gs = fs) := by
  obtain ⟨h1, h2, h3⟩ := h
  have hs : samplesE fs = firstE [firstInF (partE 10) fs, firstInF nmzE fs] := by unfold samplesE; rw [checkSamplesE_few fs (by omega)]
  by_cases hb : bad = 0
  · have hi : i = fs.length := by rcases hx with h | h; exact absurd hb h; exact h
    obtain ⟨h4, h5⟩ := h3 hb
    rw [hi, List.take_length] at h1 h4 h5
    rw [hs, ← h1, hb, first0, first0]
    rcases nmz_two fs with h | h
    · rw [h] at h5 ⊢
      simp at h5
      rw [h5]
      exact ⟨rfl, fun _ => by rw [h4]; exact norm_all fs h⟩
    · rw [h] at h5 ⊢
      simp at h5
      rw [h5]
      exact ⟨rfl, fun h => by cases h⟩
  · have h6 : firstInF (partE 10) fs = bad := by rw [h1] at hb ⊢; exact firstInF_more _ _ _ hb
    have e : ∀ y : Int, firstE [bad, y] = bad := fun y => by simp [firstE, hb]
    rw [hs, h6, e, e]
    exact ⟨rfl, fun h => absurd h hb⟩
end Go.Proofs.YtoipafnlcchmbaaGreatDoor
namespace Go.Proofs.YtoipafnlcchmbaaGreatDoor
open Go.RowKit

theorem num4_parts (zs : List Int) (hb : AllB zs) (i : Nat) (h : 6 + i * 4 + 4 ≤ zs.length) : zs.getD (6 + i * 4) 0 * 16777216 + zs.getD (6 + i * 4 + 1) 0 * 65536 + zs.getD (6 + i * 4 + 2) 0 * 256 + zs.getD (6 + i * 4 + 3) 0 = ((num4 zs i : Nat) : Int) := by
  obtain ⟨a0, a1⟩ := hb (6 + i * 4) (by omega)
  obtain ⟨b0, b1⟩ := hb (6 + i * 4 + 1) (by omega)
  obtain ⟨c0, c1⟩ := hb (6 + i * 4 + 2) (by omega)
  obtain ⟨d0, d1⟩ := hb (6 + i * 4 + 3) (by omega)
  unfold num4
  omega

set_option maxHeartbeats 4000000 in
set_option maxRecDepth 100000 in
theorem refUnpack_seal (g off c T N M : Nat) (zs : List Int) (w : World) (hl : zs.length = N) (hb : AllB zs) (h14 : 14 ≤ N) (hm : N ≤ 300) (hcap : N ≤ c) (hz : BytesAt w (some ⟨g, off, none⟩) N zs) (hx : zs.take 4 = magicL) (hs : (N : Int) = 14 + 4 * (zs.getD 4 0 * 256 + zs.getD 5 0)) (hT : N = T + 8) (hM : N = 14 + M * 4) :
    Calls Tryz.prog 89 #[.slice (some ⟨g, off, none⟩) N c] w fun e w' => ∃ v, e = .returned (.tuple #[v, .int .i64 (if zs.drop T = sealL z8 (zs.take T) then samplesE (numsOf zs) else 27)]) ∧ OwnF w' w.heap.size v (if zs.drop T = sealL z8 (zs.take T) then (if samplesE (numsOf zs) = 0 then numsOf zs else []) else []) ∧ Below w.heap.size w w' := by
  obtain ⟨i0, hi, hz0, hz1, hz2⟩ := info_parts infoF
  have h1 : decide ((400000 : Int) < (N : Int)) = false := by simp; omega
  have h2 : decide ((N : Int) < 14) = false := by simp; omega
  have hc : ∀ i, i < N → w.cell? ⟨g, off + i, none⟩ = some (.int .u8 (zs.getD i 0)) := by
    obtain ⟨b, o, he, hcc⟩ := hz.2.2 (by omega)
    simp only [Option.some.injEq, Addr.mk.injEq, and_true] at he
    obtain ⟨rfl, rfl⟩ := he
    exact hcc
  have k1 := fun cap => first_four (w := w) hl h14 hc cap
  rw [hx] at k1
  have es : strOfNums magicL = ⟨#[83, 78, 68, 49]⟩ := rfl
  rw [es] at k1
  have c4 := hc 4 (by omega)
  have c5 := hc 5 (by omega)
  obtain ⟨b40, b41⟩ := hb 4 (by omega)
  obtain ⟨b50, b51⟩ := hb 5 (by omega)
  have hMy : (256 : Int) * zs.getD 4 0 + zs.getD 5 0 = (M : Int) := by omega
  obtain ⟨y4, hy4⟩ : ∃ y, y = zs.getD 4 0 := ⟨_, rfl⟩
  obtain ⟨y5, hy5⟩ : ∃ y, y = zs.getD 5 0 := ⟨_, rfl⟩
  rw [← hy4] at c4 b40 b41 hs hMy
  rw [← hy5] at c5 b50 b51 hs hMy
  have HL := Lib.hid hl
  have HBB := Lib.hid hb
  have HT := Lib.hid hT
  have HM := Lib.hid hM
  have HC : Hid (∀ i, i < N → w.cell? ⟨g, off + i, none⟩ = some (.int .u8 (zs.getD i 0))) := hc
  have hgl : g < w.heap.size := World.block_lt_of_cell? _ _ (hc 0 (by omega))
  have hM71 : M ≤ 71 := by omega
  have hT3 : T ≤ 300 := by omega
  obtain ⟨H, hH⟩ : ∃ H, H = zs.take T := ⟨_, rfl⟩
  have HBA : Hid (∀ W, Below w.heap.size w W → BytesAt W (some ⟨g, off, none⟩) T H) := fun W hW => by
    refine (show BytesAt w (some ⟨g, off, none⟩) T H from ⟨by rw [hH, List.length_take, hl]; omega, fun i hi => ?_, fun _ => ⟨g, off, rfl, fun i hi => ?_⟩⟩).keep hW
    · rw [hH]; exact (hb.take T) i (by rw [List.length_take, hl]; omega)
    · rw [hc i (by omega), hH, List.getD_eq_getElem?_getD, List.getD_eq_getElem?_getD, List.getElem?_take_of_lt hi]
  have hs1 := slice_fromO g off N c T (by omega) (by omega) (by omega)
  have hs2 := slice_toO g off N c T (by omega) (by omega)
  rw [show N - T = 8 by omega] at hs1
  have hN8 : (N : Int) - 8 = (T : Int) := by omega
  have hd : ((N : Int) != 14 + 4 * (M : Int)) = false := by simp; omega
  have HH := Lib.hid hH
  obtain ⟨fs, hfs⟩ : ∃ fs, fs = numsOf zs := ⟨_, rfl⟩
  have HFL : Hid (fs.length = M) := by show _ = _; rw [hfs, numsOf_len]; omega
  have HNUM : Hid (∀ i, i < M → fs.getD i 0 < 4294967296 ∧ zs.getD (6 + i * 4) 0 * 16777216 + zs.getD (6 + i * 4 + 1) 0 * 65536 + zs.getD (6 + i * 4 + 2) 0 * 256 + zs.getD (6 + i * 4 + 3) 0 = ((fs.getD i 0 : Nat) : Int)) := fun i hi => by
    rw [hfs, numsOf_at zs i (by omega)]
    exact ⟨(b4_num4 hb i (by omega)).1, num4_parts zs hb i (by omega)⟩
  rw [← hH, ← hfs]
  obtain ⟨EV, hEV⟩ : ∃ EV : Int, EV = if zs.drop T = sealL z8 H then samplesE fs else 27 := ⟨_, rfl⟩
  obtain ⟨LV, hLV⟩ : ∃ LV : List Nat, LV = if zs.drop T = sealL z8 H then (if samplesE fs = 0 then fs else []) else [] := ⟨_, rfl⟩
  rw [← hEV, ← hLV]
  have HEV := Lib.hid hEV
  have HLV := Lib.hid hLV
  clear hfs hEV hLV hs es hy4 hy5 hx hb hl hc hT hM hz hH
  go_enter Tryz.func89, Tryz.ntmps89
  go_upto_region 7 with fail
  go_region
  go_wp2_with fail
  refine (refSeal_any 0 0 0 0 0 0 0 0 (some ⟨g, off, none⟩) T c H _ (by omega) key0 (HBA.out _ (Below.refl _ _).drew)).mono ?_
  rintro e w4 ⟨rfl, hb4⟩
  have HB4 : Hid (Below w.heap.size w w4) := (Below.refl w.heap.size w).drew.trans (hb4.mono (Nat.le_refl _))
  have sz4 := HB4.out.size
  clear hb4 HBA
  go_upto_region 12 with fail
  obtain ⟨W5, hW5⟩ : ∃ W5, W5 = w4.alloc (.cells #[.int .u8 (sealAt 0 0 H), .int .u8 (sealAt 1 0 H), .int .u8 (sealAt 2 0 H), .int .u8 (sealAt 3 0 H), .int .u8 (sealAt 4 0 H), .int .u8 (sealAt 5 0 H), .int .u8 (sealAt 6 0 H), .int .u8 (sealAt 7 0 H)] 94) := ⟨_, rfl⟩
  rw [← hW5]
  have F8 : Blk W5 w4.heap.size 94 (bytesA (sealL z8 H)) := by rw [hW5]; exact Blk.new w4 _ _
  have HB5 : Hid (Below w.heap.size w W5) := by rw [hW5]; exact HB4.out.alloc HB4.out.size _
  have HF8 := Lib.hid F8
  generalize w4.heap.size = g8 at HF8 ⊢
  clear F8 hW5 sz4 HB4
  have HC5 : Hid (∀ i, i < N → W5.cell? ⟨g, off + i, none⟩ = some (.int .u8 (zs.getD i 0))) := fun i hi => (HB5.out.cell (p := ⟨g, off + i, none⟩) hgl).trans (HC.out i hi)
  have hl8 : (sealL z8 H).length = 8 := sealL_len _ _
  obtain ⟨X1, hX1⟩ : ∃ X, X = strOfNums (sealL z8 H) := ⟨_, rfl⟩
  obtain ⟨X2, hX2⟩ : ∃ X, X = strOfNums (zs.drop T) := ⟨_, rfl⟩
  have hNT : N = T + 8 := HT.out
  have k2 : (convert 106 9 (.slice (some ⟨g8, 0, none⟩) 8 8)).run Tryz.prog W5 = .ok (.string X1) W5 := by
    rw [hX1]
    exact run_convert_bytes_arg W5 106 5 Tryz.underlying106 Tryz.underlying5 g8 0 8 8 (sealL z8 H) hl8 (fun i hi => by
      rw [Nat.zero_add, HF8.out.cell i, bytesA_at _ i (by omega)]) 9 Tryz.underlying9
  have k3 : (convert 106 9 (.slice (some ⟨g, off + T, none⟩) 8 (c - T))).run Tryz.prog W5 = .ok (.string X2) W5 := by
    rw [hX2]
    exact run_convert_bytes_arg W5 106 5 Tryz.underlying106 Tryz.underlying5 g (off + T) 8 (c - T) (zs.drop T) (by rw [List.length_drop, HL.out]; omega) (fun i hi => by
      rw [Nat.add_assoc, HC5.out (T + i) (by omega), getD_drop]) 9 Tryz.underlying9
  have k4 : (convert 106 9 (.slice (some ⟨g8, 0, none⟩) 8 8)).run Tryz.prog W5.drew = .ok (.string X1) W5.drew := by
    rw [hX1]
    exact run_convert_bytes_arg W5.drew 106 5 Tryz.underlying106 Tryz.underlying5 g8 0 8 8 (sealL z8 H) hl8 (fun i hi => by
      rw [Nat.zero_add, HF8.out.drew.cell i, bytesA_at _ i (by omega)]) 9 Tryz.underlying9
  have k5 : (convert 106 9 (.slice (some ⟨g, off + T, none⟩) 8 (c - T))).run Tryz.prog W5.drew = .ok (.string X2) W5.drew := by
    rw [hX2]
    exact run_convert_bytes_arg W5.drew 106 5 Tryz.underlying106 Tryz.underlying5 g (off + T) 8 (c - T) (zs.drop T) (by rw [List.length_drop, HL.out]; omega) (fun i hi => by
      rw [Nat.add_assoc]; have := HC5.out (T + i) (by omega); rw [getD_drop]; exact this) 9 Tryz.underlying9
  have HX1 := Lib.hid hX1
  have HX2 := Lib.hid hX2
  clear hX1 hX2 hl8 c4 c5 k1 hNT
  go_region
  clear k2 k3 k4 k5 hs1 hs2 HF8
  obtain ⟨q, hq⟩ : ∃ q, q = (X1.toList == X2.toList) := ⟨_, rfl⟩
  rw [← hq]
  cases q
  · have hne : zs.drop T ≠ sealL z8 H := by
      intro e
      rw [HX1.out, HX2.out, e] at hq
      simp at hq
    rw [if_neg hne] at HEV HLV
    clear hne hq HX1 HX2
    go_wp2
    go_ret2
    exact ⟨_, by rw [HEV.out]; rfl, by rw [HLV.out]; exact World.ownsRow_nil _ _ _ _, HB5.out.drew⟩
  · have heq : zs.drop T = sealL z8 H := by
      have e := str_beq hq.symm
      rw [HX1.out, HX2.out] at e
      refine (strOfNums_inj (sealL_all _ _ rfl (fun i hi => ?_)) (fun i hi => ?_) (by rw [sealL_len, List.length_drop, HL.out]; omega) e).symm
      · have : z8.getD i 0 = 0 := by
          match i, hi with
          | 0, _ => rfl
          | 1, _ => rfl
          | 2, _ => rfl
          | 3, _ => rfl
          | 4, _ => rfl
          | 5, _ => rfl
          | 6, _ => rfl
          | 7, _ => rfl
        rw [this]; omega
      · exact (HBB.out.drop T) i hi
    rw [if_pos heq] at HEV HLV
    clear heq hq HX1 HX2
    have hm5 : decide ((4096 : Int) < (M : Int)) = false := by simp; omega
    go_wp2_with fail
    refine (refWhen_any _ _ _).mono ?_
    simp only [Bool.false_eq_true, if_false]
    rintro e w6 ⟨rfl, rfl⟩
    clear hm5
    go_wp2_with fail
    have HB6 := Lib.hid HB5.out.drew
    clear HC5
    go_loopw [7, 8, 9, 10, 11, 12, 13, 14] (fun v z bd i _ _ _ _ wr => ∃ (k : Nat) (bad : Int) (zb : Bool) (gs : List Nat), k ≤ M ∧ i = .int .i64 k ∧ bd = .int .i64 bad ∧ z = .bool zb ∧ unpR fs k bad zb gs ∧ OwnF wr w.heap.size v gs ∧ Below w.heap.size w wr) (fun _ _ _ i _ _ _ _ _ => M - (intOf i).toNat)
    case atStart => exact ⟨0, 0, false, [], Nat.zero_le _, rfl, rfl, rfl, unpR_zero fs, World.ownsRow_nil _ _ _ _, HB6.out⟩
    case round =>
      clear HB6 HB5
      obtain ⟨k, bad, zb, gs, hk, rfl, rfl, rfl, hu, ho, hb⟩ := hrel
      have HU := Lib.hid hu
      have HO := Lib.hid ho
      have HB := Lib.hid hb
      clear hu ho hb
      by_cases hgo : k < M ∧ bad = 0
      · obtain ⟨hlt, rfl⟩ := hgo
        have hkN : 6 + k * 4 + 4 ≤ N := by have := HM.out; omega
        have HCr : Hid (∀ i, i < N → wr.cell? ⟨g, off + i, none⟩ = some (.int .u8 (zs.getD i 0))) := fun i hi => (HB.out.cell (p := ⟨g, off + i, none⟩) hgl).trans (HC.out i hi)
        have c0 := HCr.out (6 + k * 4) (by omega)
        have c1 := HCr.out (6 + k * 4 + 1) (by omega)
        have c2 := HCr.out (6 + k * 4 + 2) (by omega)
        have c3 := HCr.out (6 + k * 4 + 3) (by omega)
        obtain ⟨n1, n2⟩ := HNUM.out k hlt
        obtain ⟨a00, a01⟩ := HBB.out (6 + k * 4) (by rw [HL.out]; omega)
        obtain ⟨a10, a11⟩ := HBB.out (6 + k * 4 + 1) (by rw [HL.out]; omega)
        obtain ⟨a20, a21⟩ := HBB.out (6 + k * 4 + 2) (by rw [HL.out]; omega)
        obtain ⟨a30, a31⟩ := HBB.out (6 + k * 4 + 3) (by rw [HL.out]; omega)
        obtain ⟨Q, hQ⟩ : ∃ Q, Q = 6 + k * 4 := ⟨_, rfl⟩
        rw [← hQ] at c0 c1 c2 c3 n2 a00 a01 a10 a11 a20 a21 a30 a31 hkN
        have e20 : (6 : Int) + 4 * (k : Int) = (Q : Int) := by omega
        obtain ⟨x0, hx0⟩ : ∃ x, x = zs.getD Q 0 := ⟨_, rfl⟩
        obtain ⟨x1, hx1⟩ : ∃ x, x = zs.getD (Q + 1) 0 := ⟨_, rfl⟩
        obtain ⟨x2, hx2⟩ : ∃ x, x = zs.getD (Q + 2) 0 := ⟨_, rfl⟩
        obtain ⟨x3, hx3⟩ : ∃ x, x = zs.getD (Q + 3) 0 := ⟨_, rfl⟩
        rw [← hx0] at c0 n2 a00 a01
        rw [← hx1] at c1 n2 a10 a11
        rw [← hx2] at c2 n2 a20 a21
        rw [← hx3] at c3 n2 a30 a31
        have HUS := Lib.hid (fun y hy => unpR_step HU.out (by rw [HFL.out]; exact hlt) y hy)
        obtain ⟨x, hx⟩ : ∃ x, x = fs.getD k 0 := ⟨_, rfl⟩
        rw [← hx] at n1 n2 HUS
        have HN1 := Lib.hid n1
        have HN2 := Lib.hid n2
        clear hx hx0 hx1 hx2 hx3 hQ HCr n1 n2
        go_upto_region 21 with fail
        go_region
        simp only [HN2.out]
        go_wp2_with fail
        refine (refNumber_any x HN1.out _).mono ?_
        obtain ⟨pe, hpe⟩ : ∃ pe : Int, partE 10 x = pe := ⟨_, rfl⟩
        obtain ⟨y, hy⟩ : ∃ y : Nat, y = if partE 10 x = 0 then norm x else 0 := ⟨_, rfl⟩
        obtain ⟨mz, hmz⟩ : ∃ mz : Bool, decide (x = 2147483648) = mz := ⟨_, rfl⟩
        have hmx : ((x : Int) == 2147483648) = mz := by rw [← hmz]; by_cases h : x = 2147483648 <;> simp [h] <;> omega
        rw [← hy, hpe]
        have HPE := Lib.hid hpe
        have HY := Lib.hid hy
        have HMZ := Lib.hid hmz
        have HGL := Lib.hid HU.out.2.1
        clear hpe hy hmz c0 c1 c2 c3
        rintro e w7 ⟨rfl, rfl⟩
        have hO3 : wr.drew.ownsRow w.heap.size 37 1 u7 k (gs.map (Value.float .f32)) := by
          have := HO.out
          unfold OwnF at this
          rwa [HGL.out] at this
        have sz3 := HB.out.size
        clear e20
        cases zb
        · clear HO
          go_wp2_with (at_builtin; refine wpList_append_own _ rfl _ _ 38 rfl w.heap.size 37 i0 (.float .f32 0) 1 4 Tryz.underlying38 hi hz0 hz1 hz2 rfl (by decide) _ _ _ rfl (World.ownsRow.alloc hO3 _) ⟨wr.drew.heap.size, 0, none⟩ 1 1 [.float .f32 y] rfl rfl (cells_one_new _ _ _) (by simp [Value.oneCell']) (by unfold maxLen; omega) (by omega) (by simp; omega) ?_; intro v' w8 hown' hgrow _)
          have R : OwnF w8 w.heap.size v' (gs ++ [y]) := by
            unfold OwnF
            rw [List.length_append, HGL.out, List.map_append]
            exact hown'
          have B8 : Below w.heap.size w w8 := Below.grown (HB.out.drew.alloc HB.out.size _) hgrow (by simp; omega) (fun j hj => (hO3.lt j hj).1)
          clear hown' hgrow hO3
          go_wp2
          go_roundw
          case rel => exact ⟨k + 1, pe, mz, gs ++ [y], by omega, by go_num, rfl, rfl, by have := HUS.out y HY.out; rw [HMZ.out, HPE.out] at this; first | exact this | simpa using this, R, B8⟩
          case measure => simp [intOf]; omega
        · clear HO hmx
          go_wp2_with (at_builtin; refine wpList_append_own _ rfl _ _ 38 rfl w.heap.size 37 i0 (.float .f32 0) 1 4 Tryz.underlying38 hi hz0 hz1 hz2 rfl (by decide) _ _ _ rfl (World.ownsRow.alloc hO3 _) ⟨wr.drew.heap.size, 0, none⟩ 1 1 [.float .f32 y] rfl rfl (cells_one_new _ _ _) (by simp [Value.oneCell']) (by unfold maxLen; omega) (by omega) (by simp; omega) ?_; intro v' w8 hown' hgrow _)
          have R : OwnF w8 w.heap.size v' (gs ++ [y]) := by
            unfold OwnF
            rw [List.length_append, HGL.out, List.map_append]
            exact hown'
          have B8 : Below w.heap.size w w8 := Below.grown (HB.out.drew.alloc HB.out.size _) hgrow (by simp; omega) (fun j hj => (hO3.lt j hj).1)
          clear hown' hgrow hO3
          go_wp2
          go_roundw
          case rel => exact ⟨k + 1, pe, true, gs ++ [y], by omega, by go_num, rfl, rfl, by have := HUS.out y HY.out; rw [HMZ.out, HPE.out] at this; first | exact this | simpa using this, R, B8⟩
          case measure => simp [intOf]; omega
      · have hx : bad ≠ 0 ∨ k = fs.length := by
          rw [HFL.out]
          by_cases hb0 : bad = 0
          · right; by_cases hkM : k < M
            · exact absurd ⟨hkM, hb0⟩ hgo
            · omega
          · exact .inl hb0
        obtain ⟨hE, hL⟩ := unpR_end HU.out (by rw [HFL.out]; omega) hx
        obtain ⟨S, hS⟩ : ∃ S, S = samplesE fs := ⟨_, rfl⟩
        rw [← hS] at hE hL HEV HLV
        obtain ⟨z1, hz1'⟩ : ∃ z1 : Int, (if zb = true then 1 else 0) = z1 := ⟨_, rfl⟩
        rw [hz1'] at hE
        clear hS hx HU HC HNUM
        by_cases hlt : k < M
        · have hb0 : bad ≠ 0 := fun h => hgo ⟨hlt, h⟩
          have hb1 : (bad == 0) = false := by simp [hb0]
          clear hgo
          go_wp2_with fail
          refine (refWhen_any _ _ _).mono ?_
          rw [hz1']
          rintro e w7 ⟨rfl, rfl⟩
          by_cases h0 : S = 0
          · have hS1 : (S != 0) = false := by simp [h0]
            rw [if_pos h0] at HLV
            have HL2 := hL h0
            have H0 := Lib.hid h0
            clear h0 hL hz1'
            have HE := Lib.hid hE
            clear hE
            go_wp2_with (go_at_call 47; (with_reducible refine (refFirst2 _ _ bad z1 _ (by go_simp) (by go_simp)).mono ?_); rw [HE.out]; rintro x w8 ⟨rfl, rfl⟩)
            go_ret2
            exact ⟨_, by rw [HEV.out, H0.out]; rfl, by rw [HLV.out, ← HL2]; exact World.ownsRow.alloc HO.out _, HB.out.alloc HB.out.size _⟩
          · have hS1 : (S != 0) = true := by simp [h0]
            rw [if_neg h0] at HLV
            clear h0 hL hz1'
            have HE := Lib.hid hE
            clear hE
            go_wp2_with (go_at_call 47; (with_reducible refine (refFirst2 _ _ bad z1 _ (by go_simp) (by go_simp)).mono ?_); rw [HE.out]; rintro x w8 ⟨rfl, rfl⟩)
            go_ret2
            exact ⟨_, by rw [HEV.out]; rfl, by rw [HLV.out]; exact World.ownsRow_nil _ _ _ _, HB.out.alloc HB.out.size _⟩
        · clear hgo
          go_wp2_with fail
          refine (refWhen_any _ _ _).mono ?_
          rw [hz1']
          rintro e w7 ⟨rfl, rfl⟩
          by_cases h0 : S = 0
          · have hS1 : (S != 0) = false := by simp [h0]
            rw [if_pos h0] at HLV
            have HL2 := hL h0
            have H0 := Lib.hid h0
            clear h0 hL hz1'
            have HE := Lib.hid hE
            clear hE
            go_wp2_with (go_at_call 47; (with_reducible refine (refFirst2 _ _ bad z1 _ (by go_simp) (by go_simp)).mono ?_); rw [HE.out]; rintro x w8 ⟨rfl, rfl⟩)
            go_ret2
            exact ⟨_, by rw [HEV.out, H0.out]; rfl, by rw [HLV.out, ← HL2]; exact World.ownsRow.alloc HO.out _, HB.out.alloc HB.out.size _⟩
          · have hS1 : (S != 0) = true := by simp [h0]
            rw [if_neg h0] at HLV
            clear h0 hL hz1'
            have HE := Lib.hid hE
            clear hE
            go_wp2_with (go_at_call 47; (with_reducible refine (refFirst2 _ _ bad z1 _ (by go_simp) (by go_simp)).mono ?_); rw [HE.out]; rintro x w8 ⟨rfl, rfl⟩)
            go_ret2
            exact ⟨_, by rw [HEV.out]; rfl, by rw [HLV.out]; exact World.ownsRow_nil _ _ _ _, HB.out.alloc HB.out.size _⟩
end Go.Proofs.YtoipafnlcchmbaaGreatDoor
namespace Go.Proofs.YtoipafnlcchmbaaGreatDoor
open Go.RowKit

set_option maxHeartbeats 1000000 in
theorem bytes_wide (A : Option Addr) (n c : Nat) (zs : List Int) (w : World) (hz : BytesAt w A n zs) (hA : A = none → c = 0) (hn : n ≤ 1000000) :
    Calls Tryz.prog 70 #[.slice A n c] w fun e w' => ∃ A' c', e = .returned (.slice A' n c') ∧ BytesAt w' A' n zs ∧ n ≤ c' ∧ Below w.heap.size w w' := by
  obtain ⟨i0, hi, hz0, hz1, hz2⟩ := info_parts infoB
  have hl := hz.1
  by_cases h0 : n = 0
  · subst h0
    obtain rfl : zs = [] := List.eq_nil_of_length_eq_zero hl
    have hown : (w.alloc (.cells #[] 5)).ownsRow w.heap.size 5 1 (.slice (some ⟨w.heap.size, 0, none⟩) 0 0) 0 [] := ⟨rfl, .inr ⟨w.heap.size, 0, #[], rfl, Nat.le_refl _, heap_alloc_new w _, Nat.le_refl _, by unfold maxLen; omega, rfl, rfl⟩⟩
    have hb : Below w.heap.size w (w.alloc (.cells #[] 5)) := (Below.refl _ _).alloc (Nat.le_refl _) _
    clear hz hl
    cases A with
    | none =>
      obtain rfl := hA rfl
      clear hA
      go_enter Tryz.func70, Tryz.ntmps70
      go_wp2_with (at_builtin; refine wpList_append_own_none rfl _ _ 106 rfl w.heap.size 5 i0 1 Tryz.underlying106 hi _ 0 [] rfl hown rfl ?_)
      go_ret
      exact ⟨_, _, rfl, ⟨rfl, fun i hi => by simp at hi, fun h => by omega⟩, Nat.zero_le _, hb⟩
    | some ad =>
      clear hA
      go_enter Tryz.func70, Tryz.ntmps70
      go_wp2_with (at_builtin; refine wpList_append_arg _ rfl _ _ 106 rfl 5 i0 (.int .u8 0) 1 1 Tryz.underlying106 hi hz0 hz1 hz2 rfl (by decide) w.heap.size 0 0 0 [] rfl rfl (fun j u h => by simp at h) ad 0 c [] rfl rfl (fun j u h => by simp at h) (fun u h => by simp at h) (fun h j hj => by simp at hj) (by unfold maxLen; omega) (by omega) ?_ (fun h => by omega); intro _)
      go_ret
      exact ⟨_, _, rfl, ⟨rfl, fun i hi => by simp at hi, fun h => by omega⟩, Nat.zero_le _, hb⟩
  · obtain ⟨b, off, rfl, hc⟩ := hz.2.2 (by omega)
    have h1 : (zs.map (Value.int .u8)).length = n * 1 := by rw [List.length_map, hl, Nat.mul_one]
    have h2 : ∀ j u, (zs.map (Value.int .u8))[j]? = some u → (w.alloc (.cells #[] 5)).cell? ((⟨b, off, none⟩ : Addr).add j) = some u := fun j u hu => by
      have hj : j < n := by
        have := (List.getElem?_eq_some_iff.1 hu).1
        rw [List.length_map, hl] at this
        exact this
      have h3 := hc j hj
      rw [addr_add, (show (w.alloc (.cells #[] 5)).cell? ⟨b, off + j, none⟩ = w.cell? ⟨b, off + j, none⟩ from ((Below.refl w.heap.size w).alloc (Nat.le_refl _) _).cell (p := ⟨b, off + j, none⟩) (World.block_lt_of_cell? _ _ h3)), h3, ← hu, List.getElem?_map]
      simp [List.getD_eq_getElem?_getD, List.getElem?_eq_getElem (show j < zs.length by rw [hl]; exact hj)]
    have h3 : ∀ u ∈ zs.map (Value.int .u8), u.oneCell' = true := fun u hu => by
      obtain ⟨z, _, rfl⟩ := List.mem_map.1 hu
      rfl
    have HAB : Hid (AllB zs) := fun i hi => hz.2.1 i (by rw [← hl]; exact hi)
    have H1 := Lib.hid h1
    have H2 := Lib.hid h2
    have H3 := Lib.hid h3
    have HL := Lib.hid hl
    clear h1 h2 h3 hz hA hc hl
    go_enter Tryz.func70, Tryz.ntmps70
    go_wp2_with (at_builtin; refine wpList_append_arg _ rfl _ _ 106 rfl 5 i0 (.int .u8 0) 1 1 Tryz.underlying106 hi hz0 hz1 hz2 rfl (by decide) w.heap.size 0 0 0 [] rfl rfl (fun j u h => by simp at h) ⟨b, off, none⟩ n c (zs.map (Value.int .u8)) rfl H1.out H2.out H3.out (fun h => by omega) (by unfold maxLen; omega) (by omega) (fun h => by omega) ?_; intro _ v' w1 hown hgrow)
    have hO : OwnB w1 (w.alloc (.cells #[] 5)).heap.size v' zs := by
      unfold OwnB
      rw [HL.out]
      have := hown
      rw [Nat.zero_add] at this
      exact this
    have hb : Below w.heap.size w w1 := Below.grown ((Below.refl _ _).alloc (Nat.le_refl _) _) hgrow (by simp) (fun k hk => by cases hk)
    have hf : ∃ A' c', v' = .slice A' n c' ∧ BytesAt w1 A' n zs ∧ n ≤ c' := by
      rcases hO.form with ⟨_, h⟩ | ⟨g, cap, rfl, _, _, hcap, _⟩
      · rw [← HL.out, h] at h0; simp at h0
      · rw [HL.out] at hO hcap ⊢
        exact ⟨_, _, rfl, hO.at_ HAB.out, hcap⟩
    obtain ⟨A', c', rfl, hI, hcc⟩ := hf
    clear hown hgrow hO
    go_wp2
    go_ret
    exact ⟨_, _, rfl, hI, hcc, hb⟩


theorem refUnpack_any (A : Option Addr) (n c : Nat) (zs : List Int) (w : World) (hn : n ≤ 300 ∨ 400000 < n) (hnc : n ≤ c) (hz : BytesAt w A n zs) :
    Calls Tryz.prog 89 #[.slice A n c] w fun e w' => ∃ v, e = .returned (.tuple #[v, .int .i64 (unpackE zs)]) ∧ OwnF w' w.heap.size v (unpackL zs) ∧ Below w.heap.size w w' := by
  have hl := hz.1
  have hb := bytes_all hz
  have hbad : ∀ E : Int, E ≠ 0 → streamE zs = E → (Calls Tryz.prog 89 #[.slice A n c] w fun e w' => e = .returned (.tuple #[.slice none 0 0, .int .i64 E]) ∧ Below w.heap.size w w') → (Calls Tryz.prog 89 #[.slice A n c] w fun e w' => ∃ v, e = .returned (.tuple #[v, .int .i64 (unpackE zs)]) ∧ OwnF w' w.heap.size v (unpackL zs) ∧ Below w.heap.size w w') := by
    intro E h0 hE hc
    have e1 : unpackE zs = E := by unfold unpackE; rw [hE, if_neg h0]
    have e2 : unpackL zs = [] := by unfold unpackL; rw [e1, if_neg h0]
    rw [e1, e2]
    exact hc.mono fun e w' ⟨h1, h2⟩ => ⟨_, h1, World.ownsRow_nil _ _ _ _, h2⟩
  have still : ∀ E : Int, (Calls Tryz.prog 89 #[.slice A n c] w fun e w' => e = .returned (.tuple #[.slice none 0 0, .int .i64 E]) ∧ w = w') → (Calls Tryz.prog 89 #[.slice A n c] w fun e w' => e = .returned (.tuple #[.slice none 0 0, .int .i64 E]) ∧ Below w.heap.size w w') := fun E h => h.mono fun _ _ ⟨h1, h2⟩ => ⟨h1, by rw [← h2]; exact Below.refl _ _⟩
  by_cases h1 : 400000 < n
  · exact hbad 26 (by decide) (by unfold streamE; rw [hl, if_pos h1]) (still _ (refUnpack_long A n c w h1))
  · by_cases h2 : n < 14
    · exact hbad 28 (by decide) (by unfold streamE; rw [hl, if_neg h1, if_pos h2]) (still _ (refUnpack_torn A n c w h2))
    · obtain ⟨g, off, rfl, hc⟩ := hz.2.2 (by omega)
      by_cases h3 : zs.take 4 = magicL
      · by_cases h4 : (n : Int) = 14 + 4 * (zs.getD 4 0 * 256 + zs.getD 5 0)
        · have hM : n = 14 + ((n - 14) / 4) * 4 := by omega
          have hcs := refUnpack_seal g off c (n - 8) n ((n - 14) / 4) zs w hl hb (by omega) (by omega) hnc hz h3 h4 (by omega) hM
          by_cases h5 : zs.drop (n - 8) = sealL z8 (zs.take (n - 8))
          · rw [if_pos h5, if_pos h5] at hcs
            have e0 : streamE zs = 0 := by unfold streamE; rw [hl, if_neg h1, if_neg h2, if_neg (by simp [h3]), if_neg (by simpa using h4), if_neg (by simpa using h5)]
            have e1 : unpackE zs = samplesE (numsOf zs) := by unfold unpackE; rw [if_pos e0]
            have e2 : unpackL zs = if samplesE (numsOf zs) = 0 then numsOf zs else [] := by unfold unpackL; rw [e1]
            rw [e1, e2]
            exact hcs
          · rw [if_neg h5, if_neg h5] at hcs
            have e0 : streamE zs = 27 := by unfold streamE; rw [hl, if_neg h1, if_neg h2, if_neg (by simp [h3]), if_neg (by simpa using h4), if_pos (by simpa using h5)]
            have e1 : unpackE zs = 27 := by unfold unpackE; rw [e0, if_neg (by decide)]
            have e2 : unpackL zs = [] := by unfold unpackL; rw [e1, if_neg (by decide)]
            rw [e1, e2]
            exact hcs
        · exact hbad 2 (by decide) (by unfold streamE; rw [hl, if_neg h1, if_neg h2, if_neg (by simp [h3]), if_pos h4]) (refUnpack_shape g off n c zs w hl hb (by omega) (by omega) hnc hc h3 h4)
      · exact hbad 1 (by decide) (by unfold streamE; rw [hl, if_neg h1, if_neg h2, if_pos h3]) (still _ (refUnpack_form g off n c zs w hl hb (by omega) (by omega) hnc hc h3))

theorem each_zero {fs : List Nat} (hE : checkSamplesE fs = 0) (i : Nat) (hi : i < fs.length) : partE 10 (fs.getD i 0) = 0 := by
  have hm : ¬ 4096 < fs.length := fun hm => by rw [checkSamplesE_many fs hm] at hE; cases hE
  rw [checkSamplesE_few fs hm] at hE
  by_cases hall : ∀ j, j < fs.length → partE 10 (fs.getD j 0) = 0
  · exact hall i hi
  · exfalso
    obtain ⟨k, hk, hne, hz⟩ : ∃ k, k < fs.length ∧ partE 10 (fs.getD k 0) ≠ 0 ∧ ∀ j, j < k → partE 10 (fs.getD j 0) = 0 := by
      have : ∃ k, k < fs.length ∧ partE 10 (fs.getD k 0) ≠ 0 := by
        refine Classical.byContradiction fun hn => hall fun j hj => Classical.byContradiction fun h => hn ⟨j, hj, h⟩
      obtain ⟨k0, hk0⟩ := this
      induction k0 using Nat.strongRecOn with
      | ind n ih =>
        by_cases hall2 : ∀ j, j < n → partE 10 (fs.getD j 0) = 0
        · exact ⟨n, hk0.1, hk0.2, hall2⟩
        · obtain ⟨j, hj⟩ : ∃ j, j < n ∧ partE 10 (fs.getD j 0) ≠ 0 := Classical.byContradiction fun hn => hall2 fun j hj => Classical.byContradiction fun h => hn ⟨j, hj, h⟩
          exact ih j hj.1 ⟨by omega, hj.2⟩
    rw [firstInF_hit _ _ k hk hz hne] at hE
    exact hne hE
theorem self_of {b : Nat} (h : partE 10 b = 0) : (FloatKind.f32.format.order b b != some .eq) = false := by
  rcases single_cases b with ⟨s, m, e, hr, _⟩ | ⟨s, hr⟩ | ⟨s, t, hr⟩
  · show ((Ieee.single.read b).order (Ieee.single.read b) != some .eq) = false
    rw [hr]
    exact order_self s m e
  · rw [partE_none (fun _ _ _ h' => by rw [hr] at h'; cases h')] at h; cases h
  · rw [partE_none (fun _ _ _ h' => by rw [hr] at h'; cases h')] at h; cases h
theorem unpackL_self (zs : List Int) (i : Nat) (hi : i < (unpackL zs).length) : (FloatKind.f32.format.order ((unpackL zs).getD i 0) ((unpackL zs).getD i 0) != some .eq) = false := by
  unfold unpackL at hi ⊢
  by_cases h : unpackE zs = 0
  · rw [if_pos h] at hi ⊢
    have h1 : streamE zs = 0 := by
      unfold unpackE at h
      by_cases hs : streamE zs = 0
      · exact hs
      · rw [if_neg hs] at h; exact h
    unfold unpackE at h
    rw [if_pos h1] at h
    have h2 : checkSamplesE (numsOf zs) = 0 := by
      unfold samplesE at h
      rw [firstE] at h
      by_cases hc : checkSamplesE (numsOf zs) = 0
      · exact hc
      · rw [if_neg hc] at h; exact absurd h hc
    exact self_of (each_zero h2 i hi)
  · rw [if_neg h] at hi
    exact absurd hi (by simp)

set_option maxRecDepth 100000 in
theorem sameBytes_nil (w : World) : Calls Tryz.prog 90 #[.slice none 0 0, .slice none 0 0] w fun e w' => e = .returned (.bool true) ∧ Below w.heap.size w w' := by
  have k1 : ∀ w, (convert 106 9 (.slice none 0 0)).run Tryz.prog w = .ok (.string ⟨#[]⟩) w := fun w => by kernel_rfl
  have k3 : ((⟨#[]⟩ : ByteArray).toList == (⟨#[]⟩ : ByteArray).toList) = true := by simp
  go_enter Tryz.func90, Tryz.ntmps90
  go_wp2
  go_ret
  exact ⟨rfl, Below.refl _ _⟩
set_option maxRecDepth 100000 in
theorem sameBytes_eq (g g' n c c' : Nat) (zs : List Int) (w : World) (hl : zs.length = n) (h1 : ∀ i, i < n → w.cell? ⟨g, i, none⟩ = some (.int .u8 (zs.getD i 0))) (h2 : ∀ i, i < n → w.cell? ⟨g', i, none⟩ = some (.int .u8 (zs.getD i 0))) :
    Calls Tryz.prog 90 #[.slice (some ⟨g, 0, none⟩) n c, .slice (some ⟨g', 0, none⟩) n c'] w fun e w' => e = .returned (.bool true) ∧ Below w.heap.size w w' := by
  obtain ⟨X, hX⟩ : ∃ X, X = strOfNums zs := ⟨_, rfl⟩
  have k1 : (convert 106 9 (.slice (some ⟨g, 0, none⟩) n c)).run Tryz.prog w = .ok (.string X) w := by
    rw [hX]
    exact run_convert_bytes_arg w 106 5 Tryz.underlying106 Tryz.underlying5 g 0 n c zs hl (fun i hi => by rw [Nat.zero_add]; exact h1 i hi) 9 Tryz.underlying9
  have k2 : (convert 106 9 (.slice (some ⟨g', 0, none⟩) n c')).run Tryz.prog w = .ok (.string X) w := by
    rw [hX]
    exact run_convert_bytes_arg w 106 5 Tryz.underlying106 Tryz.underlying5 g' 0 n c' zs hl (fun i hi => by rw [Nat.zero_add]; exact h2 i hi) 9 Tryz.underlying9
  have k3 : (X.toList == X.toList) = true := by simp
  clear hX h1 h2 hl
  go_enter Tryz.func90, Tryz.ntmps90
  go_wp2
  go_ret
  exact ⟨rfl, Below.refl _ _⟩
end Go.Proofs.YtoipafnlcchmbaaGreatDoor
