/- The float32 words of sixteenths: which words they are, and what the reference makes of them. What the reference reads out of the words of samples. The program's Pack of any samples. The program's check of a stream, of any bytes. The program's Unpack, of any bytes. -/
import Derived.Test.YtoipafnlcchmbaaGreatDoorQW
import Derived.Test.YtoipafnlcchmbaaGreatDoorQK
import Derived.Test.YtoipafnlcchmbaaGreatDoorQL
import Derived.Test.YtoipafnlcchmbaaGreatDoorQLx
namespace Go.Proofs.YtoipafnlcchmbaaGreatDoor
open Ieee Go

/-- The rung of the magnitude V times the least place. -/
def lowOf (V : Nat) : Nat := V.log2 - 23
def rungOf (V : Nat) : Nat := lowOf V * 8388608 + V / 2 ^ lowOf V

theorem rungOf_small (r : Nat) (h : r < 8388608) : rungOf r = r := by
  have hl : lowOf r = 0 := by
    unfold lowOf
    by_cases h0 : r = 0
    · subst h0; decide
    · have := (Nat.log2_lt h0).2 (show r < 2 ^ 23 by omega)
      omega
  unfold rungOf
  rw [hl]; simp
theorem rungOf_shl (m k : Nat) (h1 : 8388608 ≤ m) (h2 : m < 16777216) : rungOf (m * 2 ^ k) = k * 8388608 + m := by
  have h0 : m ≠ 0 := by omega
  have hlog : m.log2 = 23 := (Nat.log2_eq_iff h0).2 ⟨by omega, by omega⟩
  have hl : lowOf (m * 2 ^ k) = k := by unfold lowOf; rw [log2_shl m k h0, hlog]; omega
  unfold rungOf
  rw [hl, Nat.mul_div_cancel _ (Nat.two_pow_pos _)]
/-- A word that is read as a number has the rung of its magnitude. -/
theorem rung_read {b m : Nat} {s : Bool} {e : Int} (h : single.read b = .number s m e) : b % 2147483648 = rungOf (bigM m e) ∧ s = (b / 2147483648 % 2 == 1) ∧ b % 2147483648 < 2139095040 := by
  unfold Format.read at h
  simp only [splace, sbin, sinf, ssign] at h
  by_cases h1 : b % 2147483648 < 8388608
  · rw [if_pos h1] at h
    simp only [Datum.number.injEq] at h
    obtain ⟨rfl, rfl, rfl⟩ := h
    refine ⟨?_, rfl, by omega⟩
    have e1 : bigM (b % 2147483648) (-149) = b % 2147483648 := by unfold bigM; simp
    rw [e1, rungOf_small _ h1]
  · rw [if_neg h1] at h
    by_cases h2 : b % 2147483648 < 255 * 8388608
    · rw [if_pos h2] at h
      simp only [Datum.number.injEq] at h
      obtain ⟨rfl, rfl, rfl⟩ := h
      refine ⟨?_, rfl, by omega⟩
      unfold bigM
      rw [show (-149 + ((b % 2147483648 / 8388608 - 1 : Nat) : Int) + 149).toNat = b % 2147483648 / 8388608 - 1 by omega, rungOf_shl _ _ (by omega) (by omega)]
      omega
    · rw [if_neg h2] at h
      split at h <;> cases h
theorem rungOf_read (s : Bool) (V : Nat) (h : rungOf V < 2139095040) (hd : V % 2 ^ lowOf V = 0) : ∃ m e, single.read (single.word s (rungOf V)) = .number s m e ∧ bigM m e = V ∧ -149 ≤ e ∧ (V ≠ 0 → lowOf V ≠ 0 → m.log2 = 23) := by
  have hw : ∀ r, r < 2147483648 → (if s = true then 2147483648 + r else r) % 2147483648 = r ∧ ((if s = true then 2147483648 + r else r) / 2147483648 % 2 == 1) = s := by
    intro r hr
    cases s
    · simp; omega
    · simp; omega
  obtain ⟨w1, w2⟩ := hw (rungOf V) (by omega)
  unfold Format.read Format.word
  simp only [splace, sbin, sinf, ssign]
  rw [w1, w2]
  by_cases hv : V < 8388608
  · have := rungOf_small V hv
    rw [this, if_pos hv]
    refine ⟨_, _, rfl, by unfold bigM; simp, by omega, fun h0 h1 => ?_⟩
    exfalso
    apply h1
    unfold lowOf
    have := (Nat.log2_lt h0).2 (show V < 2 ^ 23 by omega)
    omega
  · have h0 : V ≠ 0 := by omega
    have hlo : 23 ≤ V.log2 := (Nat.le_log2 h0).2 (by omega)
    obtain ⟨l, hl⟩ : ∃ l, l = lowOf V := ⟨_, rfl⟩
    have hl2 : V.log2 = l + 23 := by rw [hl]; unfold lowOf; omega
    have hlow := Nat.log2_self_le h0
    have hhi : V < 2 ^ (V.log2 + 1) := Nat.lt_log2_self
    rw [hl2, Nat.pow_add] at hlow
    rw [hl2, show l + 23 + 1 = l + 24 by omega, Nat.pow_add] at hhi
    rw [← hl] at hd
    obtain ⟨m, hm⟩ : ∃ m, m = V / 2 ^ l := ⟨_, rfl⟩
    have hp := Nat.two_pow_pos l
    have hV : V = m * 2 ^ l := by rw [hm]; exact (Nat.div_mul_cancel (Nat.dvd_of_mod_eq_zero hd)).symm
    have m1 : 8388608 ≤ m := by
      rw [hm, Nat.le_div_iff_mul_le hp, Nat.mul_comm]; exact hlow
    have m2 : m < 16777216 := by
      rw [hm, Nat.div_lt_iff_lt_mul hp, Nat.mul_comm]; exact hhi
    have hr : rungOf V = l * 8388608 + m := by rw [hV]; exact rungOf_shl m l m1 m2
    rw [hr] at h ⊢
    rw [if_neg (by omega), if_pos (by omega)]
    refine ⟨_, _, rfl, ?_, by omega, fun _ _ => ?_⟩
    · have q1 : (l * 8388608 + m) / 8388608 = l + 1 := by omega
      have q2 : (l * 8388608 + m) % 8388608 = m - 8388608 := by omega
      rw [q1, q2]
      unfold bigM
      rw [show (-149 + ((l + 1 - 1 : Nat) : Int) + 149).toNat = l by omega, show 8388608 + (m - 8388608) = m by omega, hV]
    · have q2 : (l * 8388608 + m) % 8388608 = m - 8388608 := by omega
      rw [q2, show 8388608 + (m - 8388608) = m by omega]
      exact (Nat.log2_eq_iff (by omega)).2 ⟨by omega, by omega⟩
theorem cut_exact (s : Bool) (m d : Nat) (h0 : m ≠ 0) (h : m % 2 ^ d = 0) : Toward.even.cut s m d = m / 2 ^ d := by
  have hd : d ≤ m.log2 := by
    rw [Nat.le_log2 h0]
    exact Nat.le_of_dvd (Nat.pos_of_ne_zero h0) (Nat.dvd_of_mod_eq_zero h)
  unfold Toward.cut
  dsimp only
  rw [Nat.min_eq_left (by omega), Nat.one_shiftLeft, h]
  have hp := Nat.two_pow_pos d
  have : (decide (2 ^ d < 2 * 0) || (2 ^ d == 2 * 0) && m / 2 ^ d % 2 == 1) = false := by
    simp
  rw [this]; rfl
/-- A number without further digits is written as the word of its rung. -/
theorem nearest_rung (s : Bool) (m V : Nat) (e : Int) (h0 : m ≠ 0) (he : -149 ≤ e) (hV : V = m * 2 ^ (e + 149).toNat) (hd : V % 2 ^ lowOf V = 0) (hr : rungOf V < 2139095040) : single.nearest s m e = single.word s (rungOf V) := by
  obtain ⟨a, ha⟩ : ∃ a : Nat, e = (a : Int) - 149 := ⟨(e + 149).toNat, by omega⟩
  subst ha
  rw [show ((a : Int) - 149 + 149).toNat = a by omega] at hV
  have hlog : V.log2 = m.log2 + a := by rw [hV]; exact log2_shl m a h0
  obtain ⟨l, hl⟩ : ∃ l, l = lowOf V := ⟨_, rfl⟩
  have hl' : l = m.log2 + a - 23 := by rw [hl]; unfold lowOf; rw [hlog]
  unfold Format.nearest
  rw [if_neg h0]
  simp only [splace, sbin, sinf]
  have hlast : max ((a : Int) - 149 + (m.log2 : Int) - ((single.fractionBits : Nat) : Int)) (-149) = (l : Int) - 149 := by
    rw [show ((single.fractionBits : Nat) : Int) = 23 from rfl]; omega
  rw [hlast, show ((l : Int) - 149 - -149).toNat = l by omega]
  have hk : Toward.even.cut s (m <<< ((a : Int) - 149 - ((l : Int) - 149)).toNat) ((l : Int) - 149 - ((a : Int) - 149)).toNat = V / 2 ^ l := by
    by_cases hal : l ≤ a
    · rw [show ((l : Int) - 149 - ((a : Int) - 149)).toNat = 0 by omega, cut_none _ _ _ (Or.inl rfl), show ((a : Int) - 149 - ((l : Int) - 149)).toNat = a - l by omega, Nat.shiftLeft_eq, hV, show a = (a - l) + l by omega, Nat.pow_add, ← Nat.mul_assoc, Nat.mul_div_cancel _ (Nat.two_pow_pos _), show (a - l) + l - l = a - l by omega]
    · rw [show ((a : Int) - 149 - ((l : Int) - 149)).toNat = 0 by omega, Nat.shiftLeft_zero, show ((l : Int) - 149 - ((a : Int) - 149)).toNat = l - a by omega]
      rw [← hl, hV, show l = (l - a) + a by omega, Nat.pow_add, Nat.mul_mod_mul_right] at hd
      have hd' : m % 2 ^ (l - a) = 0 := by
        have := Nat.two_pow_pos a
        rcases Nat.mul_eq_zero.1 hd with h | h
        · exact h
        · omega
      rw [cut_exact s m _ h0 hd', hV]
      conv => rhs; rw [show l = (l - a) + a by omega, Nat.pow_add, Nat.mul_div_mul_right _ _ (Nat.two_pow_pos _)]
  rw [hk]
  congr 1
  have : rungOf V = l * 8388608 + V / 2 ^ l := by unfold rungOf; rw [← hl]
  rw [this] at hr ⊢
  exact Nat.min_eq_left (by omega)

/-- The word of a sample of k sixteenths. -/
def bitsK (s : Bool) (k : Nat) : Nat := single.word s (rungOf (k * 2 ^ 145))
theorem lowK (k c : Nat) (h0 : k ≠ 0) : lowOf (k * 2 ^ c) = k.log2 + c - 23 := by unfold lowOf; rw [log2_shl k c h0]
theorem logK (k : Nat) (h : k ≤ 16384) : k.log2 ≤ 14 := by
  by_cases h0 : k = 0
  · subst h0; decide
  · have := (Nat.log2_lt h0).2 (show k < 2 ^ 15 by omega)
    omega
theorem rungK (k c : Nat) (h0 : k ≠ 0) (h : k ≤ 16384) (hc : 23 ≤ c) : rungOf (k * 2 ^ c) = (k.log2 + c - 23) * 8388608 + k * 2 ^ (23 - k.log2) ∧ k * 2 ^ c % 2 ^ lowOf (k * 2 ^ c) = 0 ∧ 8388608 ≤ k * 2 ^ (23 - k.log2) ∧ k * 2 ^ (23 - k.log2) < 16777216 := by
  have hl := logK k h
  have e1 : k * 2 ^ c = k * 2 ^ (23 - k.log2) * 2 ^ (k.log2 + c - 23) := by rw [Nat.mul_assoc, ← Nat.pow_add]; congr 2; omega
  have hlo := Nat.log2_self_le h0
  have hhi : k < 2 ^ (k.log2 + 1) := Nat.lt_log2_self
  have p := Nat.two_pow_pos (23 - k.log2)
  have a1 : 8388608 ≤ k * 2 ^ (23 - k.log2) := by
    calc 8388608 = 2 ^ k.log2 * 2 ^ (23 - k.log2) := by rw [← Nat.pow_add, show k.log2 + (23 - k.log2) = 23 by omega]
      _ ≤ _ := Nat.mul_le_mul_right _ hlo
  have a2 : k * 2 ^ (23 - k.log2) < 16777216 := by
    calc _ < 2 ^ (k.log2 + 1) * 2 ^ (23 - k.log2) := Nat.mul_lt_mul_of_pos_right hhi p
      _ = 16777216 := by rw [← Nat.pow_add, show k.log2 + 1 + (23 - k.log2) = 24 by omega]
  refine ⟨?_, ?_, a1, a2⟩
  · rw [e1, rungOf_shl _ _ a1 a2]
  · rw [lowK k c h0, e1, Nat.mul_mod_left]
theorem rungK_lt (k c : Nat) (h0 : k ≠ 0) (h : k ≤ 16384) (hc : 23 ≤ c) (hc2 : c ≤ 200) : rungOf (k * 2 ^ c) < 2139095040 := by
  obtain ⟨a, _, _, b⟩ := rungK k c h0 h hc
  have hl := logK k h
  rw [a]; omega
theorem bitsK_zero (s : Bool) : bitsK s 0 = if s then 2147483648 else 0 := by cases s <;> decide
/-- A sample without fault is some sixteenths. -/
theorem sample_is {b : Nat} (hb : b < 4294967296) (h : partE 10 b = 0) : ∃ s k, k ≤ 16384 ∧ b = bitsK s k := by
  rcases single_cases b with ⟨s, m, e, hr, h1, h2, h3⟩ | ⟨s, hr⟩ | ⟨s, t, hr⟩
  · rw [partE_number hr] at h
    by_cases hbig : 2 ^ (10 + 149) < bigM m e
    · rw [if_pos hbig] at h; cases h
    · rw [if_neg hbig] at h
      by_cases hmod : 16 * bigM m e % 2 ^ 149 = 0
      · obtain ⟨g1, g2, g3⟩ := rung_read hr
        obtain ⟨V, hV⟩ : ∃ V, V = bigM m e := ⟨_, rfl⟩
        rw [← hV] at hbig hmod g1
        have e16 : (16 * V) % (16 * 2 ^ 145) = 0 := by rw [show 16 * 2 ^ 145 = 2 ^ 149 by decide]; exact hmod
        rw [Nat.mul_mod_mul_left] at e16
        obtain ⟨k, hk⟩ : ∃ k, V = k * 2 ^ 145 := ⟨V / 2 ^ 145, by rw [Nat.div_mul_cancel (Nat.dvd_of_mod_eq_zero (by omega))]⟩
        refine ⟨s, k, ?_, ?_⟩
        · have e1 : (2 : Nat) ^ (10 + 149) = 16384 * 2 ^ 145 := by decide
          rw [e1, hk] at hbig
          exact Nat.le_of_mul_le_mul_right (Nat.not_lt.1 hbig) (by decide)
        · unfold bitsK Format.word
          rw [ssign, ← hk, ← g1, g2]
          by_cases hs : b / 2147483648 % 2 = 1
          · rw [if_pos (by simp [hs])]; omega
          · rw [if_neg (by simp [hs])]; omega
      · rw [if_neg hmod] at h; cases h
  · rw [partE_none (fun _ _ _ h' => by rw [hr] at h'; cases h')] at h; cases h
  · rw [partE_none (fun _ _ _ h' => by rw [hr] at h'; cases h')] at h; cases h
theorem read_bitsK (s : Bool) (k : Nat) (h : k ≤ 16384) : ∃ m e, single.read (bitsK s k) = .number s m e ∧ bigM m e = k * 2 ^ 145 ∧ -149 ≤ e := by
  by_cases h0 : k = 0
  · subst h0
    exact ⟨0, -149, by cases s <;> decide, by decide, by omega⟩
  · obtain ⟨_, hd, _, _⟩ := rungK k 145 h0 h (by omega)
    obtain ⟨m, e, a, b, c, _⟩ := rungOf_read s (k * 2 ^ 145) (rungK_lt k 145 h0 h (by omega) (by omega)) hd
    exact ⟨m, e, a, b, c⟩
theorem partE_bitsK (s : Bool) (k : Nat) (h : k ≤ 16384) : partE 10 (bitsK s k) = 0 := by
  obtain ⟨m, e, hr, hb, _⟩ := read_bitsK s k h
  rw [partE_number hr, hb, if_neg (by
    have e1 : (2 : Nat) ^ (10 + 149) = 16384 * 2 ^ 145 := by decide
    rw [e1]
    exact Nat.not_lt.2 (Nat.mul_le_mul_right _ h)), if_pos (by
    have e1 : (2 : Nat) ^ 149 = 16 * 2 ^ 145 := by decide
    rw [e1, Nat.mul_mod_mul_left, Nat.mul_mod_left])]

theorem read_16s : single.read 1098907648 = .number false (2 ^ 23) (-19) := by decide
theorem kept_zero (s : Bool) (e : Int) : single.nearest s 0 e = single.word s 0 := by unfold Format.nearest; rw [if_pos rfl]
/-- Sixteen times a sample: its integer, as a float. -/
theorem times16 (s : Bool) (k : Nat) (h : k ≤ 16384) : ∃ z, floatBits .mul .f32 1098907648 (bitsK s k) = some z ∧ floatToIntVal .f32 z .i64 = some (if s then -(k : Int) else k) := by
  by_cases h0 : k = 0
  · subst h0
    cases s
    · exact ⟨0, by decide, by decide⟩
    · exact ⟨2147483648, by decide, by decide⟩
  · obtain ⟨m, e, hr, hb, he⟩ := read_bitsK s k h
    have hm0 : m ≠ 0 := by
      rintro rfl
      unfold bigM at hb
      rw [Nat.zero_mul] at hb
      have := Nat.mul_pos (Nat.pos_of_ne_zero h0) (Nat.two_pow_pos 145)
      omega
    have hm24 : m < 2 ^ 24 := by
      rcases single_cases (bitsK s k) with ⟨s', m', e', hr', h1, _, _⟩ | ⟨s', hr'⟩ | ⟨s', t, hr'⟩
      · rw [hr] at hr'; simp only [Datum.number.injEq] at hr'; omega
      · rw [hr] at hr'; cases hr'
      · rw [hr] at hr'; cases hr'
    have hV : 16 * bigM m e = k * 2 ^ 149 := by rw [hb, show (2 : Nat) ^ 149 = 16 * 2 ^ 145 by decide, Nat.mul_left_comm]
    have he2 : -130 ≤ e := by
      have hge : 1 * 2 ^ 145 ≤ bigM m e := by rw [hb]; exact Nat.mul_le_mul_right _ (by omega)
      have hlt : ¬ e < -130 := fun hlt => by
        have : bigM m e ≤ 2 ^ 24 * 2 ^ 19 := Nat.mul_le_mul (by omega) (Nat.pow_le_pow_right (by omega) (by omega))
        have := Nat.le_trans hge this
        exact absurd this (by decide)
      omega
    have hVV : k * 2 ^ 149 = m * 2 ^ 23 * 2 ^ (e + -19 + 149).toNat := by
      rw [← hV]
      unfold bigM
      obtain ⟨a, ha⟩ : ∃ a : Nat, e = (a : Int) - 130 := ⟨(e + 130).toNat, by omega⟩
      subst ha
      rw [show ((a : Int) - 130 + 149).toNat = a + 19 by omega, show ((a : Int) - 130 + -19 + 149).toNat = a by omega, Nat.mul_assoc, ← Nat.pow_add, Nat.mul_left_comm]
      have e5 : 16 * 2 ^ (a + 19) = 2 ^ (23 + a) := by rw [show (16 : Nat) = 2 ^ 4 by decide, ← Nat.pow_add, show 4 + (a + 19) = 23 + a by omega]
      rw [e5]
    obtain ⟨r1, r2, r3, r4⟩ := rungK k 149 h0 h (by omega)
    have hlt := rungK_lt k 149 h0 h (by omega) (by omega)
    refine ⟨single.word s (rungOf (k * 2 ^ 149)), ?_, ?_⟩
    · show single.mul 1098907648 (bitsK s k) = _
      unfold Format.mul
      rw [hr, read_16s]
      show some (single.nearest (false ^^ s) (2 ^ 23 * m) (-19 + e)) = _
      rw [Bool.false_xor, Nat.mul_comm, Int.add_comm]
      rw [nearest_rung s (m * 2 ^ 23) (k * 2 ^ 149) (e + -19) (Nat.ne_of_gt (Nat.mul_pos (Nat.pos_of_ne_zero hm0) (by decide))) (by omega) hVV r2 hlt]
    · obtain ⟨m', e', hr', hb', he', _⟩ := rungOf_read s (k * 2 ^ 149) hlt r2
      unfold floatToIntVal Datum.toInt
      have e1 : FloatKind.f32.decode (single.word s (rungOf (k * 2 ^ 149))) = .number s m' e' := hr'
      rw [e1]
      have hint : Datum.integral .zero (.number s m' e') = .number s k 0 := by
        show Datum.number s (Toward.zero.cut s (m' <<< e'.toNat) (-e').toNat) 0 = _
        rw [cut_zero s m' e' 149 (by omega)]
        congr 1
        have : m' * 2 ^ (e' + 149).toNat = k * 2 ^ 149 := hb'
        rw [show ((149 : Nat) : Int) = 149 from rfl, this, Nat.mul_div_cancel _ (Nat.two_pow_pos _)]
      rw [hint]
      simp only
      have hb2 : signed s k 0 = if s then -(k : Int) else k := by rw [signed_eq, Nat.pow_zero, Nat.mul_one]
      rw [hb2, if_pos]
      show (-9223372036854775808 : Int) ≤ _ ∧ _ ≤ (9223372036854775807 : Int)
      cases s <;> simp <;> omega
/-- The sample of an integer: of 0 no sign is left. -/
theorem sampleOf (s : Bool) (k : Nat) (h : k ≤ 16384) : floatBits .quo .f32 (floatOfInt .f32 (if s then -(k : Int) else k)) 1098907648 = some (if k = 0 then 0 else bitsK s k) := by
  by_cases h0 : k = 0
  · subst h0; cases s <;> decide
  · rw [if_neg h0]
    obtain ⟨r1, r2, r3, r4⟩ := rungK k 149 h0 h (by omega)
    have hlt := rungK_lt k 149 h0 h (by omega) (by omega)
    have hn : floatOfInt .f32 (if s then -(k : Int) else k) = single.word s (rungOf (k * 2 ^ 149)) := by
      have e1 : floatOfInt .f32 (if s then -(k : Int) else k) = single.nearest s k 0 := by
        show single.nearest (decide ((if s then -(k : Int) else k) < 0)) ((if s then -(k : Int) else k)).natAbs 0 = _
        cases s
        · have : decide ((k : Int) < 0) = false := decide_eq_false (by omega)
          simp only [Bool.false_eq_true, if_false, this, Int.natAbs_natCast]
        · have : decide (-(k : Int) < 0) = true := decide_eq_true (by omega)
          simp only [if_true, this, Int.natAbs_neg, Int.natAbs_natCast]
      rw [e1]
      exact nearest_rung s k (k * 2 ^ 149) 0 h0 (by omega) (by rfl) r2 hlt
    rw [hn]
    obtain ⟨m, e, hr, hb, he, hlog⟩ := rungOf_read s (k * 2 ^ 149) hlt r2
    have hlog := hlog (Nat.ne_of_gt (Nat.mul_pos (Nat.pos_of_ne_zero h0) (Nat.two_pow_pos _))) (by rw [lowK k 149 h0]; omega)
    have hm0 : m ≠ 0 := by rintro rfl; rw [show Nat.log2 0 = 0 by decide] at hlog; omega
    have he2 : -130 ≤ e := by
      have hm24 : m < 2 ^ 24 := by have := @Nat.lt_log2_self m; rw [hlog] at this; exact this
      have hge : 1 * 2 ^ 149 ≤ bigM m e := by rw [hb]; exact Nat.mul_le_mul_right _ (by omega)
      have hlt : ¬ e < -130 := fun hlt => by
        have : bigM m e ≤ 2 ^ 24 * 2 ^ 19 := Nat.mul_le_mul (by omega) (Nat.pow_le_pow_right (by omega) (by omega))
        have := Nat.le_trans hge this
        exact absurd this (by decide)
      omega
    obtain ⟨q1, q2, q3, q4⟩ := rungK k 145 h0 h (by omega)
    have hqlt := rungK_lt k 145 h0 h (by omega) (by omega)
    show single.div _ 1098907648 = _
    unfold Format.div
    rw [hr, read_16s]
    have hq : Datum.quotient (single.fractionBits + 2) (.number s m e) (.number false (2 ^ 23) (-19)) = some (.number s (m * 8) (e - 7)) := by
      show (if (2 ^ 23 : Nat) = 0 then (if m = 0 then none else some (Datum.infinity (s ^^ false))) else some (Datum.number (s ^^ false) (2 * (m <<< (25 + (2 ^ 23 : Nat).log2 - m.log2) / 2 ^ 23) + (m <<< (25 + (2 ^ 23 : Nat).log2 - m.log2) % 2 ^ 23 != 0).toNat) (e - -19 - ((25 + (2 ^ 23 : Nat).log2 - m.log2 : Nat) : Int) - 1))) = _
      rw [if_neg (by decide), hlog, show (2 ^ 23 : Nat).log2 = 23 by decide, show 25 + 23 - 23 = 25 by decide, Nat.shiftLeft_eq, Bool.xor_false, show m * 2 ^ 25 = m * 4 * 2 ^ 23 by omega, Nat.mul_div_cancel _ (by decide), Nat.mul_mod_left]
      congr 2
      · simp; omega
      · omega
    rw [hq]
    show some (single.nearest s (m * 8) (e - 7)) = _
    rw [nearest_rung s (m * 8) (k * 2 ^ 145) (e - 7) (by omega) (by omega) ?_ q2 hqlt]
    · rfl
    · have hb' : m * 2 ^ (e + 149).toNat = k * 2 ^ 149 := hb
      obtain ⟨a, ha⟩ : ∃ a : Nat, e = (a : Int) - 130 := ⟨(e + 130).toNat, by omega⟩
      subst ha
      rw [show ((a : Int) - 130 + 149).toNat = a + 19 by omega] at hb'
      rw [show ((a : Int) - 130 - 7 + 149).toNat = a + 12 by omega]
      have e3 : (2 : Nat) ^ (a + 19) = 2 ^ (a + 12) * 128 := by rw [Nat.pow_add, Nat.pow_add]; omega
      have e4 : (2 : Nat) ^ 149 = 2 ^ 145 * 16 := by decide
      rw [e3, e4, ← Nat.mul_assoc, ← Nat.mul_assoc] at hb'
      have : m * 8 * 2 ^ (a + 12) * 16 = k * 2 ^ 145 * 16 := by rw [← hb', Nat.mul_right_comm m 8]; omega
      exact (Nat.eq_of_mul_eq_mul_right (by decide) this).symm
end Go.Proofs.YtoipafnlcchmbaaGreatDoor
namespace Go.Proofs.YtoipafnlcchmbaaGreatDoor
open Ieee Go

/-- A sample without a minus before 0. -/
def norm (b : Nat) : Nat := if b = 2147483648 then 0 else b
theorem bitsK_rung (s : Bool) (k : Nat) : bitsK s k = (if s then 2147483648 else 0) + rungOf (k * 2 ^ 145) := by
  unfold bitsK Format.word
  rw [ssign]; cases s <;> simp
theorem norm_bitsK (s : Bool) (k : Nat) (h : k ≤ 16384) : norm (bitsK s k) = if k = 0 then 0 else bitsK s k := by
  unfold norm
  by_cases h0 : k = 0
  · subst h0; rw [bitsK_zero]; cases s <;> simp
  · rw [if_neg h0, if_neg]
    rw [bitsK_rung]
    obtain ⟨r1, _, r3, _⟩ := rungK k 145 h0 h (by omega)
    have hlt := rungK_lt k 145 h0 h (by omega) (by omega)
    have hpos : 0 < rungOf (k * 2 ^ 145) := by rw [r1]; omega
    generalize rungOf (k * 2 ^ 145) = r at hlt hpos
    cases s
    · simp only [Bool.false_eq_true, if_false]; omega
    · simp only [if_true]; omega
theorem bitsK_is (s : Bool) (k : Nat) (h0 : k ≠ 0) (h : k ≤ 16384) : bitsK s k = (if s then 2147483648 else 0) + ((k.log2 + 123) * 8388608 + (k - 2 ^ k.log2) * 2 ^ (23 - k.log2)) := by
  rw [bitsK_rung]
  obtain ⟨r1, _, r3, _⟩ := rungK k 145 h0 h (by omega)
  have hl := logK k h
  have hlo := Nat.log2_self_le h0
  have e1 : 2 ^ k.log2 * 2 ^ (23 - k.log2) = 8388608 := by rw [← Nat.pow_add, show k.log2 + (23 - k.log2) = 23 by omega]
  rw [r1, Nat.sub_mul k, e1]
  omega
theorem bitsK_lt (s : Bool) (k : Nat) (h : k ≤ 16384) : bitsK s k < 4294967296 := by
  by_cases h0 : k = 0
  · subst h0; rw [bitsK_zero]; cases s <;> simp
  · rw [bitsK_rung]
    have hlt := rungK_lt k 145 h0 h (by omega) (by omega)
    generalize rungOf (k * 2 ^ 145) = r at hlt
    cases s
    · simp only [Bool.false_eq_true, if_false]; omega
    · simp only [if_true]; omega
theorem read_parts (b : Nat) : single.read b = (if b / 8388608 % 256 = 0 then .number (b / 2147483648 % 2 == 1) (b % 8388608) (-149)
    else if b / 8388608 % 256 < 255 then .number (b / 2147483648 % 2 == 1) (8388608 + b % 8388608) ((b / 8388608 % 256 : Nat) - 150)
    else if b % 8388608 = 0 then .infinity (b / 2147483648 % 2 == 1) else .nan (b / 2147483648 % 2 == 1) (b % 8388608)) := by
  unfold Format.read
  simp only [splace, sbin, sinf, ssign]
  by_cases h1 : b / 8388608 % 256 = 0
  · rw [if_pos h1, if_pos (by omega), show b % 2147483648 = b % 8388608 by omega]
  · rw [if_neg h1, if_neg (by omega)]
    by_cases h2 : b / 8388608 % 256 < 255
    · rw [if_pos h2, if_pos (by omega)]
      have q1 : b % 2147483648 % 8388608 = b % 8388608 := by omega
      have q2 : (-149 : Int) + ((b % 2147483648 / 8388608 - 1 : Nat) : Int) = ((b / 8388608 % 256 : Nat) : Int) - 150 := by omega
      rw [q1, q2]
    · rw [if_neg h2, if_neg (by omega)]
      by_cases h3 : b % 8388608 = 0
      · rw [if_pos h3, if_pos (by omega)]
      · rw [if_neg h3, if_neg (by omega)]
        have q1 : b % 2147483648 - 255 * 8388608 = b % 8388608 := by omega
        rw [q1]
theorem part_full {b : Nat} (h : b / 8388608 % 256 = 255) : partE 10 b = 1 := by
  refine partE_none fun s m e hr => ?_
  rw [read_parts, if_neg (by omega), if_neg (by omega)] at hr
  split at hr <;> cases hr
theorem part_none {b : Nat} (h : b / 8388608 % 256 = 0) : partE 10 b = if b % 8388608 = 0 then 0 else 3 := by
  have hr : single.read b = .number (b / 2147483648 % 2 == 1) (b % 8388608) (-149) := by rw [read_parts, if_pos h]
  have hb : bigM (b % 8388608) (-149) = b % 8388608 := by unfold bigM; simp
  rw [partE_number hr, hb, if_neg (by
    have e1 : (2 : Nat) ^ (10 + 149) = 16384 * 2 ^ 145 := by decide
    have e2 : 8388608 ≤ (2 : Nat) ^ (10 + 149) := by decide
    omega)]
  have e3 : 16 * 8388608 ≤ (2 : Nat) ^ 149 := by decide
  rw [Nat.mod_eq_of_lt (by omega)]
  by_cases h0 : b % 8388608 = 0
  · rw [if_pos h0, if_pos (by omega)]
  · rw [if_neg h0, if_neg (by omega)]
theorem part_big {b E : Nat} (hE : b / 8388608 % 256 = E) (h0 : E ≠ 0) (h1 : E < 255) : partE 10 b = if 2 ^ (10 + 149) < (8388608 + b % 8388608) * 2 ^ (E - 1) then 3 else if 16 * ((8388608 + b % 8388608) * 2 ^ (E - 1)) % 2 ^ 149 = 0 then 0 else 3 := by
  have hr : single.read b = .number (b / 2147483648 % 2 == 1) (8388608 + b % 8388608) ((E : Nat) - 150) := by rw [read_parts, hE, if_neg h0, if_pos h1]
  have hb : bigM (8388608 + b % 8388608) ((E : Nat) - 150) = (8388608 + b % 8388608) * 2 ^ (E - 1) := by unfold bigM; rw [show ((E : Int) - 150 + 149).toNat = E - 1 by omega]
  rw [partE_number hr, hb]
theorem part_high {b : Nat} (h : 146 ≤ b / 8388608 % 256) (h1 : b / 8388608 % 256 < 255) : partE 10 b = 3 := by
  rw [part_big rfl (by omega) h1, if_pos]
  have e1 : (2 : Nat) ^ (10 + 149) < 8388608 * 2 ^ 145 := by decide
  exact Nat.lt_of_lt_of_le e1 (Nat.mul_le_mul (by omega) (Nat.pow_le_pow_right (by omega) (by omega)))
theorem part_low {b : Nat} (h : b / 8388608 % 256 < 123) (h1 : b / 8388608 % 256 ≠ 0) : partE 10 b = 3 := by
  rw [part_big rfl h1 (by omega)]
  split
  · rfl
  · rw [if_neg]
    have hp := Nat.two_pow_pos (b / 8388608 % 256 - 1)
    have hlt : 16 * ((8388608 + b % 8388608) * 2 ^ (b / 8388608 % 256 - 1)) < 2 ^ 149 := by
      have : (8388608 + b % 8388608) * 2 ^ (b / 8388608 % 256 - 1) ≤ 16777215 * 2 ^ 121 := Nat.mul_le_mul (by omega) (Nat.pow_le_pow_right (by omega) (by omega))
      have e2 : 16 * (16777215 * 2 ^ 121) < 2 ^ 149 := by decide
      omega
    rw [Nat.mod_eq_of_lt hlt]
    have := Nat.mul_pos (show 0 < 8388608 + b % 8388608 by omega) hp
    omega
theorem part_mid {b E : Nat} (hE : b / 8388608 % 256 = E) (h0 : 123 ≤ E) (h1 : E < 146) : partE 10 b = if (8388608 + b % 8388608) % 2 ^ (146 - E) = 0 ∧ (8388608 + b % 8388608) / 2 ^ (146 - E) ≤ 16384 then 0 else 3 := by
  rw [part_big hE (by omega) (by omega)]
  obtain ⟨N, hN⟩ : ∃ N, N = 8388608 + b % 8388608 := ⟨_, rfl⟩
  rw [← hN]
  obtain ⟨d, hd⟩ : ∃ d, d = 146 - E := ⟨_, rfl⟩
  have e1 : (2 : Nat) ^ 149 = 2 ^ d * (2 ^ (E - 1) * 16) := by
    rw [show (16 : Nat) = 2 ^ 4 by decide, ← Nat.pow_add, ← Nat.pow_add]; congr 1; omega
  have e2 : 16 * (N * 2 ^ (E - 1)) = N * (2 ^ (E - 1) * 16) := by rw [Nat.mul_comm, Nat.mul_assoc]
  have p1 := Nat.two_pow_pos (E - 1)
  have p2 := Nat.two_pow_pos d
  have hmod : (16 * (N * 2 ^ (E - 1)) % 2 ^ 149 = 0) ↔ N % 2 ^ d = 0 := by
    rw [e1, e2, Nat.mul_mod_mul_right, Nat.mul_eq_zero]
    omega
  rw [← hd]
  by_cases hz : N % 2 ^ d = 0
  · obtain ⟨k, hk⟩ : ∃ k, N = k * 2 ^ d := ⟨N / 2 ^ d, (Nat.div_mul_cancel (Nat.dvd_of_mod_eq_zero hz)).symm⟩
    have hdiv : N / 2 ^ d = k := by rw [hk, Nat.mul_div_cancel _ p2]
    have e3 : (2 : Nat) ^ (10 + 149) = 16384 * (2 ^ d * 2 ^ (E - 1)) := by
      rw [show (16384 : Nat) = 2 ^ 14 by decide, ← Nat.pow_add, ← Nat.pow_add]; congr 1; omega
    have hlim : (2 ^ (10 + 149) < N * 2 ^ (E - 1)) ↔ 16384 < k := by
      rw [e3, hk, Nat.mul_assoc]
      exact Nat.mul_lt_mul_right (Nat.mul_pos p2 p1)
    by_cases hb : 16384 < k
    · rw [if_pos (hlim.2 hb), if_neg (by rw [hdiv]; omega)]
    · rw [if_neg (fun h => hb (hlim.1 h)), if_pos (hmod.2 hz), if_pos ⟨hz, by rw [hdiv]; omega⟩]
  · have hn : ¬ (N % 2 ^ d = 0 ∧ N / 2 ^ d ≤ 16384) := fun h => hz h.1
    rw [if_neg hn]
    split
    · rfl
    · rw [if_neg (fun h => hz (hmod.1 h))]
/-- The sample of a word in the middle. -/
theorem mid_word {b E k : Nat} (hb : b < 4294967296) (hE : b / 8388608 % 256 = E) (h0 : 123 ≤ E) (h1 : E < 146) (hk : 8388608 + b % 8388608 = k * 2 ^ (146 - E)) (hle : k ≤ 16384) : k ≠ 0 ∧ b = bitsK (decide (2147483648 ≤ b)) k := by
  have hk0 : k ≠ 0 := by rintro rfl; omega
  refine ⟨hk0, ?_⟩
  rw [bitsK_rung]
  have e1 : k * 2 ^ 145 = (8388608 + b % 8388608) * 2 ^ (E - 1) := by
    rw [hk, Nat.mul_assoc, ← Nat.pow_add]; congr 2; omega
  rw [e1, rungOf_shl _ _ (by omega) (by omega)]
  by_cases hs : 2147483648 ≤ b
  · rw [decide_eq_true hs]; simp only [if_true]; omega
  · rw [decide_eq_false hs]; simp only [Bool.false_eq_true, if_false]; omega
/-- The words of the reference. -/
def intK (s : Bool) (k : Nat) : Int := if s then -(k : Int) else k
theorem log_lt (k p : Nat) (h0 : k ≠ 0) (hp : p = k.log2) : 2 ^ p ≤ k ∧ k < 2 ^ (p + 1) := by
  rw [hp]; exact ⟨Nat.log2_self_le h0, Nat.lt_log2_self⟩
theorem more_digits (k p j : Nat) (h0 : k ≠ 0) (hp : p = k.log2) : (0 < (k : Int) / 2 ^ (j + 1)) ↔ j < p := by
  have hpw := Nat.two_pow_pos (j + 1)
  have e : (k : Int) / 2 ^ (j + 1) = ((k / 2 ^ (j + 1) : Nat) : Int) := by push_cast; rfl
  rw [e]
  have h1 : 0 < k / 2 ^ (j + 1) ↔ 2 ^ (j + 1) ≤ k := by
    rw [Nat.div_pos_iff]; omega
  rw [show (0 : Int) < ((k / 2 ^ (j + 1) : Nat) : Int) ↔ 0 < k / 2 ^ (j + 1) by omega, h1, ← Nat.le_log2 h0, ← hp]
  omega
theorem norm_word (s : Bool) (k : Nat) (h0 : k ≠ 0) (h : k ≤ 16384) : ((norm (bitsK s k) : Nat) : Int) = (if s then 2147483648 else 0) + (((k.log2 : Int) + 123) * 8388608 + ((k : Int) - 2 ^ k.log2) * 2 ^ (23 - k.log2)) := by
  rw [norm_bitsK s k h, if_neg h0, bitsK_is s k h0 h]
  have hlo := Nat.log2_self_le h0
  have e : (((k - 2 ^ k.log2 : Nat)) : Int) = (k : Int) - 2 ^ k.log2 := by rw [Int.ofNat_sub hlo]; rw [Int.natCast_pow]; rfl
  obtain ⟨d, hd⟩ : ∃ d : Nat, d = k - 2 ^ k.log2 := ⟨_, rfl⟩
  rw [← hd] at e ⊢
  rw [← e]
  obtain ⟨P, hP⟩ : ∃ P : Nat, P = 2 ^ (23 - k.log2) := ⟨_, rfl⟩
  have eP : (2 : Int) ^ (23 - k.log2) = (P : Int) := by rw [hP, Int.natCast_pow]; rfl
  rw [eP, ← hP, ← Int.natCast_mul]
  generalize d * P = q
  generalize k.log2 = l
  cases s
  · simp only [Bool.false_eq_true, if_false]; omega
  · simp only [if_true]; omega
end Go.Proofs.YtoipafnlcchmbaaGreatDoor
namespace Go.Proofs.YtoipafnlcchmbaaGreatDoor
open Go.RowKit

set_option maxRecDepth 100000 in
theorem bytesOf_zero (w : World) :
    Calls Tryz.prog 147 #[.float .f32 2147483648] w fun e w' => e = .returned (.agg #[.int .u8 0, .int .u8 0, .int .u8 0, .int .u8 0]) ∧ Below w.heap.size w w' := by
  have hcb : ∀ w', (callFunc 176 #[.float .f32 2147483648]).run Tryz.prog w' = .ok (.value (.int .u32 2147483648)) w' := fun w' => call_f32bits 2147483648 w'
  go_enter Tryz.func147, Tryz.ntmps147
  go_wp2
  exact bodyPost_ret (v := .agg #[.int .u8 0, .int .u8 0, .int .u8 0, .int .u8 0]) (by simp [results, Tryz.results147, go_sem]) rfl ⟨rfl, (Below.refl _ _).alloc (Nat.le_refl _) _⟩
theorem bytesOf_any (b : Nat) (w : World) (hb : b < 4294967296) :
    Calls Tryz.prog 147 #[.float .f32 b] w fun e w' => e = .returned (.agg #[.int .u8 ((norm b : Int) / 16777216), .int .u8 ((norm b : Int) / 65536 % 256), .int .u8 ((norm b : Int) / 256 % 256), .int .u8 ((norm b : Int) % 256)]) ∧ Below w.heap.size w w' := by
  by_cases h : b = 2147483648
  · have hn : norm b = 0 := by unfold norm; rw [if_pos h]
    rw [hn, h]
    exact bytesOf_zero w
  · have hn : norm b = b := by unfold norm; rw [if_neg h]
    rw [hn]
    exact bytesOf_of b w hb (by simp; omega)

set_option maxHeartbeats 2000000 in
set_option maxRecDepth 100000 in
theorem mapped_bytes_any (A : Option Addr) (n c : Nat) (fs gs : List Nat) (w : World) (hn : n ≤ 4096) (hz : FlAt w A n fs) (hgl : gs.length = n) (hgv : ∀ i, i < n → gs.getD i 0 = norm (fs.getD i 0)) (hv : ∀ i, i < n → fs.getD i 0 < 4294967296) :
    Calls Tryz.prog 146 #[.slice A n c, .func (.func 147) #[] #[]] w fun e w' => ∃ v, e = .returned v ∧ Own4 w' w.heap.size v gs ∧ Below w.heap.size w w' := by
  obtain ⟨i0, hi, hz0, hz1, hz2⟩ := info_parts info4
  have HZ := Lib.hid hz
  have HV := Lib.hid hv
  have HGL := Lib.hid hgl
  have HGV := Lib.hid hgv
  clear hz hv hgl hgv
  go_enter Tryz.func146, Tryz.ntmps146
  go_wp2_with (at_make; refine wpList_make_own _ rfl _ _ 228 rfl w.heap.size 230 i0 (.agg #[.int .u8 0, .int .u8 0, .int .u8 0, .int .u8 0]) 4 Tryz.underlying228 hi hz0 hz1 _ _ _ n rfl rfl rfl (by rw [hz2]; omega) (by unfold maxLen; omega) (by simp) ?_; intro w1 hown hg1)
  have hO : Own4 w1 w.heap.size (.slice (some ⟨w.heap.size, 0, none⟩) 0 n) (gs.take 0) := hown
  have hB1 : Below w.heap.size w w1 := Below.grown (Below.refl _ _) hg1 (Nat.le_refl _) (fun k hk => by cases hk)
  clear hown hg1
  go_loopw [5, 7, 13] (fun v _ i wr => ∃ k : Nat, k ≤ n ∧ i = .int .i64 k ∧ Own4 wr w.heap.size v (gs.take k) ∧ Below w.heap.size w wr) (fun _ _ i _ => n - (intOf i).toNat)
  case atStart => exact ⟨0, Nat.zero_le _, rfl, hO, hB1⟩
  case round =>
    clear hO hB1
    obtain ⟨k, hk, rfl, hown, hb⟩ := hrel
    have HB := Lib.hid hb
    have HO := Lib.hid hown
    by_cases hlt : k < n
    · obtain ⟨b, off, rfl, hcc⟩ := (HZ.out.keep hb).2 (by omega)
      have HT := Lib.hid (flat4_snoc gs k (by rw [HGL.out]; exact hlt))
      have hvk := HV.out k hlt
      have hgk := HGV.out k hlt
      obtain ⟨x, hx⟩ : ∃ x, x = fs.getD k 0 := ⟨_, rfl⟩
      have h0 := hcc k hlt
      rw [← hx] at h0 hvk hgk
      obtain ⟨nx, hnx⟩ : ∃ nx, nx = norm x := ⟨_, rfl⟩
      rw [hgk, ← hnx] at HT
      clear hgk
      have HVK := Lib.hid hvk
      clear hcc hx hb hown hvk
      go_wp2_with fail
      refine (bytesOf_any x _ HVK.out).mono ?_
      rw [← hnx]
      clear hnx
      rintro e w2 ⟨rfl, hb2⟩
      have hO3 : w2.ownsRow w.heap.size 230 4 u5 k ((flat4 (gs.take k)).map (Value.int .u8)) := by
        have := World.ownsRow.kept HO.out (row := none) ⟨hb2.os, hb2.tape, hb2.output, hb2.size, fun k hk _ => hb2.block k hk⟩ (Classical.em _)
        rwa [List.length_take, HGL.out, Nat.min_eq_left hk] at this
      have sz2 := hb2.size
      have sz3 := HB.out.size
      have HB2 : Hid (Below w.heap.size w w2) := HB.out.trans (hb2.mono HB.out.size)
      clear hb2
      obtain ⟨y0, hy0⟩ : ∃ y0 : Int, y0 = (nx : Int) / 16777216 := ⟨_, rfl⟩
      obtain ⟨y1, hy1⟩ : ∃ y1 : Int, y1 = (nx : Int) / 65536 % 256 := ⟨_, rfl⟩
      obtain ⟨y2, hy2⟩ : ∃ y2 : Int, y2 = (nx : Int) / 256 % 256 := ⟨_, rfl⟩
      obtain ⟨y3, hy3⟩ : ∃ y3 : Int, y3 = (nx : Int) % 256 := ⟨_, rfl⟩
      have HB4 : Hid (b4 (nx : Int) = [y0, y1, y2, y3]) := by show _ = _; rw [hy0, hy1, hy2, hy3]; rfl
      rw [← hy0, ← hy1, ← hy2, ← hy3]
      clear hy0 hy1 hy2 hy3
      go_wp2_with (at_builtin; refine wpList_append_own _ rfl _ _ 228 rfl w.heap.size 230 i0 (.agg #[.int .u8 0, .int .u8 0, .int .u8 0, .int .u8 0]) 4 4 Tryz.underlying228 hi hz0 hz1 hz2 rfl (by decide) _ _ _ rfl (World.ownsRow.alloc hO3 _) ⟨w2.heap.size, 0, none⟩ 1 1 [.int .u8 y0, .int .u8 y1, .int .u8 y2, .int .u8 y3] rfl rfl (cells_four_new _ _ _ _ _ _) (by simp [Value.oneCell']) (by unfold maxLen; omega) (by omega) (by simp; omega) ?_; intro v' w3 hown' hgrow _)
      have R : Own4 w3 w.heap.size v' (gs.take (k + 1)) := by
        unfold Own4
        rw [HT.out, HB4.out, List.length_take, HGL.out, Nat.min_eq_left (by omega), List.map_append]
        exact hown'
      have B3 : Below w.heap.size w w3 := Below.grown (HB2.out.alloc HB2.out.size _) hgrow (by simp; omega) (fun j hj => (hO3.lt j hj).1)
      clear hown' hgrow hO3
      go_wp2
      go_roundw
      case rel => exact ⟨k + 1, by omega, by go_num, R, B3⟩
      case measure => simp [intOf]; omega
    · clear hb hown
      go_wp2
      go_ret
      refine ⟨_, rfl, ?_, HB.out⟩
      have := HO.out
      rwa [List.take_of_length_le (by rw [HGL.out]; omega)] at this
set_option maxHeartbeats 4000000 in
set_option maxRecDepth 100000 in
theorem Pack_good (A : Option Addr) (n c : Nat) (os fs : List Nat) (w : World) (hn : n ≤ 4096) (hz : FlAt w A n os) (hE : checkSamplesE os = 0) (hgl : fs.length = n) (hgv : ∀ i, i < n → fs.getD i 0 = norm (os.getD i 0)) (hv : ∀ i, i < n → os.getD i 0 < 4294967296) (hb : ∀ b ∈ fs, b < 4294967296) :
    Calls Tryz.prog 86 #[.slice A n c] w fun e w' => ∃ v, e = .returned (.tuple #[v, .int .i64 0]) ∧ OwnB w' w.heap.size v (packL fs) ∧ Below w.heap.size w w' := by
  obtain ⟨i0, hi, hz0, hz1, hz2⟩ := info_parts infoB
  have HZ := Lib.hid hz
  have HE := Lib.hid hE
  have HGV := Lib.hid hgv
  have HV := Lib.hid hv
  have HBB := Lib.hid hb
  have hlen := Lib.hid hgl
  clear hz hE hgl hgv hv hb
  go_enter Tryz.func86, Tryz.ntmps86
  go_wp2_with fail
  refine (checkSamples_any A n c os w (by omega) HZ.out).mono ?_
  rw [HE.out]
  rintro e w1 ⟨rfl, hb⟩
  have HB1 := Lib.hid hb
  have HZ1 := Lib.hid (HZ.out.keep hb)
  have sz1 := hb.size
  clear hb
  have kc := fun (w : World) (C : Array Value) (n c : Nat) => Lib.run_convert_bytes_const (P := Tryz.prog) w 106 5 C n c Tryz.underlying106 Tryz.underlying5
  have hmk := fun o => marked_cells w1 5 #[.int .u8 83, .int .u8 78, .int .u8 68, .int .u8 49] (4, 5) o [.int .u8 83, .int .u8 78, .int .u8 68, .int .u8 49] rfl
  have HMK := Lib.hid hmk
  clear hmk
  have hnn : ((n : Int) / 256) ≤ 16 := by omega
  go_wp2_with (at_builtin; refine wpList_append_arg _ rfl _ _ 106 rfl 5 i0 (.int .u8 0) 1 1 Tryz.underlying106 hi hz0 hz1 hz2 rfl (by decide) w1.heap.size 0 4 4 [.int .u8 83, .int .u8 78, .int .u8 68, .int .u8 49] rfl rfl (HMK.out _) ⟨w1.heap.size + 1, 0, none⟩ 2 2 [.int .u8 ((n : Int) / 256), .int .u8 ((n : Int) % 256)] rfl rfl (by have := cells_two_new (w1.alloc (.cells #[.int .u8 83, .int .u8 78, .int .u8 68, .int .u8 49] 5 (4, 5))) 5 (.int .u8 ((n : Int) / 256)) (.int .u8 ((n : Int) % 256)); rw [World.size_alloc] at this; exact this) (by simp [Value.oneCell']) (fun h => by omega) (by unfold maxLen; omega) (by omega) (fun h => by omega) ?_; intro _ v2 w2 hown2 hgrow2)
  have HO2 : Hid (OwnB w2 w.heap.size v2 (packHead fs 0)) := by
    show w2.ownsRow _ _ _ _ _ _
    have := ownsRow_mono hown2 (base' := w.heap.size) (by simp; omega)
    rw [packHead_zero, hlen.out]
    exact this
  have HB2 : Hid (Below w.heap.size w w2) := Below.grown ((HB1.out.alloc HB1.out.size _).alloc (by have := HB1.out.size; simp; omega) _) hgrow2 (by simp; omega) (fun k hk => by cases hk)
  have HZ2 := Lib.hid (HZ.out.keep HB2.out)
  clear hown2 hgrow2 HZ1 HB1 sz1 kc HMK
  refine (mapped_bytes_any A n c os fs w2 hn HZ2.out hlen.out HGV.out HV.out).mono ?_
  rintro e w3 ⟨v3, rfl, hO4, hb3⟩
  have HO3 := Lib.hid (HO2.out.below hb3)
  have HB3 : Hid (Below w.heap.size w w3) := HB2.out.trans (hb3.mono HB2.out.size)
  have hO5 : Own4 w3 w.heap.size v3 fs := ownsRow_mono hO4 HB2.out.size
  have HO5 := Lib.hid hO5
  obtain ⟨A3, c3, rfl, _⟩ := hO4.form
  clear hO4 hO5 hb3 HO2 HB2 HZ2
  rw [hlen.out] at HO5 ⊢
  go_wp2_with fail
  go_loopw [5, 7, 28] (fun v _ i wr => ∃ k : Nat, k ≤ n ∧ i = .int .i64 k ∧ OwnB wr w.heap.size v (packHead fs k) ∧ Own4 wr w.heap.size (.slice A3 n c3) fs ∧ Below w.heap.size w wr) (fun _ _ i _ => n - (intOf i).toNat)
  case atStart => exact ⟨0, Nat.zero_le _, rfl, HO3.out, HO5.out, HB3.out⟩
  case round =>
    clear HO3 HO5 HB3
    obtain ⟨k, hk, rfl, ho, h4, hb⟩ := hrel
    have HO := Lib.hid ho
    have H4 := Lib.hid h4
    have HB := Lib.hid hb
    clear ho hb
    by_cases hlt : k < n
    · obtain ⟨A', c', heq, hr⟩ := h4.form
      simp only [Value.slice.injEq] at heq
      obtain ⟨rfl, hnl, rfl⟩ := heq
      clear hnl
      obtain ⟨g, rfl, hgl, hcc⟩ := hr (by rw [hlen.out]; omega)
      have hck := hcc k (by rw [hlen.out]; exact hlt)
      have HS := Lib.hid (packHead_snoc fs k (by rw [hlen.out]; exact hlt))
      obtain ⟨y0, y1, y2, y3, hy⟩ : ∃ y0 y1 y2 y3, b4 (fs.getD k 0 : Nat) = [y0, y1, y2, y3] := ⟨_, _, _, _, rfl⟩
      rw [hy] at hck HS
      have c0 := hck 0 (by omega)
      have c1 := hck 1 (by omega)
      have c2 := hck 2 (by omega)
      have c3' := hck 3 (by omega)
      simp only [List.getD_cons_zero, List.getD_cons_succ, Nat.add_zero] at c0 c1 c2 c3'
      have hpl := packHead_len fs k (by rw [hlen.out]; exact hk)
      have hb' := HB.out.size
      have hown0 : wr.ownsRow w.heap.size 5 1 u5 (6 + k * 4) ((packHead fs k).map (Value.int .u8)) := by have := HO.out; unfold OwnB at this; rwa [hpl] at this
      have HN := Lib.hid (own_ne H4.out HO.out (by decide))
      clear hck hy h4 hr hcc hpl
      go_wp2_with (at_builtin; refine wpList_append_own _ rfl _ _ 106 rfl w.heap.size 5 i0 (.int .u8 0) 1 1 Tryz.underlying106 hi hz0 hz1 hz2 rfl (by decide) _ _ _ rfl (World.ownsRow.alloc hown0 _) ⟨wr.heap.size, 0, none⟩ 4 4 [.int .u8 y0, .int .u8 y1, .int .u8 y2, .int .u8 y3] rfl rfl (cells_four_new _ _ _ _ _ _) (by simp [Value.oneCell']) (by unfold maxLen; omega) (by omega) (by simp; omega) ?_; intro v' w4 hown' hgrow _)
      have R : OwnB w4 w.heap.size v' (packHead fs (k + 1)) := by
        unfold OwnB
        rw [HS.out, List.length_append, packHead_len fs k (by rw [hlen.out]; exact hk), List.map_append]
        exact hown'
      have R4 : Own4 w4 w.heap.size (.slice (some ⟨g, 0, none⟩) n c3) fs := World.ownsRow.kept (World.ownsRow.alloc H4.out _) hgrow HN.out
      have B3 : Below w.heap.size w w4 := Below.grown (HB.out.alloc HB.out.size _) hgrow (by simp; omega) (fun j hj => (hown0.lt j hj).1)
      clear hown' hgrow hown0 HN
      go_wp2
      go_roundw
      case rel => first | exact ⟨k + 1, by omega, by go_num, R, R4, B3⟩ | ((repeat apply Exists.intro); exact ⟨⟨k + 1, by omega, by go_num, R, R4, B3⟩, rfl⟩)
      case measure => simp [intOf]; omega
    · obtain rfl : k = n := by omega
      clear h4
      have hpl := packHead_len fs k (by rw [hlen.out]; exact Nat.le_refl _)
      have hall : AllB (packHead fs k) := by rw [← hlen.out]; exact packHead_all fs HBB.out (by rw [hlen.out]; exact hn)
      rcases HO.out.form with ⟨_, h0⟩ | ⟨g, cap, rfl, hg0, hgl, hcap, hcc, _⟩
      · rw [h0] at hpl; simp at hpl; omega
      have HBA := Lib.hid (HO.out.at_ hall)
      rw [hpl] at HBA
      have HPL := Lib.hid hpl
      clear hcc hall hpl hcap
      rw [HPL.out] at HO ⊢
      have hk8 : Hid (Key8 0 0 0 0 0 0 0 0) := by
        show Key8 0 0 0 0 0 0 0 0
        intro i hi
        match i, hi with
        | 0, _ => exact ⟨by decide, by decide⟩
        | 1, _ => exact ⟨by decide, by decide⟩
        | 2, _ => exact ⟨by decide, by decide⟩
        | 3, _ => exact ⟨by decide, by decide⟩
        | 4, _ => exact ⟨by decide, by decide⟩
        | 5, _ => exact ⟨by decide, by decide⟩
        | 6, _ => exact ⟨by decide, by decide⟩
        | 7, _ => exact ⟨by decide, by decide⟩
      go_wp2_with fail
      refine (seal_any 0 0 0 0 0 0 0 0 (some ⟨g, 0, none⟩) (6 + k * 4) cap (packHead fs k) _ (by omega) hk8.out HBA.out).mono ?_
      rintro e w5 ⟨rfl, hb5⟩
      have H5 := Lib.hid (HO.out.below hb5)
      have HB5 : Hid (Below w.heap.size w w5) := HB.out.trans (hb5.mono HB.out.size)
      clear hb5
      have sz5 := HB5.out.size
      have hown0 : w5.ownsRow w.heap.size 5 1 (.slice (some ⟨g, 0, none⟩) (6 + k * 4) cap) (6 + k * 4) ((packHead fs k).map (Value.int .u8)) := by have := H5.out; unfold OwnB at this; rwa [HPL.out] at this
      obtain ⟨z0, z1, z2, z3, z4, z5, z6, z7, hz⟩ := eightJ (sealL [0, 0, 0, 0, 0, 0, 0, 0] (packHead fs k)) (sealL_len _ _)
      have hz' : [sealAt 0 0 (packHead fs k), sealAt 1 0 (packHead fs k), sealAt 2 0 (packHead fs k), sealAt 3 0 (packHead fs k), sealAt 4 0 (packHead fs k), sealAt 5 0 (packHead fs k), sealAt 6 0 (packHead fs k), sealAt 7 0 (packHead fs k)] = [z0, z1, z2, z3, z4, z5, z6, z7] := hz
      simp only [List.cons.injEq, and_true] at hz'
      obtain ⟨q0, q1, q2, q3, q4, q5, q6, q7⟩ := hz'
      rw [q0, q1, q2, q3, q4, q5, q6, q7]
      have HZ8 := Lib.hid hz
      clear q0 q1 q2 q3 q4 q5 q6 q7 hz
      go_wp2_with (at_builtin; refine wpList_append_own _ rfl _ _ 106 rfl w.heap.size 5 i0 (.int .u8 0) 1 1 Tryz.underlying106 hi hz0 hz1 hz2 rfl (by decide) _ _ _ rfl (World.ownsRow.alloc hown0 _) ⟨w5.heap.size, 0, none⟩ 8 8 [.int .u8 z0, .int .u8 z1, .int .u8 z2, .int .u8 z3, .int .u8 z4, .int .u8 z5, .int .u8 z6, .int .u8 z7] rfl rfl (cells_eight_new _ _ _) (by simp [Value.oneCell']) (by unfold maxLen; omega) (by omega) (by simp; omega) ?_; intro v' w6 hown' hgrow _)
      have R : OwnB w6 w.heap.size v' (packL fs) := by
        unfold OwnB packL
        rw [hlen.out, HZ8.out, List.length_append, HPL.out, List.map_append]
        exact hown'
      have B6 : Below w.heap.size w w6 := Below.grown (HB5.out.alloc HB5.out.size _) hgrow (by simp; omega) (fun j hj => (hown0.lt j hj).1)
      clear hown' hgrow hown0
      go_wp2
      go_ret2
      exact ⟨_, rfl, R, B6⟩

set_option maxRecDepth 100000 in
theorem Pack_bad (A : Option Addr) (n c : Nat) (os : List Nat) (E : Int) (w : World) (hn : n ≤ 100000) (hz : FlAt w A n os) (hE : checkSamplesE os = E) (h0 : E ≠ 0) :
    Calls Tryz.prog 86 #[.slice A n c] w fun e w' => e = .returned (.tuple #[.slice none 0 0, .int .i64 E]) ∧ Below w.heap.size w w' := by
  have HZ := Lib.hid hz
  have HE := Lib.hid hE
  have h1 : (E != 0) = true := by simp [h0]
  clear hz hE h0
  go_enter Tryz.func86, Tryz.ntmps86
  go_wp2_with fail
  refine (checkSamples_any A n c os w (by omega) HZ.out).mono ?_
  rw [HE.out]
  rintro e w1 ⟨rfl, hb⟩
  have HB1 := Lib.hid hb
  clear hb
  go_wp2
  go_ret2
  exact ⟨rfl, HB1.out⟩
end Go.Proofs.YtoipafnlcchmbaaGreatDoor
namespace Go.Proofs.YtoipafnlcchmbaaGreatDoor
open Go.RowKit

def z8 : List Int := [0, 0, 0, 0, 0, 0, 0, 0]
def magicL : List Int := [83, 78, 68, 49]
/-- The first error of a stream before those of its samples. -/
def streamE (zs : List Int) : Int :=
  if 400000 < zs.length then 26 else if zs.length < 14 then 28 else if zs.take 4 ≠ magicL then 1
  else if (zs.length : Int) ≠ 14 + 4 * (zs.getD 4 0 * 256 + zs.getD 5 0) then 2
  else if zs.drop (zs.length - 8) ≠ sealL z8 (zs.take (zs.length - 8)) then 27 else 0

theorem checkStream_long (A : Option Addr) (n c : Nat) (w : World) (h : 400000 < n) :
    Calls Tryz.prog 148 #[.slice A n c] w fun e w' => e = .returned (.int .i64 26) ∧ w = w' := by
  have h1 : decide ((400000 : Int) < (n : Int)) = true := by simp; omega
  go_enter Tryz.func148, Tryz.ntmps148
  go_wp2
  go_ret
  exact ⟨rfl, rfl⟩
theorem checkStream_torn (A : Option Addr) (n c : Nat) (w : World) (h : n < 14) :
    Calls Tryz.prog 148 #[.slice A n c] w fun e w' => e = .returned (.int .i64 28) ∧ w = w' := by
  have h1 : decide ((400000 : Int) < (n : Int)) = false := by simp; omega
  have h2 : decide ((n : Int) < 14) = true := by simp; omega
  go_enter Tryz.func148, Tryz.ntmps148
  go_wp2
  go_ret
  exact ⟨rfl, rfl⟩

theorem slice_fromO (g off N c T : Nat) (h0 : 0 < T) (h : T ≤ N) (hlt : T < c) (w : World) : (Instr.slice 106 (.slice (some ⟨g, off, none⟩) N c) (some (.int .i64 (T : Int))) none none).run Tryz.prog w = .ok (.slice (some ⟨g, off + T, none⟩) (N - T) (c - T)) w := by
  rw [run_slice_l w _ _ _ _ bytes_under .i64 _ (by omega) (by omega), bytes_elem, byte_size]
  have hne : c ≠ T := by omega
  have h1 : T ≠ 0 := by omega
  simp [Result.andThen, sliced, Addr.add, hne]
  omega
theorem slice_toO (g off N c T : Nat) (h : T ≤ c) (hlt : 0 < c) (w : World) : (Instr.slice 106 (.slice (some ⟨g, off, none⟩) N c) none (some (.int .i64 (T : Int))) none).run Tryz.prog w = .ok (.slice (some ⟨g, off, none⟩) T c) w := by
  rw [run_slice_h w _ _ _ _ bytes_under .i64 _ (by omega) (by omega), bytes_elem, byte_size]
  have hne : c ≠ 0 := by omega
  simp [Result.andThen, sliced, Addr.add, hne]
/-- The first four bytes, as a string. -/
theorem first_four {zs : List Int} {w : World} {g off N : Nat} (hl : zs.length = N) (h14 : 14 ≤ N) (hc : ∀ i, i < N → w.cell? ⟨g, off + i, none⟩ = some (.int .u8 (zs.getD i 0))) (cap : Nat) :
    (convert 106 9 (.slice (some ⟨g, off, none⟩) 4 cap)).run Tryz.prog w = .ok (.string (strOfNums (zs.take 4))) w :=
  run_convert_bytes_arg w 106 5 Tryz.underlying106 Tryz.underlying5 g off 4 cap (zs.take 4) (by rw [List.length_take, hl]; omega) (fun i hi => by
    rw [hc i (by omega), List.getD_eq_getElem?_getD, List.getD_eq_getElem?_getD, List.getElem?_take_of_lt hi]) 9 Tryz.underlying9
theorem byte_inj {a b : Int} (ha : 0 ≤ a ∧ a ≤ 255) (hb : 0 ≤ b ∧ b ≤ 255) (h : UInt8.ofNat a.toNat = UInt8.ofNat b.toNat) : a = b := by
  have := congrArg UInt8.toNat h
  simp only [UInt8.toNat_ofNat'] at this
  omega
theorem strOf_inj {xs ys : List Int} (hx : AllB xs) (hy : AllB ys) (h : (strOfNums xs).data.toList = (strOfNums ys).data.toList) : xs = ys := by
  rw [strOfNums_data, strOfNums_data] at h
  have hl : xs.length = ys.length := by have := congrArg List.length h; simpa using this
  apply List.ext_getElem hl
  intro i hi hj
  have h1 := congrArg (fun l => l[i]?) h
  simp only [List.getElem?_map, List.getElem?_eq_getElem hi, List.getElem?_eq_getElem hj, Option.map_some, Option.some.injEq] at h1
  have ax := hx i hi
  have ay := hy i hj
  rw [List.getD_eq_getElem?_getD, List.getElem?_eq_getElem hi] at ax
  rw [List.getD_eq_getElem?_getD, List.getElem?_eq_getElem hj] at ay
  exact byte_inj ax ay h1
theorem AllB.take {zs : List Int} (h : AllB zs) (k : Nat) : AllB (zs.take k) := by
  intro i hi
  rw [List.length_take] at hi
  rw [List.getD_eq_getElem?_getD, List.getElem?_take_of_lt (by omega), ← List.getD_eq_getElem?_getD]
  exact h i (by omega)
theorem AllB.drop {zs : List Int} (h : AllB zs) (k : Nat) : AllB (zs.drop k) := by
  intro i hi
  rw [List.length_drop] at hi
  rw [List.getD_eq_getElem?_getD, List.getElem?_drop, ← List.getD_eq_getElem?_getD]
  exact h (k + i) (by omega)
theorem magic_all : AllB magicL := by
  intro i hi
  match i, hi with
  | 0, _ => exact ⟨by decide, by decide⟩
  | 1, _ => exact ⟨by decide, by decide⟩
  | 2, _ => exact ⟨by decide, by decide⟩
  | 3, _ => exact ⟨by decide, by decide⟩
theorem magic_str (zs : List Int) (h : AllB zs) : ((strOfNums (zs.take 4)).data.toList == [83, 78, 68, 49]) = decide (zs.take 4 = magicL) := by
  have e : ([83, 78, 68, 49] : List UInt8) = (strOfNums magicL).data.toList := rfl
  rw [e, Bool.eq_iff_iff]
  simp only [beq_iff_eq, decide_eq_true_eq]
  exact ⟨fun h' => strOf_inj (h.take 4) magic_all h', fun h' => by rw [h']⟩
theorem bytes_all {w : World} {A : Option Addr} {n : Nat} {zs : List Int} (h : BytesAt w A n zs) : AllB zs := fun i hi => h.2.1 i (by rw [← h.1]; exact hi)

set_option maxHeartbeats 1000000 in
set_option maxRecDepth 100000 in
theorem toList_of {S : ByteArray} {l : List UInt8} {b : Bool} (h : (S.data.toList == l) = b) : (S.toList == l) = b := by
  rw [ByteArray.toList_eq]; exact h
theorem tail8L {W : World} {g T : Nat} {t0 t1 t2 t3 t4 t5 t6 t7 : Int} (h : ∀ i, i < 8 → W.cell? ⟨g, T + i, none⟩ = some (.int .u8 ([t0, t1, t2, t3, t4, t5, t6, t7].getD i 0))) : W.cell? ⟨g, T, none⟩ = some (.int .u8 t0) ∧ W.cell? ⟨g, T + 1, none⟩ = some (.int .u8 t1) ∧ W.cell? ⟨g, T + 2, none⟩ = some (.int .u8 t2) ∧ W.cell? ⟨g, T + 3, none⟩ = some (.int .u8 t3) ∧ W.cell? ⟨g, T + 4, none⟩ = some (.int .u8 t4) ∧ W.cell? ⟨g, T + 5, none⟩ = some (.int .u8 t5) ∧ W.cell? ⟨g, T + 6, none⟩ = some (.int .u8 t6) ∧ W.cell? ⟨g, T + 7, none⟩ = some (.int .u8 t7) :=
  tail8 h
theorem checkStream_form (g off N c : Nat) (zs : List Int) (w : World) (hl : zs.length = N) (hb : AllB zs) (h14 : 14 ≤ N) (hm : N ≤ 400000) (hcap : N ≤ c) (hc : ∀ i, i < N → w.cell? ⟨g, off + i, none⟩ = some (.int .u8 (zs.getD i 0))) (hx : zs.take 4 ≠ magicL) :
    Calls Tryz.prog 148 #[.slice (some ⟨g, off, none⟩) N c] w fun e w' => e = .returned (.int .i64 1) ∧ w = w' := by
  have h1 : decide ((400000 : Int) < (N : Int)) = false := by simp; omega
  have h2 : decide ((N : Int) < 14) = false := by simp; omega
  have k1 := fun cap => first_four (w := w) hl h14 hc cap
  obtain ⟨S, hS⟩ : ∃ S, S = strOfNums (zs.take 4) := ⟨_, rfl⟩
  have h3 := magic_str zs hb
  rw [decide_eq_false hx, ← hS] at h3
  rw [← hS] at k1
  have h4 : (!(S.toList == [83, 78, 68, 49])) = true := by rw [toList_of h3]; rfl
  clear hS hx hc hb hl
  go_enter Tryz.func148, Tryz.ntmps148
  go_wp2
  go_ret
  exact ⟨rfl, rfl⟩

set_option maxHeartbeats 1000000 in
set_option maxRecDepth 100000 in
theorem checkStream_shape (g off N c : Nat) (zs : List Int) (w : World) (hl : zs.length = N) (hb : AllB zs) (h14 : 14 ≤ N) (hm : N ≤ 400000) (hcap : N ≤ c) (hc : ∀ i, i < N → w.cell? ⟨g, off + i, none⟩ = some (.int .u8 (zs.getD i 0))) (hx : zs.take 4 = magicL) (hs : (N : Int) ≠ 14 + 4 * (zs.getD 4 0 * 256 + zs.getD 5 0)) :
    Calls Tryz.prog 148 #[.slice (some ⟨g, off, none⟩) N c] w fun e w' => e = .returned (.int .i64 2) ∧ Below w.heap.size w w' := by
  have h1 : decide ((400000 : Int) < (N : Int)) = false := by simp; omega
  have h2 : decide ((N : Int) < 14) = false := by simp; omega
  have k1 := fun cap => first_four (w := w) hl h14 hc cap
  rw [hx] at k1
  have es : strOfNums magicL = ⟨#[83, 78, 68, 49]⟩ := rfl
  rw [es] at k1
  have c4 := hc 4 (by omega)
  have c5 := hc 5 (by omega)
  obtain ⟨b40, b41⟩ := hb 4 (by omega)
  obtain ⟨b50, b51⟩ := hb 5 (by omega)
  obtain ⟨y4, hy4⟩ : ∃ y, y = zs.getD 4 0 := ⟨_, rfl⟩
  obtain ⟨y5, hy5⟩ : ∃ y, y = zs.getD 5 0 := ⟨_, rfl⟩
  rw [← hy4] at c4 b40 b41 hs
  rw [← hy5] at c5 b50 b51 hs
  have HS := Lib.hid hs
  clear es hy4 hy5 hx hc hb hl hs
  go_enter Tryz.func148, Tryz.ntmps148
  go_upto_region 7 with fail
  go_region
  all_goals (
    have hd3 : ((N : Int) != 6 + 4 * (y4 * 256 + y5) + 8) = true := by have := HS.out; simp; omega
    go_wp2
    go_ret
    exact ⟨rfl, (Below.refl _ w).drew⟩)

set_option maxHeartbeats 4000000 in
set_option maxRecDepth 100000 in
theorem checkStream_seal (g off c G T N : Nat) (zs : List Int) (w : World) (hl : zs.length = N) (hb : AllB zs) (h14 : 14 ≤ N) (hm : N ≤ 400000) (hcap : N ≤ c) (hz : BytesAt w (some ⟨g, off, none⟩) N zs) (hx : zs.take 4 = magicL) (hs : (N : Int) = 14 + 4 * (zs.getD 4 0 * 256 + zs.getD 5 0)) (hT : N = T + 8) (hG : G = off + T) :
    Calls Tryz.prog 148 #[.slice (some ⟨g, off, none⟩) N c] w fun e w' => e = .returned (.int .i64 (if zs.drop T = sealL z8 (zs.take T) then 0 else 27)) ∧ Below w.heap.size w w' := by
  have hc : ∀ i, i < N → w.cell? ⟨g, off + i, none⟩ = some (.int .u8 (zs.getD i 0)) := by
    obtain ⟨b, o, he, hcc⟩ := hz.2.2 (by omega)
    simp only [Option.some.injEq, Addr.mk.injEq, and_true] at he
    obtain ⟨rfl, rfl⟩ := he
    exact hcc
  have h1 : decide ((400000 : Int) < (N : Int)) = false := by simp; omega
  have h2 : decide ((N : Int) < 14) = false := by simp; omega
  have k1 := fun cap => first_four (w := w) hl h14 hc cap
  rw [hx] at k1
  have es : strOfNums magicL = ⟨#[83, 78, 68, 49]⟩ := rfl
  rw [es] at k1
  have c4 := hc 4 (by omega)
  have c5 := hc 5 (by omega)
  obtain ⟨b40, b41⟩ := hb 4 (by omega)
  obtain ⟨b50, b51⟩ := hb 5 (by omega)
  obtain ⟨y4, hy4⟩ : ∃ y, y = zs.getD 4 0 := ⟨_, rfl⟩
  obtain ⟨y5, hy5⟩ : ∃ y, y = zs.getD 5 0 := ⟨_, rfl⟩
  rw [← hy4] at c4 b40 b41 hs
  rw [← hy5] at c5 b50 b51 hs
  have HS := Lib.hid hs
  have HC := Lib.hid hc
  have HN := Lib.hid hT
  have HG := Lib.hid hG
  have hT2 : T ≤ N := by omega
  have hT3 : T ≤ 400000 := by omega
  obtain ⟨H, hH⟩ : ∃ H, H = zs.take T := ⟨_, rfl⟩
  have HL : Hid (H.length = T) := by show _ = _; rw [hH, List.length_take]; omega
  have HBA : Hid (BytesAt w.drew.drew (some ⟨g, off, none⟩) T H) := by
    refine ⟨HL.out, fun i hi => ?_, fun _ => ⟨g, off, rfl, fun i hi => ?_⟩⟩
    · rw [hH]; exact hb.take T i (by rw [← hH, HL.out]; exact hi)
    · have := HC.out i (by omega)
      rw [hH, List.getD_eq_getElem?_getD, List.getElem?_take_of_lt hi, ← List.getD_eq_getElem?_getD]
      exact this
  obtain ⟨t0, t1, t2, t3, t4, t5, t6, t7, ht⟩ := eightJ (zs.drop T) (by rw [List.length_drop]; omega)
  have HTL : Hid (∀ i, i < 8 → w.cell? ⟨g, G + i, none⟩ = some (.int .u8 ([t0, t1, t2, t3, t4, t5, t6, t7].getD i 0))) := by
    intro i hi
    rw [← ht, hG, Nat.add_assoc, HC.out (T + i) (by omega), List.getD_eq_getElem?_getD, List.getD_eq_getElem?_getD, List.getElem?_drop]
  rw [ht, ← hH]
  obtain ⟨β, hβ⟩ : ∃ β : Bool, β = eqB (List.range 8) (fun i => [t0, t1, t2, t3, t4, t5, t6, t7].getD i 0) (fun i => (sealL z8 H).getD i 0) := ⟨_, rfl⟩
  have HR : Hid ((if [t0, t1, t2, t3, t4, t5, t6, t7] = sealL z8 H then (0 : Int) else 27) = if β then 0 else 27) := by
    show _ = _
    have := eqB_iff 8 [t0, t1, t2, t3, t4, t5, t6, t7] (sealL z8 H) rfl (sealL_len _ _)
    rw [← hβ] at this
    by_cases h : [t0, t1, t2, t3, t4, t5, t6, t7] = sealL z8 H
    · rw [if_pos h, if_pos (this.2 h)]
    · rw [if_neg h, if_neg (fun h' => h (this.1 h'))]
  rw [HR.out]
  have hnq : ∀ w', (binOp .neq 94 (.agg #[.int .u8 t0, .int .u8 t1, .int .u8 t2, .int .u8 t3, .int .u8 t4, .int .u8 t5, .int .u8 t6, .int .u8 t7]) (.agg #[.int .u8 (sealAt 0 0 H), .int .u8 (sealAt 1 0 H), .int .u8 (sealAt 2 0 H), .int .u8 (sealAt 3 0 H), .int .u8 (sealAt 4 0 H), .int .u8 (sealAt 5 0 H), .int .u8 (sealAt 6 0 H), .int .u8 (sealAt 7 0 H)])).run Tryz.prog w' = .ok (.bool (!β)) w' := by
    intro w'
    have h := run_neq_key w' [t0, t1, t2, t3, t4, t5, t6, t7] [sealAt 0 0 H, sealAt 1 0 H, sealAt 2 0 H, sealAt 3 0 H, sealAt 4 0 H, sealAt 5 0 H, sealAt 6 0 H, sealAt 7 0 H] rfl rfl
    rw [show eqB (List.range 8) (fun i => [t0, t1, t2, t3, t4, t5, t6, t7].getD i 0) (fun i => [sealAt 0 0 H, sealAt 1 0 H, sealAt 2 0 H, sealAt 3 0 H, sealAt 4 0 H, sealAt 5 0 H, sealAt 6 0 H, sealAt 7 0 H].getD i 0) = β from hβ.symm] at h
    exact h
  clear es hy4 hy5 hx hc hb hl hs hH ht hβ hz hT hG
  go_enter Tryz.func148, Tryz.ntmps148
  go_upto_region 7 with fail
  go_region
  have hd3 : ((N : Int) != 6 + 4 * (y4 * 256 + y5) + 8) = false := by have := HS.out; simp; omega
  have hN8 : (N : Int) - 8 = (T : Int) := by have := HN.out; omega
  have hN7 : N - T = 8 := by have := HN.out; omega
  go_upto_region 11 with fail
  have hat : ∀ w' cap, (Instr.arrayAt 94 (.slice (some ⟨g, G, none⟩) 8 cap)).run Tryz.prog w' = .ok (.pointer (some ⟨g, G, none⟩)) w' := fun w' cap => run_arrayAt w' 94 5 8 _ 8 cap Tryz.underlying94 (Nat.le_refl _)
  clear c4 c5 k1
  have hs1 := slice_fromO g off N c T (by have := HN.out; omega) (by omega) (by have := HN.out; omega)
  rw [hN7, ← HG.out] at hs1
  have hs2 := slice_toO g off N c T (by omega) (by omega)
  have HT1 : Hid (∀ i, i < 8 → w.drew.drew.cell? ⟨g, G + i, none⟩ = some (.int .u8 ([t0, t1, t2, t3, t4, t5, t6, t7].getD i 0))) := HTL.out
  go_region_held3 (fun W => W.cell? ⟨g, G, none⟩ = some (.int .u8 t0) ∧ W.cell? ⟨g, G + 1, none⟩ = some (.int .u8 t1) ∧ W.cell? ⟨g, G + 2, none⟩ = some (.int .u8 t2) ∧ W.cell? ⟨g, G + 3, none⟩ = some (.int .u8 t3) ∧ W.cell? ⟨g, G + 4, none⟩ = some (.int .u8 t4) ∧ W.cell? ⟨g, G + 5, none⟩ = some (.int .u8 t5) ∧ W.cell? ⟨g, G + 6, none⟩ = some (.int .u8 t6) ∧ W.cell? ⟨g, G + 7, none⟩ = some (.int .u8 t7))
    (first | with_reducible exact tail8L HT1.out | with_reducible exact tail8L BT.out)
    (first | (go_at_call 138; refine (seal_any 0 0 0 0 0 0 0 0 (some ⟨g, off, none⟩) T c H _ (by omega) key0 HBA.out).mono ?_; rintro e w4 ⟨rfl, hb4⟩; have BT : Hid (∀ i, i < 8 → w4.cell? ⟨g, G + i, none⟩ = some (.int .u8 ([t0, t1, t2, t3, t4, t5, t6, t7].getD i 0))) := (fun i hi => (hb4.cell (p := ⟨g, G + i, none⟩) (World.block_lt_of_cell? _ _ (HT1.out i hi))).trans (HT1.out i hi)); have G4 := Lib.hid hb4; clear hb4))
  all_goals
    have HW : Hid (Below w.heap.size w w4) := (Below.refl w.heap.size w).drew.drew.trans G4.out
    clear G4 BT hnq hat hs1 hs2
    cases β
    · go_wp2
      go_ret
      exact ⟨rfl, HW.out⟩
    · go_wp2
      go_ret
      exact ⟨rfl, HW.out⟩
end Go.Proofs.YtoipafnlcchmbaaGreatDoor
namespace Go.Proofs.YtoipafnlcchmbaaGreatDoor
open Go.RowKit

/-- The word of the sample at an index of a stream. -/
def num4 (zs : List Int) (i : Nat) : Nat := (zs.getD (6 + i * 4) 0 * 16777216 + zs.getD (6 + i * 4 + 1) 0 * 65536 + zs.getD (6 + i * 4 + 2) 0 * 256 + zs.getD (6 + i * 4 + 3) 0).toNat
def numsOf (zs : List Int) : List Nat := (List.range ((zs.length - 14) / 4)).map (num4 zs)
theorem numsOf_len (zs : List Int) : (numsOf zs).length = (zs.length - 14) / 4 := by unfold numsOf; simp
theorem numsOf_at (zs : List Int) (i : Nat) (h : i < (zs.length - 14) / 4) : (numsOf zs).getD i 0 = num4 zs i := by unfold numsOf; simp [List.getD_eq_getElem?_getD, h]
theorem b4_num4 {zs : List Int} (hb : AllB zs) (i : Nat) (h : 6 + i * 4 + 4 ≤ zs.length) : num4 zs i < 4294967296 ∧ ∀ j, j < 4 → (b4 (num4 zs i : Nat)).getD j 0 = zs.getD (6 + i * 4 + j) 0 := by
  obtain ⟨a0, a1⟩ := hb (6 + i * 4) (by omega)
  obtain ⟨b0, b1⟩ := hb (6 + i * 4 + 1) (by omega)
  obtain ⟨c0, c1⟩ := hb (6 + i * 4 + 2) (by omega)
  obtain ⟨d0, d1⟩ := hb (6 + i * 4 + 3) (by omega)
  unfold num4
  refine ⟨by omega, fun j hj => ?_⟩
  match j, hj with
  | 0, _ => show (_ : Int) / 16777216 = zs.getD (6 + i * 4) 0; omega
  | 1, _ => show (_ : Int) / 65536 % 256 = zs.getD (6 + i * 4 + 1) 0; omega
  | 2, _ => show (_ : Int) / 256 % 256 = zs.getD (6 + i * 4 + 2) 0; omega
  | 3, _ => show (_ : Int) % 256 = zs.getD (6 + i * 4 + 3) 0; omega

def nmzE (b : Nat) : Int := if b = 2147483648 then 1 else 0
theorem notMinusZero_any (b : Nat) (w : World) :
    Calls Tryz.prog 153 #[.float .f32 b] w fun e w' => e = .returned (.int .i64 (nmzE b)) ∧ Below w.heap.size w w' := by
  by_cases h : b = 2147483648
  · have he : nmzE b = 1 := by unfold nmzE; rw [if_pos h]
    rw [he]
    have h1 : ((b : Int) == 2147483648) = true := by simp [h]
    clear he h
    go_enter Tryz.func153, Tryz.ntmps153
    go_wp2
    go_ret
    exact ⟨rfl, Below.refl _ _⟩
  · have he : nmzE b = 0 := by unfold nmzE; rw [if_neg h]
    rw [he]
    exact (notMinusZero_of b w (by simp; omega)).mono fun _ _ ⟨h1, h2⟩ => ⟨h1, by rw [← h2]; exact Below.refl _ _⟩

/-- The first error of a stream. -/
def samplesE (fs : List Nat) : Int := firstE [checkSamplesE fs, firstInF nmzE fs]
def unpackE (zs : List Int) : Int := if streamE zs = 0 then samplesE (numsOf zs) else streamE zs
def unpackL (zs : List Int) : List Nat := if unpackE zs = 0 then numsOf zs else []
theorem slice_midO (g off N c M : Nat) (hN : N = 14 + M * 4) (hc : N ≤ c) (w : World) : (Instr.slice 106 (.slice (some ⟨g, off, none⟩) N c) (some (.int .i64 6)) (some (.int .i64 ((6 + M * 4 : Nat) : Int))) none).run Tryz.prog w = .ok (.slice (some ⟨g, off + 6, none⟩) (M * 4) (c - 6)) w := by
  rw [run_slice_lh w _ _ _ _ bytes_under .i64 .i64 _ _ (by omega) (by omega) (by omega), bytes_elem, byte_size]
  have hne : c ≠ 6 := by omega
  have e1 : (6 : Int).toNat = 6 := rfl
  have e2 : ((6 + M * 4 : Nat) : Int).toNat = 6 + M * 4 := by omega
  rw [e2]
  simp [Result.andThen, sliced, Addr.add, hne]

set_option maxRecDepth 100000 in
theorem Unpack_bad (A : Option Addr) (n c : Nat) (E : Int) (w : World) (h0 : E ≠ 0)
    (hcs : Calls Tryz.prog 148 #[.slice A n c] w fun e w' => e = .returned (.int .i64 E) ∧ Below w.heap.size w w') :
    Calls Tryz.prog 87 #[.slice A n c] w fun e w' => ∃ v, e = .returned (.tuple #[v, .int .i64 E]) ∧ OwnF w' w.heap.size v [] ∧ Below w.heap.size w w' := by
  have HCS := Lib.hid hcs
  have h1 : (E != 0) = true := by simp [h0]
  clear hcs h0
  go_enter Tryz.func87, Tryz.ntmps87
  go_wp2_with fail
  refine HCS.out.mono ?_
  rintro e w1 ⟨rfl, hb1⟩
  have HB1 := Lib.hid hb1
  clear hb1
  go_wp2
  go_ret2
  exact ⟨_, rfl, World.ownsRow_nil _ _ _ _, HB1.out⟩

set_option maxHeartbeats 2000000 in
set_option maxRecDepth 100000 in
theorem Unpack_sealed (g off c M N : Nat) (zs : List Int) (w : World) (hl : zs.length = N) (hM : M ≤ 4096) (hN : N = 14 + M * 4) (hc : N ≤ c) (hz : BytesAt w (some ⟨g, off, none⟩) N zs)
    (hcs : Calls Tryz.prog 148 #[.slice (some ⟨g, off, none⟩) N c] w fun e w' => e = .returned (.int .i64 0) ∧ Below w.heap.size w w') :
    Calls Tryz.prog 87 #[.slice (some ⟨g, off, none⟩) N c] w fun e w' => ∃ v, e = .returned (.tuple #[v, .int .i64 (samplesE (numsOf zs))]) ∧ OwnF w' w.heap.size v (if samplesE (numsOf zs) = 0 then numsOf zs else []) ∧ Below w.heap.size w w' := by
  have HN := Lib.hid hN
  have HCS := Lib.hid hcs
  obtain ⟨fs, hfs⟩ : ∃ fs, fs = numsOf zs := ⟨_, rfl⟩
  have HM : Hid (fs.length = M) := by show _ = _; rw [hfs, numsOf_len]; omega
  have hall := bytes_all hz
  have HV : Hid (∀ i, i < M → fs.getD i 0 < 4294967296) := fun i hi => by
    rw [hfs, numsOf_at zs i (by omega)]; exact (b4_num4 hall i (by omega)).1
  have hs := slice_midO g off N c M hN hc
  have hN8 : (N : Int) - 8 = ((6 + M * 4 : Nat) : Int) := by omega
  have hN9 : N ≤ 20000 := by omega
  have hN6 : 6 ≤ N := by omega
  obtain ⟨T, hT⟩ : ∃ T, T = 6 + M * 4 := ⟨_, rfl⟩
  rw [← hT] at hs hN8
  have HT := Lib.hid hT
  have hT3 : T ≤ 20000 := by omega
  have HC : Hid (∀ i, i < M → ∀ j, j < 4 → w.cell? ⟨g, off + 6 + i * 4 + j, none⟩ = some (.int .u8 ((b4 (fs.getD i 0 : Nat)).getD j 0))) := by
    intro i hi j hj
    obtain ⟨b, o, he, hcc⟩ := hz.2.2 (by omega)
    simp only [Option.some.injEq, Addr.mk.injEq, and_true] at he
    obtain ⟨rfl, rfl⟩ := he
    have := hcc (6 + i * 4 + j) (by omega)
    rw [hfs, numsOf_at zs i (by omega), (b4_num4 hall i (by omega)).2 j hj, show off + 6 + i * 4 + j = off + (6 + i * 4 + j) by omega]
    exact this
  have hl2 : g < w.heap.size := by
    obtain ⟨b, o, he, hcc⟩ := hz.2.2 (by omega)
    simp only [Option.some.injEq, Addr.mk.injEq, and_true] at he
    obtain ⟨rfl, rfl⟩ := he
    exact World.block_lt_of_cell? _ _ (hcc 0 (by omega))
  rw [← hfs]
  obtain ⟨E1, hE1⟩ : ∃ E, E = checkSamplesE fs := ⟨_, rfl⟩
  obtain ⟨E2, hE2⟩ : ∃ E, E = firstInF nmzE fs := ⟨_, rfl⟩
  obtain ⟨E, hE⟩ : ∃ E, E = firstE [E1, E2] := ⟨_, rfl⟩
  have hE3 : samplesE fs = E := by rw [hE, hE1, hE2]; rfl
  rw [hE3]
  obtain ⟨L, hL⟩ : ∃ L, L = if E = 0 then fs else [] := ⟨_, rfl⟩
  rw [← hL]
  have HE1 := Lib.hid hE1
  have HE2 := Lib.hid hE2
  have HE := Lib.hid hE
  have HL := Lib.hid hL
  clear hz hN hT hfs hall hl hcs hE hE1 hE2 hE3 hL
  go_enter Tryz.func87, Tryz.ntmps87
  go_wp2_with fail
  refine HCS.out.mono ?_
  rintro e w1 ⟨rfl, hb1⟩
  have HB1 := Lib.hid hb1
  have sz1 := hb1.size
  clear hb1
  go_wp2_with fail
  refine (chunk_of (some ⟨g, off + 6, none⟩) (M * 4) (c - 6) w1).mono ?_
  rintro e w2 ⟨rfl, hw2⟩
  have HB2 : Hid (Below w.heap.size w w2) := by rw [hw2]; exact (HB1.out.alloc HB1.out.size _).alloc (by have := HB1.out.size; simp; omega) _
  have x1 : w2.cell? ⟨w1.heap.size, 0, none⟩ = some (.slice (some ⟨g, off + 6, none⟩) (M * 4) (c - 6)) := by rw [hw2]; exact ((Blk.new w1 _ _).alloc _).cell 0
  have x2 : w2.cell? ⟨w1.heap.size + 1, 0, none⟩ = some (.int .i64 4) := by rw [hw2]; have := (Blk.new (w1.alloc (.cells #[.slice (some ⟨g, off + 6, none⟩) (M * 4) (c - 6)] 106)) 3 #[.int .i64 4]).cell 0; rw [size_alloc1] at this; exact this
  have sz2 : w2.heap.size = w1.heap.size + 2 := by rw [hw2]; simp
  have X1 := Lib.hid x1
  have X2 := Lib.hid x2
  have S2 := Lib.hid sz2
  clear x1 x2 sz2 hw2
  go_wp2_with fail
  refine (collect_parts w1.heap.size (w1.heap.size + 1) g (off + 6) (c - 6) M hM (by have := HN.out; omega) w2 (by rw [S2.out]; omega) (by rw [S2.out]; omega) X1.out X2.out).mono ?_
  rintro e w3 ⟨v, rfl, hO, hb3⟩
  have HB3 : Hid (Below w.heap.size w w3) := HB2.out.trans (hb3.mono HB2.out.size)
  obtain ⟨A, cA, rfl, hch⟩ := hO.form
  have HCH := Lib.hid hch
  clear hb3 hO hch
  have HC3 : Hid (∀ i, i < M → ∀ j, j < 4 → w3.cell? ⟨g, off + 6 + i * 4 + j, none⟩ = some (.int .u8 ((b4 (fs.getD i 0 : Nat)).getD j 0))) := fun i hi j hj => (HB3.out.cell (p := ⟨g, off + 6 + i * 4 + j, none⟩) hl2).trans (HC.out i hi j hj)
  go_wp2_with fail
  refine (mapped_numbers A M cA g (off + 6) fs w3 hM HM.out HV.out HCH.out HC3.out).mono ?_
  rintro e w4 ⟨v, rfl, hO, hb4⟩
  have HB4 : Hid (Below w.heap.size w w4) := HB3.out.trans (hb4.mono HB3.out.size)
  have HO4 : Hid (OwnF w4 w.heap.size v fs) := ownsRow_mono hO HB3.out.size
  obtain ⟨A5, c5, rfl, hfl⟩ := hO.form
  rw [HM.out] at hfl HO4 ⊢
  have HF4 := Lib.hid hfl
  clear hb4 hO hfl HCH HC3
  go_wp2_with fail
  refine (checkSamples_any A5 M c5 fs w4 (by omega) HF4.out).mono ?_
  rw [← HE1.out]
  rintro e w5 ⟨rfl, hb5⟩
  have HB5 : Hid (Below w.heap.size w w5) := HB4.out.trans (hb5.mono HB4.out.size)
  have HO5 := Lib.hid (HO4.out.below hb5)
  have HF5 := Lib.hid (HF4.out.keep hb5)
  clear hb5
  go_wp2_with fail
  refine (firstIn_float 153 nmzE A5 M c5 fs w5 (by omega) enters_nmz notMinusZero_any HF5.out).mono ?_
  rw [← HE2.out]
  rintro e w6 ⟨rfl, hb6⟩
  have HB6 : Hid (Below w.heap.size w w6) := HB5.out.trans (hb6.mono HB5.out.size)
  have HO6 := Lib.hid (HO5.out.below hb6)
  clear hb6
  by_cases hz : E = 0
  · have h1 : (E != 0) = false := by simp [hz]
    rw [if_pos hz] at HL
    have HZ := Lib.hid hz
    clear hz
    go_wp2_with (go_at_call 103; (with_reducible refine (first2 _ _ E1 E2 _ (by go_simp) (by go_simp)).mono ?_); rw [← HE.out]; rintro x w7 ⟨rfl, rfl⟩)
    go_ret2
    exact ⟨_, by rw [HZ.out]; rfl, by rw [HL.out]; exact World.ownsRow.alloc HO6.out _, HB6.out.alloc HB6.out.size _⟩
  · have h1 : (E != 0) = true := by simp [hz]
    rw [if_neg hz] at HL
    clear hz
    go_wp2_with (go_at_call 103; (with_reducible refine (first2 _ _ E1 E2 _ (by go_simp) (by go_simp)).mono ?_); rw [← HE.out]; rintro x w7 ⟨rfl, rfl⟩)
    go_ret2
    exact ⟨_, rfl, by rw [HL.out]; exact World.ownsRow_nil _ _ _ _, HB6.out.alloc HB6.out.size _⟩

set_option maxHeartbeats 1000000 in
theorem Unpack_any (A : Option Addr) (n c : Nat) (zs : List Int) (w : World) (hn : n ≤ 300 ∨ 400000 < n) (hnc : n ≤ c) (hz : BytesAt w A n zs) :
    Calls Tryz.prog 87 #[.slice A n c] w fun e w' => ∃ v, e = .returned (.tuple #[v, .int .i64 (unpackE zs)]) ∧ OwnF w' w.heap.size v (unpackL zs) ∧ Below w.heap.size w w' := by
  have hl := hz.1
  have hb := bytes_all hz
  have hbad : ∀ E : Int, E ≠ 0 → streamE zs = E → (Calls Tryz.prog 148 #[.slice A n c] w fun e w' => e = .returned (.int .i64 E) ∧ Below w.heap.size w w') → (Calls Tryz.prog 87 #[.slice A n c] w fun e w' => ∃ v, e = .returned (.tuple #[v, .int .i64 (unpackE zs)]) ∧ OwnF w' w.heap.size v (unpackL zs) ∧ Below w.heap.size w w') := by
    intro E h0 hE hc
    have e1 : unpackE zs = E := by unfold unpackE; rw [hE, if_neg h0]
    have e2 : unpackL zs = [] := by unfold unpackL; rw [e1, if_neg h0]
    rw [e1, e2]
    exact Unpack_bad A n c E w h0 hc
  have still : ∀ E : Int, (Calls Tryz.prog 148 #[.slice A n c] w fun e w' => e = .returned (.int .i64 E) ∧ w = w') → (Calls Tryz.prog 148 #[.slice A n c] w fun e w' => e = .returned (.int .i64 E) ∧ Below w.heap.size w w') := fun E h => h.mono fun _ _ ⟨h1, h2⟩ => ⟨h1, by rw [← h2]; exact Below.refl _ _⟩
  by_cases h1 : 400000 < n
  · exact hbad 26 (by decide) (by unfold streamE; rw [hl, if_pos h1]) (still _ (checkStream_long A n c w h1))
  · by_cases h2 : n < 14
    · exact hbad 28 (by decide) (by unfold streamE; rw [hl, if_neg h1, if_pos h2]) (still _ (checkStream_torn A n c w h2))
    · obtain ⟨g, off, rfl, hc⟩ := hz.2.2 (by omega)
      by_cases h3 : zs.take 4 = magicL
      · by_cases h4 : (n : Int) = 14 + 4 * (zs.getD 4 0 * 256 + zs.getD 5 0)
        · have hM : n = 14 + ((n - 14) / 4) * 4 := by omega
          have hcs := checkStream_seal g off c (off + (n - 8)) (n - 8) n zs w hl hb (by omega) (by omega) hnc hz h3 h4 (by omega) rfl
          by_cases h5 : zs.drop (n - 8) = sealL z8 (zs.take (n - 8))
          · rw [if_pos h5] at hcs
            have e0 : streamE zs = 0 := by unfold streamE; rw [hl, if_neg h1, if_neg h2, if_neg (by simp [h3]), if_neg (by simpa using h4), if_neg (by simpa using h5)]
            have e1 : unpackE zs = samplesE (numsOf zs) := by unfold unpackE; rw [if_pos e0]
            have e2 : unpackL zs = if samplesE (numsOf zs) = 0 then numsOf zs else [] := by unfold unpackL; rw [e1]
            rw [e1, e2]
            exact Unpack_sealed g off c ((n - 14) / 4) n zs w hl (by omega) hM hnc hz hcs
          · rw [if_neg h5] at hcs
            exact hbad 27 (by decide) (by unfold streamE; rw [hl, if_neg h1, if_neg h2, if_neg (by simp [h3]), if_neg (by simpa using h4), if_pos (by simpa using h5)]) hcs
        · exact hbad 2 (by decide) (by unfold streamE; rw [hl, if_neg h1, if_neg h2, if_neg (by simp [h3]), if_pos h4]) (checkStream_shape g off n c zs w hl hb (by omega) (by omega) hnc hc h3 h4)
      · exact hbad 1 (by decide) (by unfold streamE; rw [hl, if_neg h1, if_neg h2, if_pos h3]) (still _ (checkStream_form g off n c zs w hl hb (by omega) (by omega) hnc hc h3))
end Go.Proofs.YtoipafnlcchmbaaGreatDoor
