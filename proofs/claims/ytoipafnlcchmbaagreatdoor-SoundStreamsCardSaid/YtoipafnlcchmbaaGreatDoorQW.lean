/- Floats, as the exact integers that they stand for: what a float32 is as a float64, sixteen times it, its whole part; what the checks of a sample find. The program's checks of samples, at any floats. The reference's checks of samples, at any floats. The reference's check of a list of samples. -/
import Derived.Laws.FloatArith
import Derived.Laws.BitsAllLaws
import Derived.Test.YtoipafnlcchmbaaGreatDoorQJ
import Derived.Test.YtoipafnlcchmbaaGreatDoorQA
import Derived.Deep.RegionHeld3
import Derived.Deep.RegionHeldLaw
namespace Go.Proofs.YtoipafnlcchmbaaGreatDoor
open Ieee Go

theorem cmp_int (a b : Int) : compare a b = if a < b then .lt else if a = b then .eq else .gt := rfl
theorem cmp_mul (a b c : Int) (hc : 0 < c) : compare (a * c) (b * c) = compare a b := by
  rw [cmp_int, cmp_int]
  by_cases h1 : a < b
  · rw [if_pos h1, if_pos (Int.mul_lt_mul_of_pos_right h1 hc)]
  · rw [if_neg h1, if_neg (fun h => h1 (Int.lt_of_mul_lt_mul_right h (Int.le_of_lt hc)))]
    by_cases h2 : a = b
    · rw [if_pos h2, if_pos (by rw [h2])]
    · rw [if_neg h2, if_neg (fun h => h2 (Int.eq_of_mul_eq_mul_right (Int.ne_of_gt hc) h))]
theorem signed_eq (s : Bool) (m u : Nat) : signed s m u = (if s then -((m * 2 ^ u : Nat) : Int) else ((m * 2 ^ u : Nat) : Int)) := by
  unfold signed; rw [Nat.shiftLeft_eq]
theorem signed_add (s : Bool) (m u k : Nat) : signed s m (u + k) = signed s m u * ((2 ^ k : Nat) : Int) := by
  rw [signed_eq, signed_eq, Nat.pow_add, ← Nat.mul_assoc]
  cases s <;> simp [Int.natCast_mul, Int.neg_mul]
/-- The order of two numbers, over any base that is at most both places. -/
theorem order_at (s t : Bool) (m n : Nat) (i j B : Int) (hi : B ≤ i) (hj : B ≤ j) : Datum.order (.number s m i) (.number t n j) = some (compare (signed s m (i - B).toNat) (signed t n (j - B).toNat)) := by
  have hb : B ≤ min i j := by omega
  have h1 : min i j ≤ i := Int.min_le_left _ _
  have h2 : min i j ≤ j := Int.min_le_right _ _
  show some (compare (signed s m (i - min i j).toNat) (signed t n (j - min i j).toNat)) = _
  generalize min i j = b at hb h1 h2
  rw [show (i - B).toNat = (i - b).toNat + (b - B).toNat by omega, show (j - B).toNat = (j - b).toNat + (b - B).toNat by omega, signed_add, signed_add]
  rw [cmp_mul _ _ _ (by exact_mod_cast Nat.two_pow_pos _)]

theorem dplace : double.leastPlace = -1074 := by decide
theorem splace : single.leastPlace = -149 := by decide
theorem dbin : double.binade = 4503599627370496 := by decide
theorem sbin : single.binade = 8388608 := by decide
theorem dinf : double.infRung = 2047 * 4503599627370496 := by decide
theorem sinf : single.infRung = 255 * 8388608 := by decide
theorem dsign : double.signWeight = 9223372036854775808 := by decide
theorem ssign : single.signWeight = 2147483648 := by decide

/-- A word of a sign and a rung is read as a number. -/
theorem read_word (s : Bool) (r : Nat) (hr : r < 2047 * 4503599627370496) : double.read (double.word s r) = if r < 4503599627370496 then .number s r (-1074) else .number s (4503599627370496 + r % 4503599627370496) (-1074 + ((r / 4503599627370496 - 1 : Nat) : Int)) := by
  unfold Format.read Format.word
  simp only [dplace, dbin, dinf, dsign]
  have e1 : (if s = true then 9223372036854775808 + r else r) % 9223372036854775808 = r := by cases s <;> simp <;> omega
  have e2 : ((if s = true then 9223372036854775808 + r else r) / 9223372036854775808 % 2 == 1) = s := by
    cases s
    · simp; omega
    · simp; omega
  rw [e1, e2]
  by_cases h : r < 4503599627370496
  · rw [if_pos h, if_pos h]
  · rw [if_neg h, if_neg h, if_pos hr]
theorem cut_none (way : Toward) (neg : Bool) (n : Nat) (h : way = .even ∨ way = .zero) : way.cut neg n 0 = n := by
  unfold Toward.cut
  rcases h with rfl | rfl <;> simp [Nat.mod_one]
/-- The last place that is kept. -/
def lastP (m : Nat) (e : Int) : Int := max (e + (m.log2 : Int) - 52) (-1074)
theorem log2_le (m : Nat) (h : m < 2 ^ 53) : m.log2 ≤ 52 := by
  by_cases h0 : m = 0
  · subst h0; decide
  · have := (Nat.log2_lt h0).2 h; omega
theorem nearest_eq (s : Bool) (m : Nat) (e : Int) (h0 : m ≠ 0) : double.nearest s m e = double.word s (min ((lastP m e + 1074).toNat * 4503599627370496 + Toward.even.cut s (m <<< (e - lastP m e).toNat) (lastP m e - e).toNat) (2047 * 4503599627370496)) := by
  unfold Format.nearest
  rw [if_neg h0]
  simp only [dplace, dbin, dinf]
  show double.word s (min ((lastP m e - -1074).toNat * _ + Toward.even.cut s (m <<< (e - lastP m e).toNat) (lastP m e - e).toNat) _) = _
  rw [show lastP m e - -1074 = lastP m e + 1074 by omega]
theorem shl_pos (m k : Nat) (h : m ≠ 0) : m <<< k ≠ 0 := by
  rw [Nat.shiftLeft_eq]
  exact Nat.ne_of_gt (Nat.mul_pos (Nat.pos_of_ne_zero h) (Nat.two_pow_pos k))
/-- What is kept has at most 53 digits; and 53 of them where the place is not the least one. -/
theorem kept_bd (m : Nat) (e : Int) (h0 : m ≠ 0) (h1 : m < 2 ^ 53) (h2 : -1074 ≤ e) : lastP m e ≤ e ∧ e - 52 ≤ lastP m e ∧ -1074 ≤ lastP m e ∧ m <<< (e - lastP m e).toNat < 9007199254740992 ∧ (-1074 < lastP m e → 4503599627370496 ≤ m <<< (e - lastP m e).toNat) := by
  have hl := log2_le m h1
  have hlo := Nat.log2_self_le h0
  have hhi : m < 2 ^ (m.log2 + 1) := Nat.lt_log2_self
  have a1 : lastP m e ≤ e := by unfold lastP; omega
  refine ⟨a1, by unfold lastP; omega, by unfold lastP; omega, ?_, fun h3 => ?_⟩
  · rw [Nat.shiftLeft_eq]
    have h4 : (e - lastP m e).toNat ≤ 52 - m.log2 := by unfold lastP; omega
    calc m * 2 ^ (e - lastP m e).toNat < 2 ^ (m.log2 + 1) * 2 ^ (e - lastP m e).toNat := Nat.mul_lt_mul_of_pos_right hhi (Nat.two_pow_pos _)
      _ = 2 ^ (m.log2 + 1 + (e - lastP m e).toNat) := (Nat.pow_add _ _ _).symm
      _ ≤ 2 ^ 53 := Nat.pow_le_pow_right (by omega) (by omega)
      _ = 9007199254740992 := by decide
  · rw [Nat.shiftLeft_eq]
    have h4 : (e - lastP m e).toNat = 52 - m.log2 := by unfold lastP at h3 ⊢; omega
    rw [h4]
    calc 4503599627370496 = 2 ^ (m.log2 + (52 - m.log2)) := by rw [show m.log2 + (52 - m.log2) = 52 by omega]
      _ = 2 ^ m.log2 * 2 ^ (52 - m.log2) := Nat.pow_add _ _ _
      _ ≤ m * 2 ^ (52 - m.log2) := Nat.mul_le_mul_right _ hlo
/-- A number of at most 53 digits is written without loss. -/
theorem read_nearest (s : Bool) (m : Nat) (e : Int) (h0 : m ≠ 0) (h1 : m < 2 ^ 53) (h2 : -1074 ≤ e) (h3 : e ≤ 971) : double.read (double.nearest s m e) = .number s (m <<< (e - lastP m e).toNat) (lastP m e) := by
  obtain ⟨k1, k2, k3, k4, k5⟩ := kept_bd m e h0 h1 h2
  rw [nearest_eq s m e h0, show (lastP m e - e).toNat = 0 by omega, cut_none _ _ _ (Or.inl rfl)]
  obtain ⟨K, hK⟩ : ∃ K, K = m <<< (e - lastP m e).toNat := ⟨_, rfl⟩
  obtain ⟨L, hL⟩ : ∃ L, L = lastP m e := ⟨_, rfl⟩
  rw [← hK] at k4 k5 ⊢
  rw [← hL] at k1 k2 k3 k5 ⊢
  obtain ⟨l, hl⟩ : ∃ l : Nat, L = (l : Int) - 1074 := ⟨(L + 1074).toNat, by omega⟩
  have e1 : (L + 1074).toNat = l := by omega
  rw [e1]
  have hlt : l * 4503599627370496 + K < 2047 * 4503599627370496 := by
    have : l ≤ 2045 := by omega
    omega
  rw [Nat.min_eq_left (by omega), read_word _ _ hlt]
  by_cases hc : l * 4503599627370496 + K < 4503599627370496
  · rw [if_pos hc]
    have : l = 0 := by omega
    subst this
    rw [Nat.zero_mul, Nat.zero_add, hl]
    rfl
  · rw [if_neg hc]
    have hge : 4503599627370496 ≤ K := by
      by_cases hz : l = 0
      · subst hz; omega
      · exact k5 (by omega)
    have q1 : (l * 4503599627370496 + K) / 4503599627370496 = l + 1 := by omega
    have q2 : (l * 4503599627370496 + K) % 4503599627370496 = K - 4503599627370496 := by omega
    rw [q1, q2, show 4503599627370496 + (K - 4503599627370496) = K by omega, hl]
    congr 1
theorem nearest_zero (s : Bool) (e : Int) : double.nearest s 0 e = double.word s 0 := by unfold Format.nearest; rw [if_pos rfl]
theorem read_zero (s : Bool) : double.read (double.word s 0) = .number s 0 (-1074) := by rw [read_word s 0 (by omega), if_pos (by omega)]
theorem log2_shl (m k : Nat) (h : m ≠ 0) : (m * 2 ^ k).log2 = m.log2 + k := by
  have hp := Nat.two_pow_pos k
  rw [Nat.log2_eq_iff (Nat.ne_of_gt (Nat.mul_pos (Nat.pos_of_ne_zero h) hp))]
  refine ⟨?_, ?_⟩
  · rw [Nat.pow_add]; exact Nat.mul_le_mul_right _ (Nat.log2_self_le h)
  · rw [show m.log2 + k + 1 = m.log2 + 1 + k by omega, Nat.pow_add]
    exact Nat.mul_lt_mul_of_pos_right Nat.lt_log2_self hp
/-- More digits that are 0 make no difference. -/
theorem nearest_shl (s : Bool) (m k : Nat) (e : Int) (h0 : m ≠ 0) (h1 : m < 2 ^ 53) (h2 : -1074 ≤ e) : double.nearest s (m * 2 ^ k) (e - k) = double.nearest s m e := by
  have hp := Nat.two_pow_pos k
  have hm := Nat.ne_of_gt (Nat.mul_pos (Nat.pos_of_ne_zero h0) hp)
  obtain ⟨k1, k2, k3, k4, k5⟩ := kept_bd m e h0 h1 h2
  have hL : lastP (m * 2 ^ k) (e - k) = lastP m e := by unfold lastP; rw [log2_shl m k h0]; push_cast; congr 1; omega
  rw [nearest_eq _ _ _ hm, nearest_eq _ _ _ h0, hL]
  congr 3
  obtain ⟨a, ha⟩ : ∃ a : Nat, (a : Int) = e - lastP m e := ⟨(e - lastP m e).toNat, by omega⟩
  rw [show (lastP m e - e).toNat = 0 by omega, cut_none _ _ _ (Or.inl rfl), show (e - lastP m e).toNat = a by omega]
  by_cases hk : k ≤ a
  · rw [show (e - (k : Int) - lastP m e).toNat = a - k by omega, show (lastP m e - (e - (k : Int))).toNat = 0 by omega, cut_none _ _ _ (Or.inl rfl), Nat.shiftLeft_eq, Nat.shiftLeft_eq, Nat.mul_assoc, ← Nat.pow_add, show k + (a - k) = a by omega]
  · rw [show (e - (k : Int) - lastP m e).toNat = 0 by omega, show (lastP m e - (e - (k : Int))).toNat = k - a by omega, Nat.shiftLeft_zero, Nat.shiftLeft_eq]
    have hlg := log2_shl m k h0
    have e1 : m * 2 ^ k = m * 2 ^ a * 2 ^ (k - a) := by rw [Nat.mul_assoc, ← Nat.pow_add, show a + (k - a) = k by omega]
    unfold Toward.cut
    dsimp only
    rw [hlg, show min (k - a) (m.log2 + k + 2) = k - a by omega, Nat.one_shiftLeft, e1, Nat.mul_div_cancel _ (Nat.two_pow_pos _), Nat.mul_mod_left]
    simp

/-- A word of 32 bits stands for a number of at most 24 digits, or for none. -/
theorem single_cases (x : Nat) : (∃ s m e, single.read x = .number s m e ∧ m < 2 ^ 24 ∧ -149 ≤ e ∧ e ≤ 104) ∨ (∃ s, single.read x = .infinity s) ∨ (∃ s t, single.read x = .nan s t) := by
  unfold Format.read
  simp only [splace, sbin, sinf, ssign]
  by_cases h1 : x % 2147483648 < 8388608
  · rw [if_pos h1]; exact Or.inl ⟨_, _, _, rfl, by omega, by omega, by omega⟩
  · rw [if_neg h1]
    by_cases h2 : x % 2147483648 < 255 * 8388608
    · rw [if_pos h2]; exact Or.inl ⟨_, _, _, rfl, by omega, by omega, by omega⟩
    · rw [if_neg h2]
      by_cases h3 : x % 2147483648 = 255 * 8388608
      · rw [if_pos h3]; exact Or.inr (Or.inl ⟨_, rfl⟩)
      · rw [if_neg h3]; exact Or.inr (Or.inr ⟨_, _, rfl⟩)
theorem read_16 : double.read 4625196817309499392 = .number false 4503599627370496 (-48) := by decide
theorem double_max : double.read 9218868437227405311 = .number false 9007199254740991 971 := by decide

/-- What float64(x) stands for, if x is the number s m e: a number of the same value. -/
theorem wide_number (s : Bool) (m : Nat) (e : Int) (h1 : m < 2 ^ 24) (h2 : -149 ≤ e) (h3 : e ≤ 104) : ∃ m1 e1, double.read (double.nearest s m e) = .number s m1 e1 ∧ m1 < 2 ^ 53 ∧ -1074 ≤ e1 ∧ e1 ≤ 104 ∧ m1 * 2 ^ (e1 + 1074).toNat = m * 2 ^ (e + 1074).toNat ∧ (m = 0 ↔ m1 = 0) := by
  by_cases h0 : m = 0
  · subst h0
    exact ⟨0, -1074, by rw [nearest_zero, read_zero], by decide, by omega, by omega, by simp, by simp⟩
  · have hm : m < 2 ^ 53 := Nat.lt_trans h1 (by decide)
    obtain ⟨k1, k2, k3, k4, k5⟩ := kept_bd m e h0 hm (by omega)
    refine ⟨_, _, read_nearest s m e h0 hm (by omega) (by omega), by exact k4, k3, by omega, ?_, ?_⟩
    · rw [Nat.shiftLeft_eq, Nat.mul_assoc, ← Nat.pow_add, show (e - lastP m e).toNat + (lastP m e + 1074).toNat = (e + 1074).toNat by omega]
    · constructor
      · intro h; exact absurd h h0
      · intro h; exact absurd h (shl_pos m _ h0)
/-- The answer of the comparison of a number's words, for those of the same places. -/
theorem signed_true (m u : Nat) : signed true m u = -((m * 2 ^ u : Nat) : Int) := by rw [signed_eq]; rfl
theorem signed_false (m u : Nat) : signed false m u = ((m * 2 ^ u : Nat) : Int) := by rw [signed_eq]; rfl
theorem read_16' : double.read 4625196817309499392 = .number false (2 ^ 52) (-48) := read_16
theorem mul16 (y m1 : Nat) (s : Bool) (e1 : Int) (h : double.read y = .number s m1 e1) (h1 : m1 < 2 ^ 53) (h2 : -1074 ≤ e1) : double.mul y 4625196817309499392 = some (double.nearest s m1 (e1 + 4)) ∧ double.mul 4625196817309499392 y = some (double.nearest s m1 (e1 + 4)) := by
  have e : ∀ n, double.nearest s (m1 * 2 ^ 52) n = if m1 = 0 then double.word s 0 else double.nearest s (m1 * 2 ^ 52) n := fun n => by
    by_cases h0 : m1 = 0
    · rw [if_pos h0, h0, Nat.zero_mul, nearest_zero]
    · rw [if_neg h0]
  have e2 : double.nearest s (m1 * 2 ^ 52) (e1 + -48) = double.nearest s m1 (e1 + 4) := by
    by_cases h0 : m1 = 0
    · rw [h0, Nat.zero_mul, nearest_zero, nearest_zero]
    · rw [show e1 + -48 = e1 + 4 - ((52 : Nat) : Int) by omega]
      exact nearest_shl s m1 52 (e1 + 4) h0 h1 (by omega)
  constructor
  · unfold Format.mul
    rw [h, read_16']
    show some (double.nearest (s ^^ false) (m1 * 2 ^ 52) (e1 + -48)) = _
    rw [Bool.xor_false, e2]
  · unfold Format.mul
    rw [h, read_16']
    show some (double.nearest (false ^^ s) (2 ^ 52 * m1) (-48 + e1)) = _
    rw [Bool.false_xor, Nat.mul_comm, Int.add_comm, e2]
/-- What sixteen times a number stands for. -/
theorem read_sixteen (s : Bool) (m1 : Nat) (e1 : Int) (h1 : m1 < 2 ^ 53) (h2 : -1074 ≤ e1) (h3 : e1 ≤ 900) : ∃ m2 e2, double.read (double.nearest s m1 (e1 + 4)) = .number s m2 e2 ∧ m2 < 2 ^ 53 ∧ -1074 ≤ e2 ∧ m2 * 2 ^ (e2 + 1074).toNat = 16 * (m1 * 2 ^ (e1 + 1074).toNat) := by
  by_cases h0 : m1 = 0
  · subst h0
    exact ⟨0, -1074, by rw [nearest_zero, read_zero], by decide, by omega, by simp⟩
  · obtain ⟨k1, k2, k3, k4, k5⟩ := kept_bd m1 (e1 + 4) h0 h1 (by omega)
    refine ⟨_, _, read_nearest s m1 (e1 + 4) h0 h1 (by omega) (by omega), k4, k3, ?_⟩
    rw [Nat.shiftLeft_eq, Nat.mul_assoc, ← Nat.pow_add, show (e1 + 4 - lastP m1 (e1 + 4)).toNat + (lastP m1 (e1 + 4) + 1074).toNat = (e1 + 1074).toNat + 4 by omega, Nat.pow_add]
    rw [show (2 : Nat) ^ 4 = 16 by decide, ← Nat.mul_assoc]
    exact Nat.mul_comm _ _
/-- The whole part of a number towards zero. -/
theorem cut_zero (s : Bool) (m : Nat) (e : Int) (c : Nat) (h2 : -(c : Int) ≤ e) : Toward.zero.cut s (m <<< e.toNat) (-e).toNat = m * 2 ^ (e + c).toNat / 2 ^ c := by
  unfold Toward.cut
  dsimp only
  rw [show (false.toNat : Nat) = 0 from rfl, Nat.add_zero, Nat.one_shiftLeft]
  by_cases h : 0 ≤ e
  · rw [show (-e).toNat = 0 by omega, Nat.zero_min, Nat.pow_zero, Nat.div_one, Nat.shiftLeft_eq, show (e + (c : Int)).toNat = e.toNat + c by omega, Nat.pow_add, ← Nat.mul_assoc, Nat.mul_div_cancel _ (Nat.two_pow_pos _)]
  · rw [show e.toNat = 0 by omega, Nat.shiftLeft_zero]
    obtain ⟨d, hd⟩ : ∃ d : Nat, e = -(d : Int) := ⟨(-e).toNat, by omega⟩
    have hd2 : d ≤ c := by omega
    rw [show (-e).toNat = d by omega, show (e + (c : Int)).toNat = c - d by omega]
    have e1 : (2 : Nat) ^ c = 2 ^ d * 2 ^ (c - d) := by rw [← Nat.pow_add, show d + (c - d) = c by omega]
    rw [e1, Nat.mul_div_mul_right _ _ (Nat.two_pow_pos _)]
    by_cases hm : d ≤ m.log2 + 2
    · rw [Nat.min_eq_left hm]
    · rw [Nat.min_eq_right (by omega)]
      have hlt : m < 2 ^ (m.log2 + 1) := Nat.lt_log2_self
      have p1 : 2 ^ (m.log2 + 1) ≤ 2 ^ (m.log2 + 2) := Nat.pow_le_pow_right (by omega) (by omega)
      have p2 : 2 ^ (m.log2 + 1) ≤ 2 ^ d := Nat.pow_le_pow_right (by omega) (by omega)
      rw [Nat.div_eq_of_lt (by omega), Nat.div_eq_of_lt (by omega)]
/-- Equal to its whole part: just if nothing is left over. -/
theorem order_whole (s : Bool) (m k : Nat) (e : Int) (c : Nat) (hc0 : c = 1074) (h2 : -(c : Int) ≤ e) (hk : k = m * 2 ^ (e + c).toNat / 2 ^ c) (h3 : k < 2 ^ 53) (s' : Bool) (hs : k ≠ 0 → s' = s) :
    (Datum.order (.number s m e) (double.read (double.nearest s' k 0)) == some .eq) = decide (m * 2 ^ (e + c).toNat % 2 ^ c = 0) ∧ (Datum.order (double.read (double.nearest s' k 0)) (.number s m e) == some .eq) = decide (m * 2 ^ (e + c).toNat % 2 ^ c = 0) := by
  obtain ⟨V, hV⟩ : ∃ V, V = m * 2 ^ (e + c).toNat := ⟨_, rfl⟩
  have hsv : signed s m (e - -(c : Int)).toNat = if s then -(V : Int) else V := by
    rw [show e - -(c : Int) = e + c by omega, signed_eq, ← hV]
  have hkv : ∃ m' e', double.read (double.nearest s' k 0) = .number s' m' e' ∧ -(c : Int) ≤ e' ∧ m' * 2 ^ (e' + c).toNat = k * 2 ^ c := by
    by_cases h0 : k = 0
    · refine ⟨0, -1074, by rw [h0, nearest_zero, read_zero], by omega, by rw [h0, Nat.zero_mul, Nat.zero_mul]⟩
    · obtain ⟨k1, k2, k3, k4, k5⟩ := kept_bd k 0 h0 h3 (by omega)
      refine ⟨_, _, read_nearest s' k 0 h0 h3 (by omega) (by omega), by omega, ?_⟩
      rw [Nat.shiftLeft_eq, Nat.mul_assoc, ← Nat.pow_add, show (0 - lastP k 0).toNat + (lastP k 0 + (c : Int)).toNat = c by omega]
  obtain ⟨m', e', hr, h4, h5⟩ := hkv
  have hsk : signed s' m' (e' - -(c : Int)).toNat = if s then -((k * 2 ^ c : Nat) : Int) else ((k * 2 ^ c : Nat) : Int) := by
    rw [show e' - -(c : Int) = e' + c by omega, signed_eq, h5]
    by_cases h0 : k = 0
    · subst h0; rw [Nat.zero_mul]; cases s <;> cases s' <;> rfl
    · rw [hs h0]
  rw [hr, order_at s s' m m' e e' (-(c : Int)) h2 h4, order_at s' s m' m e' e (-(c : Int)) h4 h2, hsv, hsk, ← hV]
  rw [← hV] at hk
  obtain ⟨P, hP⟩ : ∃ P : Nat, P = 2 ^ c := ⟨_, rfl⟩
  have hP0 : 0 < P := by rw [hP]; exact Nat.two_pow_pos _
  rw [← hP] at hk ⊢
  have hdm := Nat.div_add_mod V P
  rw [← hk] at hdm
  have hc : P * k = k * P := Nat.mul_comm _ _
  have key : ∀ a b : Int, (some (compare a b) == some Ordering.eq) = decide (a = b) := fun a b => by
    rw [cmp_int]
    by_cases h : a < b
    · rw [if_pos h, decide_eq_false (by omega)]; rfl
    · rw [if_neg h]
      by_cases h1 : a = b
      · rw [if_pos h1, decide_eq_true h1]; rfl
      · rw [if_neg h1, decide_eq_false h1]; rfl
  rw [key, key]
  have hiff : (V : Int) = ((k * P : Nat) : Int) ↔ V % P = 0 := by constructor <;> intro h <;> omega
  constructor <;> cases s <;> simp only [Bool.false_eq_true, if_true, if_false, decide_eq_decide] <;> constructor <;> intro h <;> first | (apply hiff.1; omega) | (have := hiff.2 h; omega)
/-- Beyond a limit. -/
theorem order_lt (s : Bool) (m n : Nat) (e j B : Int) (h1 : B ≤ e) (h2 : B ≤ j) (h3 : 0 < n * 2 ^ (j - B).toNat) : (Datum.order (.number s m e) (.number true n j) == some .lt) = (s && decide (n * 2 ^ (j - B).toNat < m * 2 ^ (e - B).toNat)) := by
  rw [order_at s true m n e j B h1 h2, signed_true, signed_eq, cmp_int]
  generalize m * 2 ^ (e - B).toNat = X at *
  generalize n * 2 ^ (j - B).toNat = Y at *
  cases s
  · simp only [Bool.false_eq_true, if_false, Bool.false_and]
    rw [if_neg (by omega), if_neg (by omega)]; rfl
  · simp only [if_true, Bool.true_and]
    by_cases h : Y < X
    · rw [if_pos (by omega), decide_eq_true h]; rfl
    · rw [if_neg (by omega), decide_eq_false h]
      split <;> rfl
theorem order_gt (s : Bool) (m n : Nat) (e j B : Int) (h1 : B ≤ e) (h2 : B ≤ j) (h3 : 0 < n * 2 ^ (j - B).toNat) : (Datum.order (.number s m e) (.number false n j) == some .gt) = (!s && decide (n * 2 ^ (j - B).toNat < m * 2 ^ (e - B).toNat)) := by
  rw [order_at s false m n e j B h1 h2, signed_false, signed_eq, cmp_int]
  generalize m * 2 ^ (e - B).toNat = X at *
  generalize n * 2 ^ (j - B).toNat = Y at *
  cases s
  · simp only [Bool.false_eq_true, if_false, Bool.not_false, Bool.true_and]
    by_cases h : Y < X
    · rw [if_neg (by omega), if_neg (by omega), decide_eq_true h]; rfl
    · rw [decide_eq_false h]
      by_cases h4 : (X : Int) < Y
      · rw [if_pos h4]; rfl
      · rw [if_neg h4, if_pos (by omega)]; rfl
  · simp only [if_true, Bool.not_true, Bool.false_and]
    rw [if_pos (by omega)]; rfl
/-- What the checks find in a sample: within 2 ^ c, a multiple of 1/16. -/
def bigM (m : Nat) (e : Int) : Nat := m * 2 ^ (e + 149).toNat
def partE (c b : Nat) : Int := match single.read b with
  | .number _ m e => if 2 ^ (c + 149) < bigM m e then 3 else if 16 * bigM m e % 2 ^ 149 = 0 then 0 else 3
  | _ => 1
theorem partE_number {c b m : Nat} {s : Bool} {e : Int} (h : single.read b = .number s m e) : partE c b = if 2 ^ (c + 149) < bigM m e then 3 else if 16 * bigM m e % 2 ^ 149 = 0 then 0 else 3 := by unfold partE; rw [h]
theorem partE_none {c b : Nat} (h : ∀ s m e, single.read b ≠ .number s m e) : partE c b = 1 := by
  unfold partE
  split
  · rename_i s m e he; exact absurd he (h s m e)
  · rfl
theorem order_self (s : Bool) (m : Nat) (e : Int) : (Datum.order (.number s m e) (.number s m e) != some .eq) = false := by
  rw [order_at s s m m e e e (Int.le_refl _) (Int.le_refl _), cmp_int, if_neg (Int.lt_irrefl _), if_pos rfl]; rfl
/-- A number that was read, written again in 64 bits: its word, and what it stands for. -/
theorem wide_facts {b m : Nat} {s : Bool} {e : Int} (h : single.read b = .number s m e) (h1 : m < 2 ^ 24) (h2 : -149 ≤ e) (h3 : e ≤ 104) :
    ∃ y m1 e1, floatToFloatBits .f32 b .f64 = some y ∧ double.read y = .number s m1 e1 ∧ m1 < 2 ^ 53 ∧ -1074 ≤ e1 ∧ e1 ≤ 104 ∧ m1 * 2 ^ (e1 + 1074).toNat = m * 2 ^ (e + 1074).toNat ∧ y = double.nearest s m e := by
  obtain ⟨m1, e1, r1, r2, r3, r4, r5, _⟩ := wide_number s m e h1 h2 h3
  refine ⟨_, m1, e1, ?_, r1, r2, r3, r4, r5, rfl⟩
  unfold floatToFloatBits
  rw [if_neg (by decide)]
  have e1' : FloatKind.f32.decode b = .number s m e := h
  rw [e1']
  have e3 : FloatKind.f64.decode (FloatKind.f64.encode (.number s m e)) = .number s m1 e1 := r1
  simp only
  rw [e3]
  rfl
/-- It is no infinity. -/
theorem abs_word (s : Bool) (r : Nat) (hr : r < 9223372036854775808) : (bits .andNot .u64 (double.word s r : Int) 9223372036854775808).toNat = r := by
  have hw : double.word s r < 18446744073709551616 := by unfold Format.word; rw [dsign]; split <;> omega
  have := u64_andNot_nat (double.word s r) 9223372036854775808 hw (by omega)
  rw [show ((9223372036854775808 : Nat) : Int) = 9223372036854775808 from rfl] at this
  rw [this, Int.toNat_natCast, show 18446744073709551615 - 9223372036854775808 = 2 ^ 63 - 1 by decide, Nat.and_two_pow_sub_one_eq_mod]
  unfold Format.word
  rw [dsign]
  split <;> omega
theorem nearest_word (s : Bool) (m : Nat) (e : Int) : ∃ r, double.nearest s m e = double.word s r ∧ double.nearest false m e = double.word false r ∧ r < 9223372036854775808 := by
  by_cases h0 : m = 0
  · subst h0; exact ⟨0, by rw [nearest_zero], by rw [nearest_zero], by omega⟩
  · have hc : ∀ n d, Toward.even.cut s n d = Toward.even.cut false n d := fun n d => rfl
    refine ⟨_, nearest_eq s m e h0, ?_, ?_⟩
    · rw [nearest_eq false m e h0, hc]
    · have := Nat.min_le_right ((lastP m e + 1074).toNat * 4503599627370496 + Toward.even.cut s (m <<< (e - lastP m e).toNat) (lastP m e - e).toNat) (2047 * 4503599627370496)
      omega
theorem not_inf (s : Bool) (m : Nat) (e : Int) (h1 : m < 2 ^ 24) (h2 : -149 ≤ e) (h3 : e ≤ 104) : ∃ a, (bits .andNot .u64 (double.nearest s m e : Int) 9223372036854775808).toNat = a ∧ (double.order a 9218868437227405311 == some .gt) = false := by
  obtain ⟨r, w1, w2, w3⟩ := nearest_word s m e
  refine ⟨r, by rw [w1, abs_word s r w3], ?_⟩
  obtain ⟨m1, e1, r1, r2, r3, r4, r5, _⟩ := wide_number false m e h1 h2 h3
  have hr : double.read r = .number false m1 e1 := by rw [← r1, w2]; rfl
  unfold Format.order
  rw [hr, double_max, order_gt false m1 9007199254740991 e1 971 (-1074) r3 (by omega) (Nat.mul_pos (by omega) (Nat.two_pow_pos _))]
  rw [Bool.not_false, Bool.true_and, decide_eq_false]
  rw [Nat.not_lt]
  exact Nat.mul_le_mul (by omega) (Nat.pow_le_pow_right (by omega) (by omega))
/-- The parts of the check, for a number. -/
theorem pow925 (m : Nat) (e : Int) (h2 : -149 ≤ e) (c : Nat) (hc : c = 1074) : m * 2 ^ (e + c).toNat = bigM m e * 2 ^ (c - 149) := by
  unfold bigM
  rw [Nat.mul_assoc, ← Nat.pow_add, show (e + 149).toNat + (c - 149) = (e + (c : Int)).toNat by omega]
theorem lim_lt (c : Nat) {X : Nat} (d : Nat) : decide (2 ^ (c + 149) * 2 ^ d < X * 2 ^ d) = decide (2 ^ (c + 149) < X) := by
  have := Nat.two_pow_pos d
  rw [decide_eq_decide]
  exact Nat.mul_lt_mul_right this
structure Lims (c l nl p q : Nat) : Prop where
  l : single.read l = .number false (2 ^ 23) ((c : Int) - 23)
  nl : single.read nl = .number true (2 ^ 23) ((c : Int) - 23)
  p : double.read p = .number false (2 ^ 52) ((c : Int) - 48)
  q : double.read q = .number true (2 ^ 52) ((c : Int) - 48)
  c : c ≤ 20
theorem lims10 : Lims 10 1149239296 3296722944 4670232813583204352 13893604850437980160 := ⟨by decide, by decide, by decide, by decide, by decide⟩
theorem lims12 : Lims 12 1166016512 3313500160 4679240012837945344 13902612049692721152 := ⟨by decide, by decide, by decide, by decide, by decide⟩
theorem in32 {c l nl p q b m : Nat} {s : Bool} {e : Int} (L : Lims c l nl p q) (h : single.read b = .number s m e) (h2 : -149 ≤ e) :
    (single.order b nl == some .lt) = (s && decide (2 ^ (c + 149) < bigM m e)) ∧ (single.order b l == some .gt) = (!s && decide (2 ^ (c + 149) < bigM m e)) := by
  have e1 : 2 ^ 23 * 2 ^ ((c : Int) - 23 - -149).toNat = 2 ^ (c + 149) := by rw [← Nat.pow_add]; congr 1; omega
  have e2 : m * 2 ^ (e - -149).toNat = bigM m e := by unfold bigM; rw [show e - -149 = e + 149 by omega]
  unfold Format.order
  rw [h, L.l, L.nl, order_lt s m _ e _ (-149) h2 (by omega) (Nat.mul_pos (by decide) (Nat.two_pow_pos _)), order_gt s m _ e _ (-149) h2 (by omega) (Nat.mul_pos (by decide) (Nat.two_pow_pos _)), e1, e2]
  exact ⟨rfl, rfl⟩
structure Num (b y z : Nat) (s : Bool) (m m2 : Nat) (e e2 : Int) : Prop where
  read : single.read b = .number s m e
  low : -149 ≤ e
  wide : floatToFloatBits .f32 b .f64 = some y
  self : (double.order y y != some .eq) = false
  inf : ∃ a, (bits .andNot .u64 (y : Int) 9223372036854775808).toNat = a ∧ (double.order a 9218868437227405311 == some .gt) = false
  mul : floatBits .mul .f64 y 4625196817309499392 = some z
  mulr : floatBits .mul .f64 4625196817309499392 y = some z
  readz : double.read z = .number s m2 e2
  lowz : -1074 ≤ e2
  val : ∀ c : Nat, c = 1074 → m2 * 2 ^ (e2 + c).toNat = 16 * bigM m e * 2 ^ (c - 149)
theorem num_facts {b m : Nat} {s : Bool} {e : Int} (h : single.read b = .number s m e) (h1 : m < 2 ^ 24) (h2 : -149 ≤ e) (h3 : e ≤ 104) : ∃ y z m2 e2, Num b y z s m m2 e e2 := by
  obtain ⟨y, m1, e1, f1, f2, f3, f4, f5, f6, f7⟩ := wide_facts h h1 h2 h3
  obtain ⟨m2, e2, g1, g2, g3, g4⟩ := read_sixteen s m1 e1 f3 f4 (by omega)
  have hm := mul16 y m1 s e1 f2 f3 f4
  refine ⟨y, double.nearest s m1 (e1 + 4), m2, e2, h, h2, f1, ?_, ?_, hm.1, hm.2, g1, g3, ?_⟩
  · unfold Format.order; rw [f2]; exact order_self s m1 e1
  · rw [f7]; exact not_inf s m e h1 h2 h3
  · intro c hc
    have e3 : ((c : Nat) : Int) = 1074 := by omega
    rw [e3, g4, f6, Nat.mul_assoc, ← pow925 m e h2 c hc, e3]
theorem Num.in64 {c l nl p q b y z m m2 : Nat} {s : Bool} {e e2 : Int} (L : Lims c l nl p q) (h : Num b y z s m m2 e e2) :
    (double.order z q == some .lt) = (s && decide (2 ^ (c + 149) < bigM m e)) ∧ (double.order z p == some .gt) = (!s && decide (2 ^ (c + 149) < bigM m e)) := by
  obtain ⟨d, hd⟩ : ∃ d : Nat, d = 1074 := ⟨_, rfl⟩
  have hB : (-1074 : Int) = -(d : Int) := by omega
  have hv := h.val d hd
  have hl := h.lowz
  have hc := L.c
  have e1 : 2 ^ 52 * 2 ^ ((c : Int) - 48 - -(d : Int)).toNat = 2 ^ (c + 149) * 2 ^ (d - 149 + 4) := by rw [← Nat.pow_add, ← Nat.pow_add]; congr 1; omega
  have e9 : m2 * 2 ^ (e2 - -(d : Int)).toNat = bigM m e * 2 ^ (d - 149 + 4) := by
    rw [show e2 - -(d : Int) = e2 + d by omega, hv, Nat.pow_add, show (2 : Nat) ^ 4 = 16 by decide, Nat.mul_comm 16, Nat.mul_assoc, Nat.mul_comm 16]
  unfold Format.order
  rw [h.readz, L.p, L.q, order_lt s m2 _ e2 _ (-(d : Int)) (by omega) (by omega) (Nat.mul_pos (by decide) (Nat.two_pow_pos _)), order_gt s m2 _ e2 _ (-(d : Int)) (by omega) (by omega) (Nat.mul_pos (by decide) (Nat.two_pow_pos _)), e1, e9, lim_lt]
  exact ⟨rfl, rfl⟩
/-- The whole part, where the number is within the limit. -/
theorem Num.whole {c b y z m m2 : Nat} {s : Bool} {e e2 : Int} (h : Num b y z s m m2 e e2) (hc : c ≤ 20) (hin : ¬ 2 ^ (c + 149) < bigM m e) :
    ∃ (t : Nat) (n : Int), (FloatKind.f64.encode ((FloatKind.f64.decode z).integral .zero) = t) ∧ (double.order z t != some .eq) = !decide (16 * bigM m e % 2 ^ 149 = 0) ∧ floatToIntVal .f64 z .i64 = some n ∧ (double.order (FloatKind.f64.nearest n) z != some .eq) = !decide (16 * bigM m e % 2 ^ 149 = 0) := by
  obtain ⟨d, hd⟩ : ∃ d : Nat, d = 1074 := ⟨_, rfl⟩
  have hv := h.val d hd
  have hl := h.lowz
  obtain ⟨k, hk⟩ : ∃ k, k = m2 * 2 ^ (e2 + d).toNat / 2 ^ d := ⟨_, rfl⟩
  have hcut := cut_zero s m2 e2 d (by omega)
  rw [← hk] at hcut
  have ed : (2 : Nat) ^ d = 2 ^ 149 * 2 ^ (d - 149) := (congrArg (fun x => 2 ^ x) (show d = 149 + (d - 149) by omega)).trans (Nat.pow_add 2 149 (d - 149))
  have hk2 : k = 16 * bigM m e / 2 ^ 149 := by rw [hk, hv, ed, Nat.mul_div_mul_right _ _ (Nat.two_pow_pos _)]
  have hmod : (m2 * 2 ^ (e2 + d).toNat % 2 ^ d = 0) ↔ 16 * bigM m e % 2 ^ 149 = 0 := by
    rw [hv, ed, Nat.mul_mod_mul_right]
    have := Nat.two_pow_pos (d - 149)
    constructor
    · intro h; rcases Nat.mul_eq_zero.1 h with h | h
      · exact h
      · omega
    · intro h; rw [h, Nat.zero_mul]
  have hkb : k ≤ 16777216 := by
    rw [hk2]
    have h4 : 16 * bigM m e ≤ 16777216 * 2 ^ 149 := by
      have h5 : bigM m e ≤ 2 ^ (c + 149) := by omega
      have h6 : 2 ^ (c + 149) ≤ 2 ^ (20 + 149) := Nat.pow_le_pow_right (by omega) (by omega)
      have h7 : (2 : Nat) ^ (20 + 149) = 1048576 * 2 ^ 149 := by decide
      omega
    calc 16 * bigM m e / 2 ^ 149 ≤ 16777216 * 2 ^ 149 / 2 ^ 149 := Nat.div_le_div_right h4
      _ = 16777216 := Nat.mul_div_cancel _ (Nat.two_pow_pos _)
  have hint : (FloatKind.f64.decode z).integral .zero = .number s k 0 := by
    show Datum.integral .zero (double.read z) = _
    rw [h.readz]
    show Datum.number s (Toward.zero.cut s (m2 <<< e2.toNat) (-e2).toNat) 0 = _
    rw [hcut]
  have hE : ∀ s', (k ≠ 0 → s' = s) → _ := fun s' hs => order_whole s m2 k e2 d hd (by omega) hk (by omega) s' hs
  refine ⟨_, signed s k 0, rfl, ?_, ?_, ?_⟩
  · rw [hint]
    unfold Format.order
    rw [h.readz]
    have := (hE s (fun _ => rfl)).1
    show (!(Datum.order _ (double.read (double.nearest s k 0)) == some .eq)) = _
    rw [this, decide_eq_decide.2 hmod]
  · unfold floatToIntVal Datum.toInt
    rw [hint]
    simp only
    have hb : signed s k 0 = if s then -(k : Int) else k := by rw [signed_eq, Nat.pow_zero, Nat.mul_one]
    rw [if_pos]
    rw [hb]
    show (-9223372036854775808 : Int) ≤ _ ∧ _ ≤ (9223372036854775807 : Int)
    cases s <;> simp <;> omega
  · have hb : signed s k 0 = if s then -(k : Int) else k := by rw [signed_eq, Nat.pow_zero, Nat.mul_one]
    have e4 : FloatKind.f64.nearest (signed s k 0) = double.nearest (decide (signed s k 0 < 0)) k 0 := by
      show double.nearest (decide (signed s k 0 < 0)) (signed s k 0).natAbs 0 = _
      rw [hb]; cases s <;> simp
    rw [e4]
    unfold Format.order
    rw [h.readz]
    have := (hE (decide (signed s k 0 < 0)) (fun h0 => by rw [hb]; cases s <;> simp <;> omega)).2
    show (!(Datum.order (double.read (double.nearest _ k 0)) _ == some .eq)) = _
    rw [this, decide_eq_decide.2 hmod]
end Go.Proofs.YtoipafnlcchmbaaGreatDoor
namespace Go.Proofs.YtoipafnlcchmbaaGreatDoor
open Go.RowKit Ieee

/-- Bits of a NaN. -/
def NaN64 (r : Nat) : Prop := ∃ s t, double.read r = .nan s t
theorem nan_word (n : Nat) : NaN64 (n % 2 * 2 ^ 63 + 0x7ff0000000000000 + 1 + n / 2 % (2 ^ 52 - 1)) := by
  unfold NaN64 Format.read
  simp only [dplace, dbin, dinf, dsign]
  have h1 : (n % 2 * 2 ^ 63 + 0x7ff0000000000000 + 1 + n / 2 % (2 ^ 52 - 1)) % 9223372036854775808 = 9218868437227405312 + 1 + n / 2 % 4503599627370495 := by omega
  rw [h1, if_neg (by omega), if_neg (by omega), if_neg (by omega)]
  exact ⟨_, _, rfl⟩
theorem NaN64.order_l {r : Nat} (h : NaN64 r) (x : Nat) : double.order r x = none := by
  obtain ⟨s, t, h⟩ := h
  unfold Format.order
  rw [h]
  rfl
theorem NaN64.order_r {r : Nat} (h : NaN64 r) (x : Nat) : double.order x r = none := by
  obtain ⟨s, t, h⟩ := h
  unfold Format.order
  rw [h]
  cases double.read x <;> rfl
theorem drew_below {B : Nat} {w w' : World} (h : Below B w w') : Below B w w'.drew := h.drew
/-- A NaN as a float64, in a world. -/
theorem convert_nan (b : Nat) (s : Bool) (t : Nat) (h : single.read b = .nan s t) (w : World) : ∃ r, NaN64 r ∧ (convert 37 254 (.float .f32 b)).run Tryz.prog w = .ok (.float .f64 r) w.drew := by
  refine ⟨_, nan_word (w.tape w.drawn (.nanConv .f64 b)), ?_⟩
  have e1 : FloatKind.f32.decode b = .nan s t := h
  obtain ⟨u, hu⟩ : ∃ u, Tryz.prog.underlying 37 = some u := ⟨_, Tryz.underlying37⟩
  cases u <;> simp [convert, run_underlying hu, run_underlying Tryz.underlying254, Conv.floatToFloat, e1, Question.forced, Question.cut]
theorem mul_nan (r : Nat) (h : NaN64 r) (w : World) : ∃ q, NaN64 q ∧ (binOp .mul 254 (.float .f64 r) (.float .f64 4625196817309499392)).run Tryz.prog w = .ok (.float .f64 q) w.drew := by
  refine ⟨_, nan_word (w.tape w.drawn (.nanBits .f64 r 4625196817309499392)), ?_⟩
  obtain ⟨s, t, h⟩ := h
  have e : FloatKind.f64.format.mul r 4625196817309499392 = none := by
    show (Option.map _ _) = none
    have e1 : FloatKind.f64.format.read r = .nan s t := h
    rw [e1]
    rfl
  simp [binOp, Op.floatArith, e, Question.forced, Question.cut]

theorem isNaN_yes (y : Nat) (w : World) (hn : (FloatKind.f64.format.order y y != some .eq) = true) :
    Calls Tryz.prog 168 #[.float .f64 y] w fun e w' => e = .returned (.bool true) ∧ w = w' := by
  go_enter Tryz.func168, Tryz.ntmps168
  go_wp2
  go_ret
  exact ⟨rfl, rfl⟩
set_option maxRecDepth 100000 in
theorem isInf_yes (y a : Nat) (w : World) (ha : (bits .andNot .u64 (y : Int) 9223372036854775808).toNat = a)
    (hi : (FloatKind.f64.format.order a 9218868437227405311 == some .gt) = true) :
    Calls Tryz.prog 169 #[.float .f64 y, .int .i64 0] w fun e w' => e = .returned (.bool true) ∧ w = w' := by
  go_enter Tryz.func169, Tryz.ntmps169
  go_wp2_with fail
  refine (abs_of y a _ ha).mono ?_
  rintro e w' ⟨rfl, rfl⟩
  go_wp2
  go_ret
  exact ⟨rfl, rfl⟩
theorem toIntegral_of (z : Nat) : Extern.MathFloor.toIntegral "math.archTrunc" .zero #[.float .f64 z] = (match FloatKind.f64.decode z with
    | .nan s t =>
      if FloatKind.f64.format.quiet t = t then pure (.float .f64 z) else do
      let kept ← choose (.extern "math.Floor,Ceil,Trunc,RoundToEven.signallingNaN kept" 2)
      pure (.float .f64 (if kept == 1 then z else FloatKind.f64.encode (.nan s (FloatKind.f64.format.quiet t))))
    | d => pure (.float .f64 (FloatKind.f64.encode (d.integral .zero)))) := rfl
/-- Trunc of a NaN: some bits. -/
theorem call_trunc_nan (z : Nat) (h : NaN64 z) (w : World) : ∃ (t : Nat) (w' : World), (w' = w ∨ w' = w.drew) ∧ (callFunc 190 #[.float .f64 z]).run Tryz.prog w = .ok (.value (.float .f64 t)) w' := by
  obtain ⟨s, t, h⟩ := h
  have e1 : FloatKind.f64.decode z = .nan s t := h
  have he : ∃ (r : Nat) (w' : World), (w' = w ∨ w' = w.drew) ∧ (Extern.MathFloor.toIntegral "math.archTrunc" .zero #[.float .f64 z]).run Tryz.prog w = .ok (.float .f64 r) w' := by
    by_cases hq : FloatKind.f64.format.quiet t = t
    · exact ⟨z, w, Or.inl rfl, by rw [toIntegral_of, e1]; simp [hq]⟩
    · obtain ⟨r, hr⟩ : ∃ r, (Extern.MathFloor.toIntegral "math.archTrunc" .zero #[.float .f64 z]).run Tryz.prog w = .ok (.float .f64 r) w.drew := by
        rw [toIntegral_of, e1]
        simp [hq, Question.forced]
      exact ⟨r, w.drew, Or.inr rfl, hr⟩
  obtain ⟨r, w', hw, he⟩ := he
  refine ⟨r, w', hw, ?_⟩
  rw [run_callFunc_extern Tryz.func190 (by kernel_rfl) (by kernel_rfl) (by kernel_rfl) (e := Extern.MathFloor.toIntegral "math.archTrunc" .zero) (by kernel_rfl), he]
  rfl
set_option maxRecDepth 100000 in
theorem trunc_nan (z : Nat) (h : NaN64 z) (w : World) :
    Calls Tryz.prog 170 #[.float .f64 z] w fun e w' => ∃ t : Nat, e = .returned (.float .f64 t) ∧ Below w.heap.size w w' := by
  obtain ⟨t, w1, hw, hc⟩ := call_trunc_nan z h w
  have HB : Hid (Below w.heap.size w w1) := by
    rcases hw with rfl | rfl
    · exact Below.refl _ _
    · exact (Below.refl _ _).drew
  clear hw h
  go_enter Tryz.func170, Tryz.ntmps170
  go_wp2
  go_ret
  exact ⟨_, rfl, HB.out⟩

def finiteE (b : Nat) : Int := match single.read b with | .number _ _ _ => 0 | _ => 1
set_option maxHeartbeats 1000000 in
theorem finite_any (b : Nat) (w : World) : Calls Tryz.prog 108 #[.float .f32 b] w fun e w' => e = .returned (.int .i64 (finiteE b)) ∧ Below w.heap.size w w' := by
  rcases single_cases b with ⟨s, m, e, h, h1, h2, h3⟩ | ⟨s, h⟩ | ⟨s, t, h⟩
  · obtain ⟨y, z, m2, e2, N⟩ := num_facts h h1 h2 h3
    obtain ⟨a, ha, hi⟩ := N.inf
    have hE : finiteE b = 0 := by unfold finiteE; rw [h]
    rw [hE]
    refine (finite_of b y a w N.wide N.self ha hi).mono ?_
    rintro e w' ⟨rfl, rfl⟩
    exact ⟨rfl, Below.refl _ _⟩
  · have hE : finiteE b = 1 := by unfold finiteE; rw [h]
    rw [hE]
    obtain ⟨y, hy⟩ : ∃ y, y = double.word s double.infRung := ⟨_, rfl⟩
    have hc : floatToFloatBits .f32 b .f64 = some y := by
      unfold floatToFloatBits
      rw [if_neg (by decide)]
      have e1 : FloatKind.f32.decode b = .infinity s := h
      rw [e1, hy]
      rfl
    have hn : (FloatKind.f64.format.order y y != some .eq) = false := by rw [hy]; cases s <;> kernel_rfl
    have ha : (bits .andNot .u64 (y : Int) 9223372036854775808).toNat = 9218868437227405312 := by rw [hy]; cases s <;> kernel_rfl
    have hcv : ∀ w', (convert 37 254 (.float .f32 b)).run Tryz.prog w' = .ok (.float .f64 y) w' := fun w' => run_convert_float_float w' _ _ .f32 .f64 b y (by rw [Tryz.underlying37]; rfl) Tryz.underlying254 hc
    clear hc hy h hE
    go_enter Tryz.func108, Tryz.ntmps108
    go_wp2_with fail
    refine (isNaN_of y _ hn).mono ?_
    rintro e w' ⟨rfl, rfl⟩
    go_wp2_with fail
    refine (isInf_yes y 9218868437227405312 _ ha (by kernel_rfl)).mono ?_
    rintro e w' ⟨rfl, rfl⟩
    go_wp2
    go_ret
    exact ⟨rfl, Below.refl _ _⟩
  · have hE : finiteE b = 1 := by unfold finiteE; rw [h]
    rw [hE]
    obtain ⟨r, hr, hcv⟩ := convert_nan b s t h w
    have hn : (FloatKind.f64.format.order r r != some .eq) = true := by rw [show FloatKind.f64.format.order r r = none from hr.order_l r]; rfl
    clear h hE
    go_enter Tryz.func108, Tryz.ntmps108
    go_wp2_with fail
    refine (isNaN_yes r _ hn).mono ?_
    rintro e w' ⟨rfl, rfl⟩
    go_wp2
    go_ret
    exact ⟨rfl, (Below.refl _ _).drew⟩

/-- Whether a number lies within a limit and has its steps; of what is no number: never. -/
def stepE (c b : Nat) : Int := match single.read b with
  | .number _ m e => if 2 ^ (c + 149) < bigM m e then 3 else if 16 * bigM m e % 2 ^ 149 = 0 then 0 else 3
  | _ => 3
theorem stepE_number {c b m : Nat} {s : Bool} {e : Int} (h : single.read b = .number s m e) : stepE c b = if 2 ^ (c + 149) < bigM m e then 3 else if 16 * bigM m e % 2 ^ 149 = 0 then 0 else 3 := by unfold stepE; rw [h]
theorem first0 (x : Int) : firstE [0, x] = x := by
  simp only [firstE, if_true]
  split <;> simp_all
theorem partE_two (c b : Nat) : firstE [finiteE b, stepE c b] = partE c b := by
  unfold finiteE stepE partE
  cases single.read b
  · exact first0 _
  · rfl
  · rfl

set_option maxHeartbeats 2000000 in
theorem stepped_any (c l nl p q b : Nat) (L : Lims c l nl p q) (hng : Op.negFloat .f32 l = nl) (w : World) : Calls Tryz.prog 109 #[.float .f32 b, .float .f32 l] w fun e w' => e = .returned (.int .i64 (stepE c b)) ∧ Below w.heap.size w w' := by
  have hne : ∀ w', (Op.unary .neg (.float .f32 l)).run Tryz.prog w' = .ok (.float .f32 nl) w' := fun w' => by subst hng; rfl
  clear hng
  rcases single_cases b with ⟨s, m, e, h, h1, h2, h3⟩ | ⟨s, h⟩ | ⟨s, t, h⟩
  · obtain ⟨y, z, m2, e2, N⟩ := num_facts h h1 h2 h3
    have hb := in32 L h h2
    have hcv : ∀ w', (convert 37 254 (.float .f32 b)).run Tryz.prog w' = .ok (.float .f64 y) w' := fun w' => run_convert_float_float w' _ _ .f32 .f64 b y (by rw [Tryz.underlying37]; rfl) Tryz.underlying254 N.wide
    have hml : ∀ w', (binOp .mul 254 (.float .f64 y) (.float .f64 4625196817309499392)).run Tryz.prog w' = .ok (.float .f64 z) w' := fun w' => run_float_arith w' .mul _ .f64 y _ z N.mul
    have hE := Lib.hid (stepE_number (c := c) h)
    have HN := Lib.hid N
    have HC := Lib.hid L.c
    obtain ⟨b1, b2⟩ := hb
    have b1' : (FloatKind.f32.format.order b nl == some .lt) = (s && decide (2 ^ (c + 149) < bigM m e)) := b1
    have b2' : (FloatKind.f32.format.order b l == some .gt) = (!s && decide (2 ^ (c + 149) < bigM m e)) := b2
    clear h b1 b2 N L
    by_cases hout : 2 ^ (c + 149) < bigM m e
    · rw [hE.out, if_pos hout]
      rw [decide_eq_true hout] at b1' b2'
      clear hE hout
      cases s
      · simp only [Bool.false_and, Bool.not_false, Bool.true_and] at b1' b2'
        go_enter Tryz.func109, Tryz.ntmps109
        go_wp2
        go_ret
        exact ⟨rfl, Below.refl _ _⟩
      · simp only [Bool.true_and, Bool.not_true, Bool.false_and] at b1' b2'
        go_enter Tryz.func109, Tryz.ntmps109
        go_wp2
        go_ret
        exact ⟨rfl, Below.refl _ _⟩
    · obtain ⟨t, n, ht, hz, _, _⟩ := HN.out.whole HC.out hout
      rw [hE.out, if_neg hout]
      rw [decide_eq_false hout] at b1' b2'
      simp only [Bool.and_false] at b1' b2'
      have HT : Hid (∀ w, (Extern.MathFloor.toIntegral "math.archTrunc" .zero #[.float .f64 z]).run Tryz.prog w = .ok (.float .f64 t) w) := by
        intro w
        have e1 : FloatKind.f64.decode z = .number s m2 e2 := HN.out.readz
        rw [e1] at ht
        rw [toIntegral_of, e1]
        simp [ht]
      have hz' : (FloatKind.f64.format.order z t != some .eq) = !decide (16 * bigM m e % 2 ^ 149 = 0) := hz
      clear hz ht hE hout
      by_cases hw : 16 * bigM m e % 2 ^ 149 = 0
      · rw [if_pos hw]
        rw [decide_eq_true hw] at hz'
        simp only [Bool.not_true] at hz'
        clear hw
        go_enter Tryz.func109, Tryz.ntmps109
        go_wp2_with fail
        refine (trunc_of z t _ HT.out).mono ?_
        rintro e w' ⟨rfl, rfl⟩
        go_wp2
        go_ret
        exact ⟨rfl, Below.refl _ _⟩
      · rw [if_neg hw]
        rw [decide_eq_false hw] at hz'
        simp only [Bool.not_false] at hz'
        clear hw
        go_enter Tryz.func109, Tryz.ntmps109
        go_wp2_with fail
        refine (trunc_of z t _ HT.out).mono ?_
        rintro e w' ⟨rfl, rfl⟩
        go_wp2
        go_ret
        exact ⟨rfl, Below.refl _ _⟩
  · have hE : stepE c b = 3 := by unfold stepE; rw [h]
    rw [hE]
    obtain ⟨y, hy⟩ : ∃ y, y = double.word s double.infRung := ⟨_, rfl⟩
    have hc : floatToFloatBits .f32 b .f64 = some y := by
      unfold floatToFloatBits
      rw [if_neg (by decide)]
      have e1 : FloatKind.f32.decode b = .infinity s := h
      rw [e1, hy]
      rfl
    have hcv : ∀ w', (convert 37 254 (.float .f32 b)).run Tryz.prog w' = .ok (.float .f64 y) w' := fun w' => run_convert_float_float w' _ _ .f32 .f64 b y (by rw [Tryz.underlying37]; rfl) Tryz.underlying254 hc
    have hm : floatBits .mul .f64 y 4625196817309499392 = some y := by rw [hy]; cases s <;> kernel_rfl
    have hml : ∀ w', (binOp .mul 254 (.float .f64 y) (.float .f64 4625196817309499392)).run Tryz.prog w' = .ok (.float .f64 y) w' := fun w' => run_float_arith w' .mul _ .f64 y _ y hm
    have b1 : (FloatKind.f32.format.order b nl == some .lt) = s := by
      show (Datum.order (single.read b) (single.read nl) == some .lt) = s
      rw [h, L.nl]; cases s <;> rfl
    have b2 : (FloatKind.f32.format.order b l == some .gt) = !s := by
      show (Datum.order (single.read b) (single.read l) == some .gt) = !s
      rw [h, L.l]; cases s <;> rfl
    clear hc hm hy h hE L
    cases s
    · simp only [Bool.not_false] at b2
      go_enter Tryz.func109, Tryz.ntmps109
      go_wp2
      go_ret
      exact ⟨rfl, Below.refl _ _⟩
    · go_enter Tryz.func109, Tryz.ntmps109
      go_wp2
      go_ret
      exact ⟨rfl, Below.refl _ _⟩
  · have hE : stepE c b = 3 := by unfold stepE; rw [h]
    rw [hE]
    obtain ⟨r, hr, hcv⟩ := convert_nan b s t h w
    obtain ⟨q2, hq, hml⟩ := mul_nan r hr w.drew
    have b1 : (FloatKind.f32.format.order b nl == some .lt) = false := by
      show (Datum.order (single.read b) (single.read nl) == some .lt) = false
      rw [h]; rfl
    have b2 : (FloatKind.f32.format.order b l == some .gt) = false := by
      show (Datum.order (single.read b) (single.read l) == some .gt) = false
      rw [h]; rfl
    have HQ := Lib.hid hq
    clear h hE L hr hq
    go_enter Tryz.func109, Tryz.ntmps109
    go_wp2_with fail
    refine (trunc_nan q2 HQ.out _).mono ?_
    rintro e w' ⟨t2, rfl, hb⟩
    have HB := Lib.hid hb
    have hz : (FloatKind.f64.format.order q2 t2 != some .eq) = true := by rw [show FloatKind.f64.format.order q2 t2 = none from HQ.out.order_l t2]; rfl
    clear hb
    go_wp2
    go_ret
    exact ⟨rfl, ((Below.refl _ w).drew.drew).trans HB.out⟩

set_option maxRecDepth 100000 in
theorem checkSample_any (b : Nat) (w : World) :
    Calls Tryz.prog 27 #[.float .f32 b] w fun e w' => e = .returned (.int .i64 (partE 10 b)) ∧ Below w.heap.size w w' := by
  go_enter Tryz.func27, Tryz.ntmps27
  go_wp2_with fail
  refine (finite_any b _).mono ?_
  rintro e w1 ⟨rfl, hb⟩
  have HB := Lib.hid hb
  clear hb
  go_wp2_with fail
  refine (stepped_any 10 1149239296 3296722944 4670232813583204352 13893604850437980160 b lims10 (by kernel_rfl) _).mono ?_
  rintro e w2 ⟨rfl, hb⟩
  have HB2 : Hid (Below w.heap.size w w2) := HB.out.trans (hb.mono HB.out.size)
  clear hb HB
  go_wp2_with fail
  refine (first2 _ _ (finiteE b) (stepE 10 b) _ (by go_simp) (by go_simp)).mono ?_
  rw [partE_two]
  rintro e w' ⟨rfl, rfl⟩
  go_wp2
  go_ret
  exact ⟨rfl, HB2.out.alloc HB2.out.size _⟩

/-- The first error of floats. -/
def firstInF (f : Nat → Int) (fs : List Nat) : Int := firstE (fs.map f)
theorem getD_mapF (f : Nat → Int) (zs : List Nat) (i : Nat) (h : i < zs.length) : (zs.map f).getD i 0 = f (zs.getD i 0) := by
  simp [List.getD_eq_getElem?_getD, List.getElem?_eq_getElem h]
theorem firstInF_hit (f : Nat → Int) (zs : List Nat) (k : Nat) (hk : k < zs.length) (hz : ∀ i, i < k → f (zs.getD i 0) = 0) (h : f (zs.getD k 0) ≠ 0) : firstInF f zs = f (zs.getD k 0) := by
  unfold firstInF
  rw [firstE_hit _ k (by rw [List.length_map]; exact hk) (fun i hi => by rw [getD_mapF f zs i (by omega)]; exact hz i hi) (by rw [getD_mapF f zs k hk]; exact h), getD_mapF f zs k hk]
theorem firstInF_miss (f : Nat → Int) (zs : List Nat) (hz : ∀ i, i < zs.length → f (zs.getD i 0) = 0) : firstInF f zs = 0 := by
  unfold firstInF
  refine firstE_miss _ (fun i hi => ?_)
  rw [List.length_map] at hi
  rw [getD_mapF f zs i hi]; exact hz i hi

set_option maxHeartbeats 1000000 in
set_option maxRecDepth 100000 in
theorem firstIn_float (F : FuncId) (f : Nat → Int) (A : Option Addr) (n c : Nat) (fs : List Nat) (w : World) (hn : n ≤ 140737488351232)
    (hE : ∀ (args : Array Value) (W : World), (callFunc F args).run Tryz.prog W = .ok (.enter F args) W)
    (hF : ∀ (x : Nat) (W : World), Calls Tryz.prog F #[.float .f32 x] W fun e w' => e = .returned (.int .i64 (f x)) ∧ Below W.heap.size W w')
    (hz : FlAt w A n fs) :
    Calls Tryz.prog 112 #[.slice A n c, .func (.func F) #[] #[]] w fun e w' => e = .returned (.int .i64 (firstInF f fs)) ∧ Below w.heap.size w w' := by
  have HZ := Lib.hid hz
  have HF := Lib.hid hF
  clear hz hF
  go_enter Tryz.func112, Tryz.ntmps112
  go_wp2
  go_loopw [7, 10] (fun _ i wr => ∃ k : Nat, k ≤ n ∧ i = .int .i64 k ∧ Hid (∀ i, i < k → f (fs.getD i 0) = 0) ∧ Below w.heap.size w wr) (fun _ i _ => n - (intOf i).toNat)
  case atStart => exact ⟨0, Nat.zero_le _, rfl, fun i hi => by omega, Below.refl _ _⟩
  case round =>
    obtain ⟨k, hk, rfl, hz, hb⟩ := hrel
    have HB := Lib.hid hb
    by_cases hlt : k < n
    · obtain ⟨b, off, rfl, hcc⟩ := (HZ.out.keep hb).2 (by omega)
      clear hb
      obtain ⟨x, hx⟩ : ∃ x, x = fs.getD k 0 := ⟨_, rfl⟩
      have h0 := hcc k hlt
      rw [← hx] at h0
      have HX := Lib.hid hx
      clear hcc hx
      go_wp2_with fail
      refine (HF.out x _).mono ?_
      rintro e w1 ⟨rfl, hb1⟩
      have HB1 : Hid (Below w.heap.size w w1) := HB.out.trans (hb1.mono HB.out.size)
      obtain ⟨y, hy⟩ : ∃ y, y = f x := ⟨_, rfl⟩
      rw [← hy]
      have HY := Lib.hid hy
      clear hb1 hy
      by_cases he : y = 0
      · have h1 : (y != 0) = false := by simp [he]
        have HE := Lib.hid he
        clear he
        go_wp2
        go_roundw
        case rel =>
          refine ⟨k + 1, by omega, by go_num, fun i hi => ?_, HB1.out⟩
          by_cases hik : i < k
          · exact hz.out i hik
          · obtain rfl : i = k := by omega
            rw [← HX.out, ← HY.out]; exact HE.out
        case measure => simp [intOf]; omega
      · have h1 : (y != 0) = true := by simp [he]
        have HE := Lib.hid he
        clear he
        go_wp2
        go_ret
        exact ⟨ret_int (by rw [firstInF_hit f fs k (by rw [HZ.out.1]; exact hlt) hz.out (by rw [← HX.out, ← HY.out]; exact HE.out), ← HX.out]; exact HY.out), HB1.out⟩
    · clear hb
      go_wp2
      go_ret
      exact ⟨ret_int (firstInF_miss f fs (fun i hi => hz.out i (by rw [HZ.out.1] at hi; omega))).symm, HB.out⟩
theorem atMostF_any (A : Option Addr) (n c : Nat) (limit : Int) (w : World) :
    Calls Tryz.prog 111 #[.slice A n c, .int .i64 limit] w fun e w' => e = .returned (.int .i64 (atMostE n limit)) ∧ w = w' := by
  by_cases h : limit < (n : Int)
  · have hr : atMostE n limit = 5 := by simp [atMostE, h]
    rw [hr]; clear hr
    go_enter Tryz.func111, Tryz.ntmps111
    go_wp2
    go_ret
    exact ⟨rfl, rfl⟩
  · have hr : atMostE n limit = 0 := by simp [atMostE, h]
    rw [hr]; clear hr
    go_enter Tryz.func111, Tryz.ntmps111
    go_wp2
    go_ret
    exact ⟨rfl, rfl⟩
def checkSamplesE (fs : List Nat) : Int := firstE [atMostE fs.length 4096, firstInF (partE 10) fs]
set_option maxRecDepth 100000 in
theorem checkSamples_any (A : Option Addr) (n c : Nat) (fs : List Nat) (w : World) (hn : n ≤ 140737488351232) (hz : FlAt w A n fs) :
    Calls Tryz.prog 29 #[.slice A n c] w fun e w' => e = .returned (.int .i64 (checkSamplesE fs)) ∧ Below w.heap.size w w' := by
  have HZ := Lib.hid hz
  have hL := Lib.hid hz.1
  clear hz
  go_enter Tryz.func29, Tryz.ntmps29
  go_wp2_with fail
  refine (atMostF_any _ _ _ _ _).mono ?_
  rintro e w' ⟨rfl, rfl⟩
  go_wp2_with fail
  refine (firstIn_float 27 (partE 10) A n c fs _ hn enters_checkSample checkSample_any HZ.out).mono ?_
  rintro e w1 ⟨rfl, hb⟩
  have HB := Lib.hid hb
  clear hb
  go_wp2_with fail
  refine (first2 _ _ (atMostE n 4096) (firstInF (partE 10) fs) _ (by go_simp) (by go_simp)).mono ?_
  rw [show firstE [atMostE n 4096, firstInF (partE 10) fs] = checkSamplesE fs by unfold checkSamplesE; rw [hL.out]]
  rintro e w' ⟨rfl, rfl⟩
  go_wp2
  go_ret
  exact ⟨rfl, HB.out.alloc HB.out.size _⟩
end Go.Proofs.YtoipafnlcchmbaaGreatDoor
namespace Go.Proofs.YtoipafnlcchmbaaGreatDoor
open Go.RowKit Ieee

def NaN32 (r : Nat) : Prop := ∃ s t, single.read r = .nan s t
theorem nan32_word (n : Nat) : NaN32 (n % 2 * 2 ^ 31 + 0x7f800000 + 1 + n / 2 % (2 ^ 23 - 1)) := by
  unfold NaN32 Format.read
  simp only [splace, sbin, sinf, ssign]
  have h1 : (n % 2 * 2 ^ 31 + 0x7f800000 + 1 + n / 2 % (2 ^ 23 - 1)) % 2147483648 = 2139095040 + 1 + n / 2 % 8388607 := by omega
  rw [h1, if_neg (by omega), if_neg (by omega), if_neg (by omega)]
  exact ⟨_, _, rfl⟩
theorem NaN32.order_l {r : Nat} (h : NaN32 r) (x : Nat) : single.order r x = none := by
  obtain ⟨s, t, h⟩ := h
  unfold Format.order
  rw [h]
  rfl
theorem sub_self {b m : Nat} {s : Bool} {e : Int} (h : single.read b = .number s m e) : floatBits .sub .f32 b b = some 0 := by
  show single.sub b b = some 0
  unfold Format.sub
  rw [h]
  have e0 : signed s m (e - min e e).toNat + signed (!s) m (e - min e e).toNat = 0 := by
    rw [signed_eq, signed_eq]
    cases s <;> simp <;> omega
  show Option.map _ (some (Datum.number (if signed s m (e - min e e).toNat + signed (!s) m (e - min e e).toNat = 0 then s && !s else decide (signed s m (e - min e e).toNat + signed (!s) m (e - min e e).toNat < 0)) (signed s m (e - min e e).toNat + signed (!s) m (e - min e e).toNat).natAbs (min e e))) = some 0
  rw [e0, if_pos rfl]
  cases s <;> rfl
theorem sub_bad {b : Nat} (h : ∀ s m e, single.read b ≠ .number s m e) (w : World) : ∃ r, NaN32 r ∧ (binOp .sub 37 (.float .f32 b) (.float .f32 b)).run Tryz.prog w = .ok (.float .f32 r) w.drew := by
  refine ⟨_, nan32_word (w.tape w.drawn (.nanBits .f32 b b)), ?_⟩
  have e : FloatKind.f32.format.sub b b = none := by
    show single.sub b b = none
    unfold Format.sub
    rcases hb : single.read b with ⟨s, m, e⟩ | s | ⟨s, t⟩
    · exact absurd hb (h s m e)
    · cases s <;> rfl
    · rfl
  simp [binOp, Op.floatArith, e, Question.forced, Question.cut]

set_option maxHeartbeats 2000000 in
theorem refCheckPart_any (c l nl p q b : Nat) (most : Int) (L : Lims c l nl p q) (hp : floatOfInt .f64 most = p) (hq : floatBits .sub .f64 0 p = some q) (w : World) : Calls Tryz.prog 110 #[.float .f32 b, .int .i64 most] w fun e w' => e = .returned (.int .i64 (partE c b)) ∧ Below w.heap.size w w' := by
  by_cases hnum : ∃ s m e, single.read b = .number s m e ∧ m < 2 ^ 24 ∧ -149 ≤ e ∧ e ≤ 104
  · obtain ⟨s, m, e, h, h1, h2, h3⟩ := hnum
    obtain ⟨y, z, m2, e2, N⟩ := num_facts h h1 h2 h3
    have hb := N.in64 L
    have hsb : ∀ w', (binOp .sub 37 (.float .f32 b) (.float .f32 b)).run Tryz.prog w' = .ok (.float .f32 0) w' := fun w' => run_float_arith w' .sub _ .f32 b b 0 (sub_self h)
    have hz0 : (FloatKind.f32.format.order 0 0 != some .eq) = false := by kernel_rfl
    have hcv : ∀ w', (convert 37 254 (.float .f32 b)).run Tryz.prog w' = .ok (.float .f64 y) w' := fun w' => run_convert_float_float w' _ _ .f32 .f64 b y (by rw [Tryz.underlying37]; rfl) Tryz.underlying254 N.wide
    have hml : ∀ w', (binOp .mul 254 (.float .f64 4625196817309499392) (.float .f64 y)).run Tryz.prog w' = .ok (.float .f64 z) w' := fun w' => run_float_arith w' .mul _ .f64 _ y z N.mulr
    have hs : ∀ w', (binOp .sub 254 (.float .f64 0) (.float .f64 (floatOfInt .f64 most))).run Tryz.prog w' = .ok (.float .f64 q) w' := fun w' => by rw [hp]; exact run_float_arith w' .sub _ .f64 0 p q hq
    have hE := Lib.hid (partE_number (c := c) h)
    have HN := Lib.hid N
    have HC := Lib.hid L.c
    obtain ⟨b1, b2⟩ := hb
    have b1' : (FloatKind.f64.format.order z q == some .lt) = (s && decide (2 ^ (c + 149) < bigM m e)) := b1
    have b2' : (FloatKind.f64.format.order z (floatOfInt .f64 most) == some .gt) = (!s && decide (2 ^ (c + 149) < bigM m e)) := by rw [hp]; exact b2
    clear h b1 b2 N L hp hq
    by_cases hout : 2 ^ (c + 149) < bigM m e
    · rw [hE.out, if_pos hout]
      rw [decide_eq_true hout] at b1' b2'
      clear hE hout
      cases s
      · simp only [Bool.false_and, Bool.not_false, Bool.true_and] at b1' b2'
        go_enter Tryz.func110, Tryz.ntmps110
        go_wp2
        go_ret
        exact ⟨rfl, Below.refl _ _⟩
      · simp only [Bool.true_and, Bool.not_true, Bool.false_and] at b1' b2'
        go_enter Tryz.func110, Tryz.ntmps110
        go_wp2
        go_ret
        exact ⟨rfl, Below.refl _ _⟩
    · obtain ⟨t, n, _, _, hn, hz⟩ := HN.out.whole HC.out hout
      rw [hE.out, if_neg hout]
      rw [decide_eq_false hout] at b1' b2'
      simp only [Bool.and_false] at b1' b2'
      have hfi : ∀ w', (convert 254 3 (.float .f64 z)).run Tryz.prog w' = .ok (.int .i64 n) w' := fun w' => run_convert_float_int w' _ _ .f64 .i64 z n (by rw [Tryz.underlying254]; rfl) Tryz.underlying3 hn
      have hz' : (FloatKind.f64.format.order (floatOfInt .f64 n) z != some .eq) = !decide (16 * bigM m e % 2 ^ 149 = 0) := hz
      clear hz hn hE hout
      by_cases hw : 16 * bigM m e % 2 ^ 149 = 0
      · rw [if_pos hw]
        rw [decide_eq_true hw] at hz'
        simp only [Bool.not_true] at hz'
        clear hw
        go_enter Tryz.func110, Tryz.ntmps110
        go_wp2
        go_ret
        exact ⟨rfl, Below.refl _ _⟩
      · rw [if_neg hw]
        rw [decide_eq_false hw] at hz'
        simp only [Bool.not_false] at hz'
        clear hw
        go_enter Tryz.func110, Tryz.ntmps110
        go_wp2
        go_ret
        exact ⟨rfl, Below.refl _ _⟩
  · have hnone : ∀ s m e, single.read b ≠ .number s m e := fun s m e h => by
      rcases single_cases b with ⟨s', m', e', h', h1, h2, h3⟩ | ⟨s', h'⟩ | ⟨s', t, h'⟩
      · exact hnum ⟨s', m', e', h', h1, h2, h3⟩
      · rw [h'] at h; cases h
      · rw [h'] at h; cases h
    have hE := partE_none (c := c) hnone
    rw [hE]
    obtain ⟨r, hr, hsb⟩ := sub_bad hnone w
    have hz : (FloatKind.f32.format.order r 0 != some .eq) = true := by rw [show FloatKind.f32.format.order r 0 = none from hr.order_l 0]; rfl
    clear hnone hnum hE hr L hp hq
    go_enter Tryz.func110, Tryz.ntmps110
    go_wp2
    go_ret
    exact ⟨rfl, (Below.refl _ _).drew⟩

set_option maxRecDepth 100000 in
theorem refCheckSample_any (b : Nat) (w : World) :
    Calls Tryz.prog 28 #[.float .f32 b] w fun e w' => e = .returned (.int .i64 (partE 10 b)) ∧ Below w.heap.size w w' := by
  go_enter Tryz.func28, Tryz.ntmps28
  go_wp2_with fail
  refine (refCheckPart_any 10 1149239296 3296722944 4670232813583204352 13893604850437980160 b 16384 lims10 (by kernel_rfl) (by kernel_rfl) _).mono ?_
  rintro e w1 ⟨rfl, hb⟩
  have HB := Lib.hid hb
  clear hb
  go_wp2
  go_ret
  exact ⟨rfl, HB.out⟩

set_option maxHeartbeats 1000000 in
set_option maxRecDepth 100000 in
theorem refCheckAll_any (A : Option Addr) (n c : Nat) (fs : List Nat) (w : World) (hn : n ≤ 140737488351232) (hz : FlAt w A n fs) :
    Calls Tryz.prog 113 #[.slice A n c] w fun e w' => e = .returned (.int .i64 (firstInF (partE 10) fs)) ∧ Below w.heap.size w w' := by
  have HZ := Lib.hid hz
  clear hz
  go_enter Tryz.func113, Tryz.ntmps113
  go_wp2
  go_loopw [3, 4] (fun i _ wr => ∃ k : Nat, k ≤ n ∧ i = .int .i64 k ∧ Hid (∀ i, i < k → partE 10 (fs.getD i 0) = 0) ∧ Below w.heap.size w wr) (fun i _ _ => n - (intOf i).toNat)
  case atStart => exact ⟨0, Nat.zero_le _, rfl, fun i hi => by omega, Below.refl _ _⟩
  case round =>
    obtain ⟨k, hk, rfl, hz, hb⟩ := hrel
    have HB := Lib.hid hb
    by_cases hlt : k < n
    · obtain ⟨b, off, rfl, hcc⟩ := (HZ.out.keep hb).2 (by omega)
      clear hb
      obtain ⟨x, hx⟩ : ∃ x, x = fs.getD k 0 := ⟨_, rfl⟩
      have h0 := hcc k hlt
      rw [← hx] at h0
      have HX := Lib.hid hx
      clear hcc hx
      go_wp2_with fail
      refine (refCheckSample_any x _).mono ?_
      rintro e w1 ⟨rfl, hb1⟩
      have HB1 : Hid (Below w.heap.size w w1) := HB.out.trans (hb1.mono HB.out.size)
      obtain ⟨y, hy⟩ : ∃ y, y = partE 10 x := ⟨_, rfl⟩
      rw [← hy]
      have HY := Lib.hid hy
      clear hb1 hy
      by_cases he : y = 0
      · have h1 : (y != 0) = false := by simp [he]
        have HE := Lib.hid he
        clear he
        go_wp2
        go_roundw
        case rel =>
          refine ⟨k + 1, by omega, by go_num, fun i hi => ?_, HB1.out⟩
          by_cases hik : i < k
          · exact hz.out i hik
          · obtain rfl : i = k := by omega
            rw [← HX.out, ← HY.out]; exact HE.out
        case measure => simp [intOf]; omega
      · have h1 : (y != 0) = true := by simp [he]
        have HE := Lib.hid he
        clear he
        go_wp2
        go_ret
        exact ⟨ret_int (by rw [firstInF_hit (partE 10) fs k (by rw [HZ.out.1]; exact hlt) hz.out (by rw [← HX.out, ← HY.out]; exact HE.out), ← HX.out]; exact HY.out), HB1.out⟩
    · clear hb
      go_wp2
      go_ret
      exact ⟨ret_int (firstInF_miss (partE 10) fs (fun i hi => hz.out i (by rw [HZ.out.1] at hi; omega))).symm, HB.out⟩
theorem shortList_any (A : Option Addr) (n c : Nat) (w : World) (hn : n ≤ 140737488351232) :
    Calls Tryz.prog 26 #[.slice A n c] w fun e w' => e = .returned (.bool (decide (n ≤ 40 ∨ n = 4097))) ∧ w = w' := by
  obtain ⟨b, hb⟩ : ∃ b, b = decide (n ≤ 40 ∨ n = 4097) := ⟨_, rfl⟩
  rw [← hb]
  have HB := Lib.hid hb
  clear hb
  by_cases h : n ≤ 40
  · have h1 : decide ((n : Int) ≤ 40) = true := by simp; omega
    go_enter Tryz.func26, Tryz.ntmps26
    go_wp2
    go_ret
    exact ⟨ret_bool (by rw [HB.out]; simp [h]), rfl⟩
  · have h1 : decide ((n : Int) ≤ 40) = false := by simp; omega
    by_cases h2 : n = 4097
    · have h3 : ((n : Int) == 4097) = true := by simp [h2]
      have H2 := Lib.hid h2
      clear h2
      go_enter Tryz.func26, Tryz.ntmps26
      go_wp2
      go_ret
      exact ⟨ret_bool (by rw [HB.out]; simp [H2.out]), rfl⟩
    · have h3 : ((n : Int) == 4097) = false := by simp; omega
      go_enter Tryz.func26, Tryz.ntmps26
      go_wp2
      go_ret
      exact ⟨ret_bool (by rw [HB.out]; simp [h, h2]), rfl⟩
end Go.Proofs.YtoipafnlcchmbaaGreatDoor
namespace Go.Proofs.YtoipafnlcchmbaaGreatDoor
open Go.RowKit

theorem FlAt.cut {w : World} {A : Option Addr} {n : Nat} {fs : List Nat} (h : FlAt w A n fs) (k : Nat) (hk : k ≤ n) : FlAt w A k (fs.take k) := by
  refine ⟨by rw [List.length_take, h.1]; omega, fun h0 => ?_⟩
  obtain ⟨b, off, rfl, hc⟩ := h.2 (by omega)
  refine ⟨b, off, rfl, fun i hi => ?_⟩
  rw [hc i (by omega), List.getD_eq_getElem?_getD, List.getD_eq_getElem?_getD, List.getElem?_take_of_lt hi]
theorem slice_toF (A : Option Addr) (n c k : Nat) (hk : k ≤ c) (w : World) : (Instr.sliceAt 38 (.slice A n c) none (some (.int .i64 (k : Int))) none).run Tryz.prog w = .ok (.slice A k c) w := by
  have b1 : (0 : Int) ≤ (k : Int) := by omega
  have b2 : (k : Int) ≤ (c : Int) := by omega
  cases A with
  | none => go_simp
  | some a =>
    obtain ⟨b, o, s⟩ := a
    cases s <;> go_simp
theorem slice_toF2 (A : Option Addr) (n c k : Nat) (hk : k ≤ c) (w : World) : (Instr.slice 38 (.slice A n c) none (some (.int .i64 (k : Int))) none).run Tryz.prog w = .ok (.slice A k c) w := by
  have b1 : (0 : Int) ≤ (k : Int) := by omega
  have b2 : (k : Int) ≤ (c : Int) := by omega
  cases A with
  | none => go_simp
  | some a =>
    obtain ⟨b, o, s⟩ := a
    cases s <;> go_simp
theorem checkSamplesE_many (fs : List Nat) (h : 4096 < fs.length) : checkSamplesE fs = 5 := by
  unfold checkSamplesE atMostE
  rw [if_pos (by omega)]; rfl
theorem checkSamplesE_few (fs : List Nat) (h : ¬ 4096 < fs.length) : checkSamplesE fs = firstInF (partE 10) fs := by
  unfold checkSamplesE atMostE
  rw [if_neg (by omega)]
  simp only [firstE]
  split <;> simp_all

set_option maxHeartbeats 4000000 in
set_option maxRecDepth 100000 in
theorem refCheckSamples_any (A : Option Addr) (n c : Nat) (fs : List Nat) (w : World) (hn : n ≤ 100000) (hnc : n ≤ c) (hz : FlAt w A n fs) :
    Calls Tryz.prog 31 #[.slice A n c] w fun e w' => e = .returned (.int .i64 (checkSamplesE fs)) ∧ Below w.heap.size w w' := by
  by_cases hm : 4096 < n
  · have HE := Lib.hid (checkSamplesE_many fs (by rw [hz.1]; exact hm))
    have HZ : Hid (FlAt w.drew A 4096 (fs.take 4096)) := (hz.keep (Below.refl _ _).drew).cut 4096 (by omega)
    have m1 : min (n : Int) 4096 = 4096 := by omega
    have m2 : decide ((4096 : Int) < (n : Int)) = true := decide_eq_true (by omega)
    have m3 : decide ((n : Int) ≤ 4096) = false := decide_eq_false (by omega)
    have hsl : ∀ w : World, (Instr.sliceAt 38 (.slice A n c) none (some (.int .i64 4096)) none).run Tryz.prog w = .ok (.slice A 4096 c) w := fun w => slice_toF A n c 4096 (by omega) w
    have hsl2 : ∀ w : World, (Instr.slice 38 (.slice A n c) none (some (.int .i64 4096)) none).run Tryz.prog w = .ok (.slice A 4096 c) w := fun w => slice_toF2 A n c 4096 (by omega) w
    clear hz
    rw [HE.out]
    go_enter Tryz.func31, Tryz.ntmps31
    go_upto_region 1 with fail
    go_region_held_law (fun _ => True) (exact trivial)
      (first
        | (go_at_call 79; refine (refWhen_any _ _ _).mono ?_; rintro e w1 ⟨rfl, rfl⟩)
        | (go_at_call 113; refine (refCheckAll_any A 4096 _ (fs.take 4096) _ (by omega) HZ.out).mono ?_; rintro e w2 ⟨rfl, hb1⟩; have G2 := Lib.hid hb1; clear hb1)
        | (go_at_call 47; refine (refFirst2 _ _ 5 0 _ (by go_simp) (by go_simp)).mono ?_; rintro e w3 ⟨rfl, rfl⟩))
    all_goals (
      go_wp2
      go_ret
      exact ⟨rfl, (Below.refl _ w).drew.trans (G2.out.alloc G2.out.size _)⟩)
  · have HE := Lib.hid (checkSamplesE_few fs (by rw [hz.1]; exact hm))
    have HZ : Hid (FlAt w.drew A n fs) := hz.keep (Below.refl _ _).drew
    have m1 : min (n : Int) 4096 = n := by omega
    have m2 : decide ((4096 : Int) < (n : Int)) = false := decide_eq_false (by omega)
    have m3 : decide ((n : Int) ≤ 4096) = true := decide_eq_true (by omega)
    have hsl : ∀ w : World, (Instr.sliceAt 38 (.slice A n c) none (some (.int .i64 (n : Int))) none).run Tryz.prog w = .ok (.slice A n c) w := fun w => slice_toF A n c n hnc w
    have hsl2 : ∀ w : World, (Instr.slice 38 (.slice A n c) none (some (.int .i64 (n : Int))) none).run Tryz.prog w = .ok (.slice A n c) w := fun w => slice_toF2 A n c n hnc w
    clear hz
    rw [HE.out]
    go_enter Tryz.func31, Tryz.ntmps31
    go_upto_region 1 with fail
    go_region_held_law (fun _ => True) (exact trivial)
      (first
        | (go_at_call 79; refine (refWhen_any _ _ _).mono ?_; rintro e w1 ⟨rfl, rfl⟩)
        | (go_at_call 113; refine (refCheckAll_any A n _ fs _ (by omega) HZ.out).mono ?_; rintro e w2 ⟨rfl, hb1⟩; have G2 := Lib.hid hb1; clear hb1)
        | (go_at_call 47; refine (refFirst2 _ _ 0 (firstInF (partE 10) fs) _ (by go_simp) (by go_simp)).mono ?_; rw [first0]; rintro e w3 ⟨rfl, rfl⟩))
    all_goals (
      go_wp2
      go_ret
      exact ⟨rfl, (Below.refl _ w).drew.trans (G2.out.alloc G2.out.size _)⟩)

end Go.Proofs.YtoipafnlcchmbaaGreatDoor
