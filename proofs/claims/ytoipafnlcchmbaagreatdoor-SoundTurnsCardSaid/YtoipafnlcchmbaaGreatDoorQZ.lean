/- Exact arithmetic of floats that hold sixteenths: sums and products, in 64 and in 32 bits. Words of 32 bits that hold sixteenths: sums, products with units, and the turn of complex numbers. Four and Unfour of sixteenths, at any samples. Cross of sixteenths, at any panels. -/
import Derived.Test.YtoipafnlcchmbaaGreatDoorQY
import Derived.Laws.ComplexArith
import Derived.Test.YtoipafnlcchmbaaGreatDoorQJ
import Derived.Test.YtoipafnlcchmbaaGreatDoorQW
import Derived.Test.YtoipafnlcchmbaaGreatDoorQJx
namespace Go.Proofs.YtoipafnlcchmbaaGreatDoor
open Ieee Go

theorem signed_zero (s : Bool) (u : Nat) : signed s 0 u = 0 := by rw [signed_eq]; cases s <;> simp
theorem signed_mul (s t : Bool) (m n a b : Nat) : signed s m a * signed t n b = signed (s ^^ t) (m * n) (a + b) := by
  rw [signed_eq, signed_eq, signed_eq]
  have e : ((m * 2 ^ a : Nat) : Int) * ((n * 2 ^ b : Nat) : Int) = ((m * n * 2 ^ (a + b) : Nat) : Int) := by
    rw [← Int.natCast_mul]
    congr 1
    rw [Nat.pow_add, Nat.mul_mul_mul_comm]
  generalize ((m * 2 ^ a : Nat) : Int) = X at e ⊢
  generalize ((n * 2 ^ b : Nat) : Int) = Y at e ⊢
  generalize ((m * n * 2 ^ (a + b) : Nat) : Int) = Q at e ⊢
  cases s <;> cases t <;> simp [Int.neg_mul, Int.mul_neg, e]
theorem signed_not (s : Bool) (m a : Nat) : signed (!s) m a = -signed s m a := by
  rw [signed_eq, signed_eq]; cases s <;> simp
theorem signed_abs (z : Int) (s : Bool) (h : z ≠ 0 → s = decide (z < 0)) (u : Nat) : signed s z.natAbs u = z * ((2 ^ u : Nat) : Int) := by
  rw [signed_eq]
  by_cases h0 : z = 0
  · subst h0; cases s <;> simp
  · rw [h h0]
    by_cases hn : z < 0
    · rw [decide_eq_true hn]
      simp only [if_true, Int.natCast_mul]
      rw [show (z.natAbs : Int) = -z by omega, Int.neg_mul, Int.neg_neg]
    · rw [decide_eq_false hn]
      simp only [Bool.false_eq_true, if_false, Int.natCast_mul]
      rw [show (z.natAbs : Int) = z by omega]
theorem pow_ne (q : Nat) : ((2 ^ q : Nat) : Int) ≠ 0 := by have := Nat.two_pow_pos q; omega
/-- What a signed number tells of its magnitude and its sign. -/
theorem signed_inv {s : Bool} {m a q : Nat} {v : Int} (h : signed s m a = v * ((2 ^ q : Nat) : Int)) : m * 2 ^ a = v.natAbs * 2 ^ q ∧ (v ≠ 0 → s = decide (v < 0)) := by
  rw [signed_eq] at h
  have hp := Nat.two_pow_pos q
  have hq : (v * ((2 ^ q : Nat) : Int)).natAbs = v.natAbs * 2 ^ q := by rw [Int.natAbs_mul, Int.natAbs_natCast]
  constructor
  · rw [← hq, ← h]
    cases s
    · simp only [Bool.false_eq_true, if_false, Int.natAbs_natCast]
    · simp only [if_true, Int.natAbs_neg, Int.natAbs_natCast]
  · intro h0
    cases s
    · simp only [Bool.false_eq_true, if_false] at h
      have : 0 ≤ v * ((2 ^ q : Nat) : Int) := by rw [← h]; exact Int.natCast_nonneg _
      have hv : 0 ≤ v := Int.nonneg_of_mul_nonneg_left this (by omega)
      simp; omega
    · simp only [if_true] at h
      have h1 : v * ((2 ^ q : Nat) : Int) ≤ 0 := by rw [← h]; have := Int.natCast_nonneg (m * 2 ^ a); omega
      have hv : v ≤ 0 := Classical.byContradiction fun hv => by
        have := Int.mul_pos (show 0 < v by omega) (show (0 : Int) < ((2 ^ q : Nat) : Int) by omega)
        omega
      simp; omega

/-- A word of 64 bits that holds v times 2 to the power of q less 1074. -/
def D (q : Nat) (y : Nat) (v : Int) : Prop := ∃ s m e, double.read y = .number s m e ∧ m < 2 ^ 53 ∧ -1074 ≤ e ∧ signed s m (e + 1074).toNat = v * ((2 ^ q : Nat) : Int)

theorem D_write (s : Bool) (m : Nat) (e : Int) (q : Nat) (v : Int) (he : -1074 ≤ e ∨ m = 0) (hv : signed s m (e + 1074).toNat = v * ((2 ^ q : Nat) : Int)) (hb : v.natAbs < 2 ^ 53) (hq : q ≤ 1900) : D q (double.nearest s m e) v := by
  by_cases h0 : m = 0
  · subst h0
    rw [signed_zero] at hv
    have hv0 : v = 0 := by
      rcases Int.mul_eq_zero.1 hv.symm with h | h
      · exact h
      · exact absurd h (pow_ne q)
    refine ⟨s, 0, -1074, by rw [nearest_zero, read_zero], by decide, by omega, ?_⟩
    rw [signed_zero, hv0]; simp
  · have he' : -1074 ≤ e := by rcases he with h | h; exact h; exact absurd h h0
    obtain ⟨h1, h2⟩ := signed_inv hv
    obtain ⟨a, ha⟩ : ∃ a : Nat, e = (a : Int) - 1074 := ⟨(e + 1074).toNat, by omega⟩
    subst ha
    rw [show ((a : Int) - 1074 + 1074).toNat = a by omega] at h1
    obtain ⟨K, hK⟩ : ∃ K, K = v.natAbs := ⟨_, rfl⟩
    rw [← hK] at h1 hb
    have pa := Nat.two_pow_pos a
    have pq := Nat.two_pow_pos q
    have hK0 : K ≠ 0 := by
      rintro rfl
      rw [Nat.zero_mul] at h1
      have := Nat.mul_pos (Nat.pos_of_ne_zero h0) pa
      omega
    have hs : s = decide (v < 0) := h2 (by omega)
    have hn : double.nearest s m ((a : Int) - 1074) = double.nearest s K ((q : Int) - 1074) := by
      by_cases hqa : q ≤ a
      · have e1 : m * 2 ^ (a - q) = K := by
          have : m * 2 ^ (a - q) * 2 ^ q = K * 2 ^ q := by rw [Nat.mul_assoc, ← Nat.pow_add, show a - q + q = a by omega]; exact h1
          exact Nat.eq_of_mul_eq_mul_right pq this
        have hm : m < 2 ^ 53 := by
          have := Nat.mul_le_mul_left m (Nat.two_pow_pos (a - q))
          omega
        have := nearest_shl s m (a - q) ((a : Int) - 1074) h0 hm (by omega)
        rw [← this, e1]
        congr 1
        omega
      · have e1 : m = K * 2 ^ (q - a) := by
          have : m * 2 ^ a = K * 2 ^ (q - a) * 2 ^ a := by rw [Nat.mul_assoc, ← Nat.pow_add, show q - a + a = q by omega]; exact h1
          exact Nat.eq_of_mul_eq_mul_right pa this
        have := nearest_shl s K (q - a) ((q : Int) - 1074) hK0 hb (by omega)
        rw [← this, e1]
        congr 1
        omega
    rw [hn]
    obtain ⟨k1, k2, k3, k4, _⟩ := kept_bd K ((q : Int) - 1074) hK0 hb (by omega)
    refine ⟨s, _, _, read_nearest s K ((q : Int) - 1074) hK0 hb (by omega) (by omega), k4, k3, ?_⟩
    obtain ⟨l, hl⟩ : ∃ l : Nat, lastP K ((q : Int) - 1074) = (l : Int) - 1074 := ⟨(lastP K ((q : Int) - 1074) + 1074).toNat, by omega⟩
    rw [hl] at k1 ⊢
    rw [show ((q : Int) - 1074 - ((l : Int) - 1074)).toNat = q - l by omega, show ((l : Int) - 1074 + 1074).toNat = l by omega, Nat.shiftLeft_eq, signed_eq, hs]
    have e2 : K * 2 ^ (q - l) * 2 ^ l = K * 2 ^ q := by rw [Nat.mul_assoc, ← Nat.pow_add, show q - l + l = q by omega]
    rw [e2, Int.natCast_mul]
    by_cases hv0 : v < 0
    · rw [decide_eq_true hv0]
      simp only [if_true]
      rw [show (K : Int) = -v by omega, Int.neg_mul, Int.neg_neg]
    · rw [decide_eq_false hv0]
      simp only [Bool.false_eq_true, if_false]
      rw [show (K : Int) = v by omega]

theorem D_place {q m a : Nat} {v : Int} {s : Bool} (hm : m < 2 ^ 53) (h : signed s m a = v * ((2 ^ q : Nat) : Int)) (h0 : m ≠ 0) : q < a + 53 := by
  obtain ⟨h1, _⟩ := signed_inv h
  have pa := Nat.two_pow_pos a
  have hv : 0 < v.natAbs := Nat.pos_of_ne_zero fun hv => by
    rw [hv, Nat.zero_mul] at h1
    have := Nat.mul_pos (Nat.pos_of_ne_zero h0) pa
    omega
  have h2 : 2 ^ q ≤ m * 2 ^ a := by rw [h1]; exact Nat.le_mul_of_pos_left _ hv
  have h3 : m * 2 ^ a < 2 ^ 53 * 2 ^ a := Nat.mul_lt_mul_of_pos_right hm pa
  rw [← Nat.pow_add] at h3
  have h4 := Nat.lt_of_le_of_lt h2 h3
  have := (Nat.pow_lt_pow_iff_right (a := 2) (by omega)).1 h4
  omega
theorem D_mul {q1 q2 y z : Nat} {a b : Int} (hy : D q1 y a) (hz : D q2 z b) (h1 : 1000 ≤ q1) (h2 : 1000 ≤ q2) (h3 : q1 + q2 - 1074 ≤ 1900) (hb : (a * b).natAbs < 2 ^ 53) :
    ∃ w, floatBits .mul .f64 y z = some w ∧ D (q1 + q2 - 1074) w (a * b) := by
  obtain ⟨s, m, i, hr, hm, hi, hv⟩ := hy
  obtain ⟨t, n, j, hr2, hn, hj, hv2⟩ := hz
  refine ⟨double.nearest (s ^^ t) (m * n) (i + j), ?_, ?_⟩
  · show double.mul y z = _
    unfold Format.mul
    rw [hr, hr2]; rfl
  · obtain ⟨A, hA⟩ : ∃ A : Nat, i = (A : Int) - 1074 := ⟨(i + 1074).toNat, by omega⟩
    obtain ⟨B, hB⟩ : ∃ B : Nat, j = (B : Int) - 1074 := ⟨(j + 1074).toNat, by omega⟩
    subst hA hB
    rw [show ((A : Int) - 1074 + 1074).toNat = A by omega] at hv
    rw [show ((B : Int) - 1074 + 1074).toNat = B by omega] at hv2
    by_cases hz0 : m * n = 0
    · refine D_write _ _ _ _ _ (Or.inr hz0) ?_ hb h3
      rw [hz0, signed_zero]
      have : a * b = 0 := by
        rcases Nat.mul_eq_zero.1 hz0 with h | h
        · rw [h, signed_zero] at hv
          rcases Int.mul_eq_zero.1 hv.symm with h | h
          · rw [h]; simp
          · exact absurd h (pow_ne q1)
        · rw [h, signed_zero] at hv2
          rcases Int.mul_eq_zero.1 hv2.symm with h | h
          · rw [h]; simp
          · exact absurd h (pow_ne q2)
      rw [this]; simp
    · have hm0 : m ≠ 0 := fun h => hz0 (by rw [h, Nat.zero_mul])
      have hn0 : n ≠ 0 := fun h => hz0 (by rw [h, Nat.mul_zero])
      have pA := D_place hm hv hm0
      have pB := D_place hn hv2 hn0
      obtain ⟨N, hN⟩ : ∃ N : Nat, N = 1074 := ⟨_, rfl⟩
      obtain ⟨C, hC⟩ : ∃ C : Nat, A + B = C + N := ⟨A + B - N, by omega⟩
      obtain ⟨q, hq⟩ : ∃ q : Nat, q1 + q2 = q + N := ⟨q1 + q2 - N, by omega⟩
      refine D_write _ _ _ _ _ (Or.inl (by omega)) ?_ hb h3
      rw [show ((A : Int) - 1074 + ((B : Int) - 1074) + 1074).toNat = C by omega, show q1 + q2 - 1074 = q by omega]
      have e1 := signed_mul s t m n A B
      rw [hC, signed_add, hv, hv2] at e1
      have e2 : a * ((2 ^ q1 : Nat) : Int) * (b * ((2 ^ q2 : Nat) : Int)) = a * b * ((2 ^ q : Nat) : Int) * ((2 ^ N : Nat) : Int) := by
        rw [Int.mul_assoc (a * b), ← Int.natCast_mul, ← Nat.pow_add, ← hq, Nat.pow_add, Int.natCast_mul]
        rw [Int.mul_assoc, Int.mul_assoc, Int.mul_left_comm ((2 ^ q1 : Nat) : Int) b]
      rw [e2] at e1
      exact (Int.eq_of_mul_eq_mul_right (pow_ne N) e1).symm
theorem D_sum {q : Nat} {y z : Nat} {a b : Int} (hy : D q y a) (hz : D q z b) (hb : (a + b).natAbs < 2 ^ 53) (hq : q ≤ 1900) :
    ∃ w, floatBits .add .f64 y z = some w ∧ D q w (a + b) := by
  obtain ⟨s, m, i, hr, hm, hi, hv⟩ := hy
  obtain ⟨t, n, j, hr2, hn, hj, hv2⟩ := hz
  obtain ⟨T, hT⟩ : ∃ T, T = signed s m (i - min i j).toNat + signed t n (j - min i j).toNat := ⟨_, rfl⟩
  refine ⟨double.nearest (if T = 0 then s && t else decide (T < 0)) T.natAbs (min i j), ?_, ?_⟩
  · show double.add y z = _
    unfold Format.add
    rw [hr, hr2, hT]; rfl
  · refine D_write _ _ _ _ _ (Or.inl (by omega)) ?_ hb hq
    rw [signed_abs T _ (fun h => by rw [if_neg h])]
    have e1 : signed s m (i + 1074).toNat = signed s m (i - min i j).toNat * ((2 ^ (min i j + 1074).toNat : Nat) : Int) := by rw [← signed_add]; congr 1; omega
    have e2 : signed t n (j + 1074).toNat = signed t n (j - min i j).toNat * ((2 ^ (min i j + 1074).toNat : Nat) : Int) := by rw [← signed_add]; congr 1; omega
    rw [hT, Int.add_mul, ← e1, ← e2, hv, hv2, ← Int.add_mul]
theorem D_diff {q : Nat} {y z : Nat} {a b : Int} (hy : D q y a) (hz : D q z b) (hb : (a - b).natAbs < 2 ^ 53) (hq : q ≤ 1900) :
    ∃ w, floatBits .sub .f64 y z = some w ∧ D q w (a - b) := by
  obtain ⟨s, m, i, hr, hm, hi, hv⟩ := hy
  obtain ⟨t, n, j, hr2, hn, hj, hv2⟩ := hz
  obtain ⟨T, hT⟩ : ∃ T, T = signed s m (i - min i j).toNat + signed (!t) n (j - min i j).toNat := ⟨_, rfl⟩
  refine ⟨double.nearest (if T = 0 then s && !t else decide (T < 0)) T.natAbs (min i j), ?_, ?_⟩
  · show double.sub y z = _
    unfold Format.sub
    rw [hr, hr2, hT]; rfl
  · refine D_write _ _ _ _ _ (Or.inl (by omega)) ?_ hb hq
    rw [signed_abs T _ (fun h => by rw [if_neg h])]
    have e1 : signed s m (i + 1074).toNat = signed s m (i - min i j).toNat * ((2 ^ (min i j + 1074).toNat : Nat) : Int) := by rw [← signed_add]; congr 1; omega
    have e2 : signed t n (j + 1074).toNat = signed t n (j - min i j).toNat * ((2 ^ (min i j + 1074).toNat : Nat) : Int) := by rw [← signed_add]; congr 1; omega
    rw [hT, Int.add_mul, signed_not, Int.neg_mul, ← e1, ← e2, hv, hv2, Int.sub_mul, Int.sub_eq_add_neg]
theorem D_shift {q y : Nat} {v : Int} (d : Nat) (h : D q y (v * ((2 ^ d : Nat) : Int))) : D (q + d) y v := by
  obtain ⟨s, m, e, h1, h2, h3, h4⟩ := h
  refine ⟨s, m, e, h1, h2, h3, ?_⟩
  rw [h4, Int.mul_assoc, ← Int.natCast_mul, ← Nat.pow_add, Nat.add_comm d q]
end Go.Proofs.YtoipafnlcchmbaaGreatDoor
namespace Go.Proofs.YtoipafnlcchmbaaGreatDoor
open Ieee Go

theorem logN (k : Nat) (h : k ≤ 1048576) : k.log2 ≤ 20 := by
  by_cases h0 : k = 0
  · subst h0; decide
  · have := (Nat.log2_lt h0).2 (show k < 2 ^ 21 by omega)
    omega
theorem rungN (k c : Nat) (h0 : k ≠ 0) (h : k ≤ 1048576) (hc : 23 ≤ c) (hc2 : c ≤ 200) : k * 2 ^ c % 2 ^ lowOf (k * 2 ^ c) = 0 ∧ rungOf (k * 2 ^ c) < 2139095040 := by
  have hl := logN k h
  have e1 : k * 2 ^ c = k * 2 ^ (23 - k.log2) * 2 ^ (k.log2 + c - 23) := by rw [Nat.mul_assoc, ← Nat.pow_add]; congr 2; omega
  have hlo := Nat.log2_self_le h0
  have hhi : k < 2 ^ (k.log2 + 1) := Nat.lt_log2_self
  have p := Nat.two_pow_pos (23 - k.log2)
  have a1 : 8388608 ≤ k * 2 ^ (23 - k.log2) := by
    calc 8388608 = 2 ^ k.log2 * 2 ^ (23 - k.log2) := by rw [← Nat.pow_add, show k.log2 + (23 - k.log2) = 23 by omega]
      _ ≤ _ := Nat.mul_le_mul_right _ hlo
  have a2 : k * 2 ^ (23 - k.log2) < 16777216 := by
    calc _ < 2 ^ (k.log2 + 1) * 2 ^ (23 - k.log2) := Nat.mul_lt_mul_of_pos_right hhi p
      _ = 16777216 := by rw [← Nat.pow_add, show k.log2 + 1 + (23 - k.log2) = 24 by omega]
  refine ⟨?_, ?_⟩
  · rw [lowK k c h0, e1, Nat.mul_mod_left]
  · rw [e1, rungOf_shl _ _ a1 a2]; omega
theorem readN (s : Bool) (k : Nat) (h : k ≤ 1048576) : ∃ m e, single.read (bitsK s k) = .number s m e ∧ m * 2 ^ (e + 149).toNat = k * 2 ^ 145 ∧ m < 2 ^ 24 ∧ -149 ≤ e ∧ e ≤ 104 := by
  obtain ⟨m, e, hr, hb, he⟩ : ∃ m e, single.read (bitsK s k) = .number s m e ∧ m * 2 ^ (e + 149).toNat = k * 2 ^ 145 ∧ -149 ≤ e := by
    by_cases h0 : k = 0
    · subst h0
      exact ⟨0, -149, by cases s <;> decide, by decide, by omega⟩
    · obtain ⟨hd, hlt⟩ := rungN k 145 h0 h (by omega) (by omega)
      obtain ⟨m, e, a, b, c, _⟩ := rungOf_read s (k * 2 ^ 145) hlt hd
      exact ⟨m, e, a, b, c⟩
  rcases single_cases (bitsK s k) with ⟨s', m', e', hr', h1, h2, h3⟩ | ⟨s', hr'⟩ | ⟨s', t, hr'⟩
  · rw [hr] at hr'
    simp only [Datum.number.injEq] at hr'
    obtain ⟨rfl, rfl, rfl⟩ := hr'
    exact ⟨m, e, hr, hb, h1, h2, h3⟩
  · rw [hr] at hr'; cases hr'
  · rw [hr] at hr'; cases hr'

/-- A word of 32 bits that holds v sixteenths. -/
def S (x : Nat) (v : Int) : Prop := ∃ s, x = bitsK s v.natAbs ∧ (v ≠ 0 → s = decide (v < 0))
theorem S.read {x : Nat} {v : Int} (h : S x v) (hb : v.natAbs ≤ 1048576) : ∃ s m e, single.read x = .number s m e ∧ m < 2 ^ 24 ∧ -149 ≤ e ∧ e ≤ 104 ∧ signed s m (e + 149).toNat = v * ((2 ^ 145 : Nat) : Int) := by
  obtain ⟨s, rfl, hs⟩ := h
  obtain ⟨m, e, h1, h2, h3, h4, h5⟩ := readN s v.natAbs hb
  refine ⟨s, m, e, h1, h3, h4, h5, ?_⟩
  rw [← signed_abs v s hs 145, signed_eq, signed_eq, h2]
theorem S.wide {x : Nat} {v : Int} (h : S x v) (hb : v.natAbs ≤ 1048576) : ∃ y, floatToFloatBits .f32 x .f64 = some y ∧ D 1070 y v := by
  obtain ⟨s, m, e, h1, h2, h3, h4, h5⟩ := h.read hb
  obtain ⟨y, m1, e1, g1, g2, g3, g4, _, g6, _⟩ := wide_facts h1 h2 h3 h4
  refine ⟨y, g1, s, m1, e1, g2, g3, g4, ?_⟩
  have e2 : signed s m1 (e1 + 1074).toNat = signed s m (e + 1074).toNat := by rw [signed_eq, signed_eq, g6]
  obtain ⟨N, hN⟩ : ∃ N : Nat, N = 925 := ⟨_, rfl⟩
  rw [e2, show (e + 1074).toNat = (e + 149).toNat + N by omega, signed_add, h5, Int.mul_assoc, ← Int.natCast_mul, ← Nat.pow_add, show 145 + N = 1070 by omega]
theorem S.nearest (s : Bool) (m : Nat) (e : Int) (v : Int) (he : -149 ≤ e ∨ m = 0) (hv : signed s m (e + 149).toNat = v * ((2 ^ 145 : Nat) : Int)) (hb : v.natAbs ≤ 1048576) : S (single.nearest s m e) v := by
  by_cases h0 : m = 0
  · subst h0
    rw [signed_zero] at hv
    have hv0 : v = 0 := by
      rcases Int.mul_eq_zero.1 hv.symm with h | h
      · exact h
      · exact absurd h (pow_ne 145)
    subst hv0
    exact ⟨s, by rw [kept_zero]; rfl, fun h => absurd rfl h⟩
  · have he' : -149 ≤ e := by rcases he with h | h; exact h; exact absurd h h0
    obtain ⟨h1, h2⟩ := signed_inv hv
    refine ⟨s, ?_, h2⟩
    have hk0 : v.natAbs ≠ 0 := fun h => by
      rw [h, Nat.zero_mul] at h1
      have := Nat.mul_pos (Nat.pos_of_ne_zero h0) (Nat.two_pow_pos (e + 149).toNat)
      omega
    obtain ⟨hd, hr⟩ := rungN v.natAbs 145 hk0 hb (by omega) (by omega)
    exact nearest_rung s m (v.natAbs * 2 ^ 145) e h0 he' h1.symm hd hr
theorem D.narrow {y : Nat} {v : Int} (h : D 1070 y v) (hb : v.natAbs ≤ 1048576) : ∃ x, floatToFloatBits .f64 y .f32 = some x ∧ S x v := by
  obtain ⟨s, m, e, h1, h2, h3, h4⟩ := h
  have hS : S (single.nearest s m e) v := by
    by_cases h0 : m = 0
    · refine S.nearest s m e v (Or.inr h0) ?_ hb
      rw [h0, signed_zero] at h4 ⊢
      rcases Int.mul_eq_zero.1 h4.symm with h | h
      · rw [h]; simp
      · exact absurd h (pow_ne 1070)
    · have hp := D_place h2 h4 h0
      obtain ⟨N, hN⟩ : ∃ N : Nat, N = 925 := ⟨_, rfl⟩
      refine S.nearest s m e v (Or.inl (by omega)) ?_ hb
      rw [show (e + 1074).toNat = (e + 149).toNat + N by omega, signed_add, show 1070 = 145 + N by omega, Nat.pow_add, Int.natCast_mul, ← Int.mul_assoc] at h4
      exact Int.eq_of_mul_eq_mul_right (pow_ne N) h4
  refine ⟨_, ?_, hS⟩
  obtain ⟨s', m', e', hr, _⟩ := hS.read hb
  unfold floatToFloatBits
  rw [if_neg (by decide)]
  have e1 : FloatKind.f64.decode y = .number s m e := h1
  rw [e1]
  have e3 : FloatKind.f32.decode (FloatKind.f32.encode (.number s m e)) = .number s' m' e' := hr
  simp only
  rw [e3]
  rfl
theorem S.add {x y : Nat} {a b : Int} (hx : S x a) (hy : S y b) (ha : a.natAbs ≤ 1048576) (hb : b.natAbs ≤ 1048576) (hc : (a + b).natAbs ≤ 1048576) : ∃ r, floatBits .add .f32 x y = some r ∧ S r (a + b) := by
  obtain ⟨s, m, i, hr, hm, hi, _, hv⟩ := hx.read ha
  obtain ⟨t, n, j, hr2, hn, hj, _, hv2⟩ := hy.read hb
  obtain ⟨T, hT⟩ : ∃ T, T = signed s m (i - min i j).toNat + signed t n (j - min i j).toNat := ⟨_, rfl⟩
  refine ⟨single.nearest (if T = 0 then s && t else decide (T < 0)) T.natAbs (min i j), ?_, ?_⟩
  · show single.add x y = _
    unfold Format.add
    rw [hr, hr2, hT]; rfl
  · refine S.nearest _ _ _ _ (Or.inl (by omega)) ?_ hc
    rw [signed_abs T _ (fun h => by rw [if_neg h])]
    have e1 : signed s m (i + 149).toNat = signed s m (i - min i j).toNat * ((2 ^ (min i j + 149).toNat : Nat) : Int) := by rw [← signed_add]; congr 1; omega
    have e2 : signed t n (j + 149).toNat = signed t n (j - min i j).toNat * ((2 ^ (min i j + 149).toNat : Nat) : Int) := by rw [← signed_add]; congr 1; omega
    rw [hT, Int.add_mul, ← e1, ← e2, hv, hv2, ← Int.add_mul]
theorem S.zero : S 0 0 := ⟨false, by decide, fun h => absurd rfl h⟩
theorem S.one : S 1065353216 16 := ⟨false, by decide, fun _ => rfl⟩
theorem S.minus : S 3212836864 (-16) := ⟨true, by decide, fun _ => rfl⟩

theorem mulC_of {x1 x2 u1 u2 y1 y2 v1 v2 ac bd ad bc re im r1 r2 : Nat} (c1 : floatToFloatBits .f32 x1 .f64 = some y1) (c2 : floatToFloatBits .f32 x2 .f64 = some y2) (c3 : floatToFloatBits .f32 u1 .f64 = some v1) (c4 : floatToFloatBits .f32 u2 .f64 = some v2)
    (h1 : floatBits .mul .f64 y1 v1 = some ac) (h2 : floatBits .mul .f64 y2 v2 = some bd) (h3 : floatBits .sub .f64 ac bd = some re) (h4 : floatBits .mul .f64 y1 v2 = some ad) (h5 : floatBits .mul .f64 y2 v1 = some bc) (h6 : floatBits .add .f64 ad bc = some im)
    (n1 : floatToFloatBits .f64 re .f32 = some r1) (n2 : floatToFloatBits .f64 im .f32 = some r2) : MulC (x1, x2) (u1, u2) (r1, r2) := by
  intro w
  simp [binOp, Op.complexOp, Op.Complex.conv, Op.Complex.product, Op.Complex.mul, Op.Complex.sub, Op.Complex.add, run_carith w h1, run_carith w h2, run_carith w h3, run_carith w h4, run_carith w h5, run_carith w h6, run_floatToFloat w c1, run_floatToFloat w c2, run_floatToFloat w c3, run_floatToFloat w c4, run_floatToFloat w n1, run_floatToFloat w n2]
theorem natAbs_le {a c : Int} {m n : Nat} (h1 : a.natAbs ≤ m) (h2 : c.natAbs ≤ n) : (a * c).natAbs ≤ m * n := by rw [Int.natAbs_mul]; exact Nat.mul_le_mul h1 h2
theorem D_unit {y v : Nat} {a c : Int} (hy : D 1070 y a) (hv : D 1070 v (16 * c)) (ha : a.natAbs ≤ 200000) (hc : c.natAbs ≤ 1) : ∃ w, floatBits .mul .f64 y v = some w ∧ D 1070 w (a * c) := by
  have hb : (a * (16 * c)).natAbs < 2 ^ 53 := by
    have := natAbs_le ha (show (16 * c).natAbs ≤ 16 by omega)
    omega
  obtain ⟨w, h1, h2⟩ := D_mul hy hv (by omega) (by omega) (by omega) hb
  refine ⟨w, h1, ?_⟩
  have e : a * (16 * c) = a * c * ((2 ^ 4 : Nat) : Int) := by rw [show ((2 ^ 4 : Nat) : Int) = 16 from rfl, Int.mul_left_comm, Int.mul_comm 16]
  rw [e] at h2
  exact D_shift 4 h2
theorem mulC_S {x1 x2 u1 u2 : Nat} {a b c d : Int} (h1 : S x1 a) (h2 : S x2 b) (h3 : S u1 (16 * c)) (h4 : S u2 (16 * d)) (b1 : a.natAbs ≤ 200000) (b2 : b.natAbs ≤ 200000) (b3 : c.natAbs ≤ 1) (b4 : d.natAbs ≤ 1) :
    ∃ r : Nat × Nat, MulC (x1, x2) (u1, u2) r ∧ S r.1 (a * c - b * d) ∧ S r.2 (a * d + b * c) := by
  obtain ⟨y1, c1, d1⟩ := h1.wide (by omega)
  obtain ⟨y2, c2, d2⟩ := h2.wide (by omega)
  obtain ⟨v1, c3, d3⟩ := h3.wide (by omega)
  obtain ⟨v2, c4, d4⟩ := h4.wide (by omega)
  obtain ⟨ac, m1, e1⟩ := D_unit d1 d3 b1 b3
  obtain ⟨bd, m2, e2⟩ := D_unit d2 d4 b2 b4
  obtain ⟨ad, m3, e3⟩ := D_unit d1 d4 b1 b4
  obtain ⟨bc, m4, e4⟩ := D_unit d2 d3 b2 b3
  have k1 := natAbs_le b1 b3
  have k2 := natAbs_le b2 b4
  have k3 := natAbs_le b1 b4
  have k4 := natAbs_le b2 b3
  obtain ⟨re, m5, e5⟩ := D_diff e1 e2 (by omega) (by omega)
  obtain ⟨im, m6, e6⟩ := D_sum e3 e4 (by omega) (by omega)
  obtain ⟨r1, n1, s1⟩ := e5.narrow (by omega)
  obtain ⟨r2, n2, s2⟩ := e6.narrow (by omega)
  exact ⟨(r1, r2), mulC_of c1 c2 c3 c4 m1 m2 m5 m3 m4 m6 n1 n2, s1, s2⟩
theorem addC_S {x y : Nat × Nat} {a b c d : Int} (h1 : S x.1 a) (h2 : S x.2 b) (h3 : S y.1 c) (h4 : S y.2 d) (b1 : a.natAbs ≤ 200000) (b2 : b.natAbs ≤ 200000) (b3 : c.natAbs ≤ 200000) (b4 : d.natAbs ≤ 200000) :
    ∃ r : Nat × Nat, AddC x y r ∧ S r.1 (a + c) ∧ S r.2 (b + d) := by
  obtain ⟨r1, m1, s1⟩ := h1.add h3 (by omega) (by omega) (by omega)
  obtain ⟨r2, m2, s2⟩ := h2.add h4 (by omega) (by omega) (by omega)
  refine ⟨(r1, r2), fun w => ?_, s1, s2⟩
  exact run_complex_sum w .add (Or.inl rfl) _ .f32 _ _ _ _ _ _ (by unfold cSumBits; rw [m1, m2]; rfl)
end Go.Proofs.YtoipafnlcchmbaaGreatDoor
namespace Go.Proofs.YtoipafnlcchmbaaGreatDoor
open Go.RowKit Ieee

theorem good_of {c l nl p q b : Nat} (L : Lims c l nl p q) (hng : Op.negFloat .f32 l = nl) (h : partE c b = 0) : Good l b := by
  intro w
  rcases single_cases b with ⟨s, m, e, hr, h1, h2, h3⟩ | ⟨s, hr⟩ | ⟨s, t, hr⟩
  · obtain ⟨y, z, m2, e2, N⟩ := num_facts hr h1 h2 h3
    obtain ⟨a, ha, hi⟩ := N.inf
    rw [partE_number hr] at h
    by_cases hout : 2 ^ (c + 149) < bigM m e
    · rw [if_pos hout] at h; cases h
    · rw [if_neg hout] at h
      have hmod : 16 * bigM m e % 2 ^ 149 = 0 := Classical.byContradiction fun hm => by rw [if_neg hm] at h; cases h
      obtain ⟨b1, b2⟩ := in32 L hr h2
      rw [decide_eq_false hout, Bool.and_false] at b1 b2
      obtain ⟨t, n, ht, hz, _, _⟩ := N.whole L.c hout
      rw [decide_eq_true hmod] at hz
      refine ⟨finite_of b y a w N.wide N.self ha hi, stepped_of b l nl y z t w N.wide N.mul hng b1 b2 (fun w => ?_) hz⟩
      have e1 : FloatKind.f64.decode z = .number s m2 e2 := N.readz
      rw [e1] at ht
      rw [toIntegral_of, e1]
      simp [ht]
  · rw [partE_none (fun _ _ _ h' => by rw [hr] at h'; cases h')] at h; cases h
  · rw [partE_none (fun _ _ _ h' => by rw [hr] at h'; cases h')] at h; cases h
theorem S.part {x : Nat} {v : Int} (h : S x v) (c : Nat) (hc : c ≤ 16) (hb : v.natAbs ≤ 2 ^ (c + 4)) : partE c x = 0 := by
  have hb2 : v.natAbs ≤ 1048576 := Nat.le_trans hb (by
    have := Nat.pow_le_pow_right (n := 2) (by omega) (show c + 4 ≤ 20 by omega)
    omega)
  obtain ⟨s, rfl, hs⟩ := h
  obtain ⟨m, e, h1, h2, h3, h4, h5⟩ := readN s v.natAbs hb2
  have hbig : bigM m e = v.natAbs * 2 ^ 145 := h2
  rw [partE_number h1, hbig, if_neg, if_pos]
  · have e1 : (2 : Nat) ^ 149 = 16 * 2 ^ 145 := by decide
    rw [e1, Nat.mul_mod_mul_left, Nat.mul_mod_left]
  · rw [show c + 149 = c + 4 + 145 by omega, Nat.pow_add]
    exact Nat.not_lt.2 (Nat.mul_le_mul_right _ hb)
theorem S.good {x : Nat} {v : Int} (h : S x v) (hb : v.natAbs ≤ 16384) : Good 1149239296 x := good_of lims10 (by kernel_rfl) (h.part 10 (by omega) hb)
theorem S.good4 {x : Nat} {v : Int} (h : S x v) (hb : v.natAbs ≤ 65536) : Good 1166016512 x := good_of lims12 (by kernel_rfl) (h.part 12 (by omega) hb)

/-- Products of complex integers; units. -/
def gm (p q : Int × Int) : Int × Int := (p.1 * q.1 - p.2 * q.2, p.1 * q.2 + p.2 * q.1)
def IsU (q : Int × Int) : Prop := q = (1, 0) ∨ q = (-1, 0) ∨ q = (0, 1) ∨ q = (0, -1)
theorem IsU.mul {p q : Int × Int} (hp : IsU p) (hq : IsU q) : IsU (gm p q) := by
  rcases hp with rfl | rfl | rfl | rfl <;> rcases hq with rfl | rfl | rfl | rfl <;> (unfold IsU; decide)
theorem IsU.bd {q : Int × Int} (h : IsU q) : q.1.natAbs ≤ 1 ∧ q.2.natAbs ≤ 1 := by
  rcases h with rfl | rfl | rfl | rfl <;> decide
def U (x : Nat × Nat) (q : Int × Int) : Prop := S x.1 (16 * q.1) ∧ S x.2 (16 * q.2)
def Z (x : Nat × Nat) (p : Int × Int) : Prop := S x.1 p.1 ∧ S x.2 p.2
theorem Z.mul {x u : Nat × Nat} {p q : Int × Int} (hx : Z x p) (hu : U u q) (hq : IsU q) (b1 : p.1.natAbs ≤ 200000) (b2 : p.2.natAbs ≤ 200000) : ∃ r, MulC x u r ∧ Z r (gm p q) := by
  obtain ⟨c1, c2⟩ := hq.bd
  obtain ⟨r, h1, h2, h3⟩ := mulC_S hx.1 hx.2 hu.1 hu.2 b1 b2 c1 c2
  exact ⟨r, h1, h2, h3⟩
theorem U.mul {x u : Nat × Nat} {p q : Int × Int} (hx : U x p) (hu : U u q) (hp : IsU p) (hq : IsU q) : ∃ r, MulC x u r ∧ U r (gm p q) := by
  obtain ⟨c1, c2⟩ := hp.bd
  obtain ⟨r, h1, h2, h3⟩ := Z.mul (p := (16 * p.1, 16 * p.2)) hx hu hq (by show (16 * p.1).natAbs ≤ _; omega) (by show (16 * p.2).natAbs ≤ _; omega)
  refine ⟨r, h1, ?_, ?_⟩
  · have e : 16 * (gm p q).1 = (gm (16 * p.1, 16 * p.2) q).1 := by simp only [gm]; rw [Int.mul_sub, Int.mul_assoc, Int.mul_assoc]
    rw [e]; exact h2
  · have e : 16 * (gm p q).2 = (gm (16 * p.1, 16 * p.2) q).2 := by simp only [gm]; rw [Int.mul_add, Int.mul_assoc, Int.mul_assoc]
    rw [e]; exact h3
theorem dep_seq {α : Type} (P : Nat → α → Prop) (R : Nat → α → α → Prop) (a0 : α) (h0 : P 0 a0) (hs : ∀ n a, P n a → ∃ b, R n a b ∧ P (n + 1) b) : ∃ s : Nat → α, s 0 = a0 ∧ ∀ n, P n (s n) ∧ R n (s n) (s (n + 1)) := by
  let f : (n : Nat) → {a // P n a} := fun n => Nat.rec ⟨a0, h0⟩ (fun n a => ⟨Classical.choose (hs n a.1 a.2), (Classical.choose_spec (hs n a.1 a.2)).2⟩) n
  exact ⟨fun n => (f n).1, rfl, fun n => ⟨(f n).2, (Classical.choose_spec (hs n (f n).1 (f n).2)).1⟩⟩
def gpow (q : Int × Int) : Nat → Int × Int
  | 0 => (1, 0)
  | n + 1 => gm (gpow q n) q
theorem gpow_unit {q : Int × Int} (hq : IsU q) : ∀ n, IsU (gpow q n)
  | 0 => .inl rfl
  | n + 1 => (gpow_unit hq n).mul hq
theorem U.one : U (1065353216, 0) (1, 0) := ⟨S.one, S.zero⟩
theorem U.pows {u : Nat × Nat} {q : Int × Int} (hu : U u q) (hq : IsU q) : ∃ s : Nat → Nat × Nat, s 0 = (1065353216, 0) ∧ ∀ n, U (s n) (gpow q n) ∧ MulC (s n) u (s (n + 1)) :=
  dep_seq (fun n a => U a (gpow q n)) (fun _ a b => MulC a u b) (1065353216, 0) U.one (fun n a ha => by
    obtain ⟨r, h1, h2⟩ := ha.mul hu (gpow_unit hq n) hq
    exact ⟨r, h1, h2⟩)
def tsum (v : Nat → Int × Int) (q : Int × Int) : Nat → Int × Int
  | 0 => (0, 0)
  | n + 1 => ((tsum v q n).1 + (gm (v n) (gpow q n)).1, (tsum v q n).2 + (gm (v n) (gpow q n)).2)
theorem gm_bd {p q : Int × Int} {M : Nat} (hq : IsU q) (h1 : p.1.natAbs ≤ M) (h2 : p.2.natAbs ≤ M) : (gm p q).1.natAbs ≤ M ∧ (gm p q).2.natAbs ≤ M := by
  rcases hq with rfl | rfl | rfl | rfl <;> simp [gm, h1, h2]
theorem tsum_bd {v : Nat → Int × Int} {q : Int × Int} (hq : IsU q) (hv : ∀ n, n < 4 → (v n).1.natAbs ≤ 20000 ∧ (v n).2.natAbs ≤ 20000) : ∀ n, n ≤ 4 → (tsum v q n).1.natAbs ≤ n * 20000 ∧ (tsum v q n).2.natAbs ≤ n * 20000
  | 0, _ => by simp [tsum]
  | n + 1, h => by
    obtain ⟨a, b⟩ := tsum_bd hq hv n (by omega)
    obtain ⟨c, d⟩ := hv n (by omega)
    obtain ⟨e, f⟩ := gm_bd (gpow_unit hq n) c d
    simp only [tsum]
    omega
theorem turned_S (z : Nat → Nat × Nat) (v : Nat → Int × Int) (hz : ∀ n, n < 4 → Z (z n) (v n)) (hv : ∀ n, n < 4 → (v n).1.natAbs ≤ 20000 ∧ (v n).2.natAbs ≤ 20000) (u : Nat × Nat) (q : Int × Int) (hu : U u q) (hq : IsU q) (k : Nat) (hk : k ≤ 3) :
    ∃ r : Nat × Nat, Z r (tsum v (gpow q k) 4) ∧ ∀ w, Calls Tryz.prog 166 #[.agg #[cV (z 0), cV (z 1), cV (z 2), cV (z 3)], .complex .f32 u.1 u.2, .int .i64 (k : Int)] w fun e w' => e = .returned (cV r) ∧ Below w.heap.size w w' := by
  obtain ⟨s, s0, hs⟩ := hu.pows hq
  obtain ⟨t, t0, ht⟩ := (hs k).1.pows (gpow_unit hq k)
  have hqk := gpow_unit hq k
  have hp : ∀ n, ∃ r, n < 4 → MulC (z n) (t n) r ∧ Z r (gm (v n) (gpow (gpow q k) n)) := fun n => by
    by_cases h : n < 4
    · obtain ⟨a, b⟩ := hv n h
      obtain ⟨r, h1, h2⟩ := (hz n h).mul (ht n).1 (gpow_unit hqk n) (by omega) (by omega)
      exact ⟨r, fun _ => ⟨h1, h2⟩⟩
    · exact ⟨(0, 0), fun h' => absurd h' h⟩
  obtain ⟨p, hp⟩ := Classical.axiomOfChoice hp
  obtain ⟨m, m0, hm⟩ := dep_seq (fun n a => n ≤ 4 → Z a (tsum v (gpow q k) n)) (fun n a b => n < 4 → AddC a (p n) b) (0, 0) (fun _ => ⟨S.zero, S.zero⟩) (fun n a ha => by
    by_cases h : n < 4
    · obtain ⟨a1, a2⟩ := tsum_bd hqk hv n (by omega)
      obtain ⟨c, d⟩ := hv n h
      obtain ⟨e1, e2⟩ := gm_bd (gpow_unit hqk n) c d
      have ha := ha (by omega)
      have hpn := (hp n h).2
      obtain ⟨r, h1, h2, h3⟩ := addC_S ha.1 ha.2 hpn.1 hpn.2 (by omega) (by omega) (by omega) (by omega)
      exact ⟨r, fun _ => h1, fun _ => ⟨h2, h3⟩⟩
    · exact ⟨(0, 0), fun h' => absurd h' h, fun h' => absurd h' (by omega)⟩)
  refine ⟨m 4, (hm 4).1 (by omega), fun w => ?_⟩
  exact turned_of z s t p m u k hk s0 (fun j _ => (hs j).2) t0 (fun n _ => (ht n).2) (fun n h => (hp n h).1) m0 (fun n h => (hm n).2 h) w
theorem unit_m : U (0, 3212836864) (0, -1) := ⟨S.zero, S.minus⟩
theorem unit_p : U (0, 1065353216) (0, 1) := ⟨S.zero, S.one⟩
theorem Four_S (x : Nat → Nat) (v : Nat → Int) (hx : ∀ n, n < 4 → S (x n) (v n)) (hv : ∀ n, n < 4 → (v n).natAbs ≤ 16384) :
    ∃ r : Nat → Nat × Nat, (∀ k, k < 4 → Z (r k) (tsum (fun n => (v n, 0)) (gpow (0, -1) k) 4)) ∧ ∀ w, Calls Tryz.prog 97 #[.agg #[flV (x 0), flV (x 1), flV (x 2), flV (x 3)]] w fun e w' => e = .returned (.tuple #[.agg #[cV (r 0), cV (r 1), cV (r 2), cV (r 3)], .int .i64 0]) ∧ Below w.heap.size w w' := by
  have h : ∀ k : Nat, ∃ r : Nat × Nat, k < 4 → Z r (tsum (fun n => (v n, 0)) (gpow (0, -1) k) 4) ∧ ∀ w, Calls Tryz.prog 166 #[.agg #[cV (x 0, 0), cV (x 1, 0), cV (x 2, 0), cV (x 3, 0)], .complex .f32 0 3212836864, .int .i64 (k : Int)] w fun e w' => e = .returned (cV r) ∧ Below w.heap.size w w' := fun k => by
    by_cases hk : k < 4
    · obtain ⟨r, h1, h2⟩ := turned_S (fun n => (x n, 0)) (fun n => (v n, 0)) (fun n hn => ⟨hx n hn, S.zero⟩) (fun n hn => ⟨by have := hv n hn; show (v n).natAbs ≤ _; omega, by show (0 : Int).natAbs ≤ _; decide⟩) (0, 3212836864) (0, -1) unit_m (.inr (.inr (.inr rfl))) k (by omega)
      exact ⟨r, fun _ => ⟨h1, h2⟩⟩
    · exact ⟨(0, 0), fun h' => absurd h' hk⟩
  obtain ⟨r, hr⟩ := Classical.axiomOfChoice h
  exact ⟨r, fun k hk => (hr k hk).1, fun w => Four_of x r (fun n hn => (hx n hn).good (hv n hn)) (fun k hk W => (hr k hk).2 W) w⟩
theorem read_4 : single.read 1082130432 = .number false (2 ^ 23) (-21) := by decide
theorem quo4 {x : Nat} {v : Int} (h : S x (4 * v)) (hb : v.natAbs ≤ 200000) : ∃ y, floatBits .quo .f32 x 1082130432 = some y ∧ S y v := by
  obtain ⟨s, rfl, hs⟩ := h
  by_cases h0 : v = 0
  · subst h0
    cases s
    · exact ⟨0, by decide, S.zero⟩
    · exact ⟨2147483648, by decide, true, by decide, fun h => absurd rfl h⟩
  · obtain ⟨K, hK⟩ : ∃ K, K = v.natAbs := ⟨_, rfl⟩
    have e4 : (4 * v).natAbs = 4 * K := by omega
    rw [e4]
    have hK0 : 4 * K ≠ 0 := by omega
    obtain ⟨hd, hlt⟩ := rungN (4 * K) 145 hK0 (by omega) (by omega) (by omega)
    obtain ⟨m, e, hr, hbm, he, hlog⟩ := rungOf_read s (4 * K * 2 ^ 145) hlt hd
    have hlog := hlog (Nat.ne_of_gt (Nat.mul_pos (Nat.pos_of_ne_zero hK0) (Nat.two_pow_pos _))) (by rw [lowK (4 * K) 145 hK0]; omega)
    have hm0 : m ≠ 0 := by rintro rfl; rw [show Nat.log2 0 = 0 by decide] at hlog; omega
    have hb2 : m * 2 ^ (e + 149).toNat = 4 * K * 2 ^ 145 := hbm
    have he2 : -130 ≤ e := by
      have hm24 : m < 2 ^ 24 := by have := @Nat.lt_log2_self m; rw [hlog] at this; exact this
      have hge : 1 * 2 ^ 145 ≤ m * 2 ^ (e + 149).toNat := by rw [hb2]; exact Nat.mul_le_mul_right _ (by omega)
      have hlt : ¬ e < -130 := fun hlt => by
        have : m * 2 ^ (e + 149).toNat ≤ 2 ^ 24 * 2 ^ 19 := Nat.mul_le_mul (by omega) (Nat.pow_le_pow_right (by omega) (by omega))
        have := Nat.le_trans hge this
        exact absurd this (by decide)
      omega
    refine ⟨single.nearest s (m * 8) (e - 5), ?_, ?_⟩
    · show single.div (bitsK s (4 * K)) 1082130432 = _
      unfold Format.div
      rw [show single.read (bitsK s (4 * K)) = .number s m e from hr, read_4]
      have hq : Datum.quotient (single.fractionBits + 2) (.number s m e) (.number false (2 ^ 23) (-21)) = some (.number s (m * 8) (e - 5)) := by
        show (if (2 ^ 23 : Nat) = 0 then (if m = 0 then none else some (Datum.infinity (s ^^ false))) else some (Datum.number (s ^^ false) (2 * (m <<< (25 + (2 ^ 23 : Nat).log2 - m.log2) / 2 ^ 23) + (m <<< (25 + (2 ^ 23 : Nat).log2 - m.log2) % 2 ^ 23 != 0).toNat) (e - -21 - ((25 + (2 ^ 23 : Nat).log2 - m.log2 : Nat) : Int) - 1))) = _
        rw [if_neg (by decide), hlog, show (2 ^ 23 : Nat).log2 = 23 by decide, show 25 + 23 - 23 = 25 by decide, Nat.shiftLeft_eq, Bool.xor_false, show m * 2 ^ 25 = m * 4 * 2 ^ 23 by omega, Nat.mul_div_cancel _ (by decide), Nat.mul_mod_left]
        congr 2
        · simp; omega
        · omega
      rw [hq]; rfl
    · refine S.nearest s (m * 8) (e - 5) v (Or.inl (by omega)) ?_ (by omega)
      obtain ⟨A, hA⟩ : ∃ A : Nat, e + 149 = (A : Int) + 5 := ⟨(e + 144).toNat, by omega⟩
      rw [show (e + 149).toNat = A + 5 by omega, Nat.pow_add] at hb2
      rw [show (e - 5 + 149).toNat = A by omega]
      have e5 : m * 8 * 2 ^ A = K * 2 ^ 145 := by
        have p1 : m * 8 * 2 ^ A * 4 = K * 2 ^ 145 * 4 := by
          have e6 : m * (2 ^ A * 2 ^ 5) = m * 8 * 2 ^ A * 4 := by
            rw [show (2 : Nat) ^ 5 = 8 * 4 by decide, ← Nat.mul_assoc (2 ^ A), Nat.mul_comm (2 ^ A) 8, Nat.mul_assoc m 8, Nat.mul_assoc m]
          rw [← e6, hb2, Nat.mul_comm 4 K, Nat.mul_assoc, Nat.mul_assoc, Nat.mul_comm 4]
        exact Nat.eq_of_mul_eq_mul_right (by decide) p1
      have hsv : v ≠ 0 → s = decide (v < 0) := fun hv => by
        rw [hs (by omega)]
        by_cases hn : v < 0
        · rw [decide_eq_true hn, decide_eq_true (by omega)]
        · rw [decide_eq_false hn, decide_eq_false (by omega)]
      rw [← signed_abs v s hsv 145, signed_eq, signed_eq, e5, ← hK]
theorem S.eq_zero {x : Nat} (h : S x 0) : (FloatKind.f32.format.order x 0 != some .eq) = false := by
  obtain ⟨s, rfl, _⟩ := h
  cases s <;> kernel_rfl
theorem Unfour_S (z : Nat → Nat × Nat) (P : Nat → Int × Int) (hz : ∀ n, n < 4 → Z (z n) (P n)) (hP : ∀ n, n < 4 → (P n).1.natAbs ≤ 20000 ∧ (P n).2.natAbs ≤ 20000) (v : Nat → Int) (hs : ∀ k, k < 4 → tsum P (gpow (0, 1) k) 4 = (4 * v k, 0)) (hv : ∀ k, k < 4 → (v k).natAbs ≤ 16384) :
    ∃ y : Nat → Nat, (∀ k, k < 4 → S (y k) (v k)) ∧ ∀ w, Calls Tryz.prog 99 #[.agg #[cV (z 0), cV (z 1), cV (z 2), cV (z 3)]] w fun e w' => e = .returned (.tuple #[.agg #[flV (y 0), flV (y 1), flV (y 2), flV (y 3)], .int .i64 0]) ∧ Below w.heap.size w w' := by
  have h : ∀ k : Nat, ∃ ry : (Nat × Nat) × Nat, k < 4 → (S ry.1.2 0 ∧ floatBits .quo .f32 ry.1.1 1082130432 = some ry.2 ∧ S ry.2 (v k)) ∧ ∀ w, Calls Tryz.prog 166 #[.agg #[cV (z 0), cV (z 1), cV (z 2), cV (z 3)], .complex .f32 0 1065353216, .int .i64 (k : Int)] w fun e w' => e = .returned (cV ry.1) ∧ Below w.heap.size w w' := fun k => by
    by_cases hk : k < 4
    · obtain ⟨r, h1, h2⟩ := turned_S z P hz hP (0, 1065353216) (0, 1) unit_p (.inr (.inr (.inl rfl))) k (by omega)
      rw [hs k hk] at h1
      obtain ⟨y, h3, h4⟩ := quo4 h1.1 (by have := hv k hk; omega)
      exact ⟨(r, y), fun _ => ⟨⟨h1.2, h3, h4⟩, h2⟩⟩
    · exact ⟨((0, 0), 0), fun h' => absurd h' hk⟩
  obtain ⟨ry, hr⟩ := Classical.axiomOfChoice h
  exact ⟨fun k => (ry k).2, fun k hk => (hr k hk).1.2.2, fun w => Unfour_of z (fun k => (ry k).1) (fun k => (ry k).2) (fun n hn => ⟨(hz n hn).1.good4 (by have := hP n hn; omega), (hz n hn).2.good4 (by have := hP n hn; omega)⟩) (fun k hk W => (hr k hk).2 W) (fun k hk => (hr k hk).1.2.1) (fun k hk => (hr k hk).1.1.eq_zero) (fun k hk => ((hr k hk).1.2.2).good (hv k hk)) w⟩
end Go.Proofs.YtoipafnlcchmbaaGreatDoor
namespace Go.Proofs.YtoipafnlcchmbaaGreatDoor
open Go.RowKit Ieee

theorem xor_top {r n : Nat} (h : r < 2 ^ n) : r ^^^ 2 ^ n = 2 ^ n + r := by
  apply Nat.eq_of_testBit_eq
  intro i
  rw [Nat.testBit_xor, Nat.testBit_two_pow]
  rcases Nat.lt_trichotomy i n with h1 | h1 | h1
  · rw [Nat.testBit_two_pow_add_gt h1, decide_eq_false (by omega), Bool.xor_false]
  · subst h1
    rw [Nat.testBit_two_pow_add_eq, Nat.testBit_lt_two_pow h, decide_eq_true rfl]; rfl
  · have h2 : 2 ^ n + r < 2 ^ i := by
      have := Nat.pow_le_pow_right (n := 2) (by omega) (show n + 1 ≤ i by omega)
      rw [Nat.pow_succ] at this
      omega
    rw [Nat.testBit_lt_two_pow h2, Nat.testBit_lt_two_pow (by omega), decide_eq_false (by omega)]; rfl
theorem xor_back {r n : Nat} (h : r < 2 ^ n) : (2 ^ n + r) ^^^ 2 ^ n = r := by
  rw [← xor_top h, Nat.xor_assoc, Nat.xor_self, Nat.xor_zero]
theorem read_neg {y m : Nat} {s : Bool} {e : Int} (hy : y < 18446744073709551616) (h : double.read y = .number s m e) : double.read (y ^^^ 2 ^ 63) = .number (!s) m e := by
  have hs : ∃ y', y ^^^ 2 ^ 63 = y' ∧ y' % 9223372036854775808 = y % 9223372036854775808 ∧ (y' / 9223372036854775808 % 2 == 1) = !(y / 9223372036854775808 % 2 == 1) := by
    by_cases hlt : y < 9223372036854775808
    · refine ⟨_, xor_top (n := 63) hlt, ?_, ?_⟩
      · rw [show (2 : Nat) ^ 63 = 9223372036854775808 by decide]; omega
      · rw [show (2 : Nat) ^ 63 = 9223372036854775808 by decide, show (9223372036854775808 + y) / 9223372036854775808 % 2 = 1 by omega, show y / 9223372036854775808 % 2 = 0 by omega]; rfl
    · obtain ⟨r, hr⟩ : ∃ r, y = 2 ^ 63 + r := ⟨y - 2 ^ 63, by rw [show (2 : Nat) ^ 63 = 9223372036854775808 by decide]; omega⟩
      rw [show (2 : Nat) ^ 63 = 9223372036854775808 by decide] at hr
      have hr63 : r < 2 ^ 63 := by rw [show (2 : Nat) ^ 63 = 9223372036854775808 by decide]; omega
      refine ⟨r, by rw [hr]; exact xor_back hr63, by omega, ?_⟩
      rw [show r / 9223372036854775808 % 2 = 0 by omega, show y / 9223372036854775808 % 2 = 1 by omega]; rfl
  obtain ⟨y', e1, e2, e3⟩ := hs
  rw [e1]
  unfold Format.read at h ⊢
  simp only [dplace, dbin, dinf, dsign] at h ⊢
  rw [e2, e3]
  by_cases c1 : y % 9223372036854775808 < 4503599627370496
  · rw [if_pos c1] at h ⊢
    simp only [Datum.number.injEq] at h ⊢
    obtain ⟨rfl, rfl, rfl⟩ := h
    exact ⟨rfl, rfl, rfl⟩
  · rw [if_neg c1] at h ⊢
    by_cases c2 : y % 9223372036854775808 < 2047 * 4503599627370496
    · rw [if_pos c2] at h ⊢
      simp only [Datum.number.injEq] at h ⊢
      obtain ⟨rfl, rfl, rfl⟩ := h
      exact ⟨rfl, rfl, rfl⟩
    · rw [if_neg c2] at h
      split at h <;> cases h
theorem D_neg {q y : Nat} {v : Int} (hy : y < 18446744073709551616) (h : D q y v) : D q (Op.negFloat .f64 y) (-v) := by
  obtain ⟨s, m, e, h1, h2, h3, h4⟩ := h
  refine ⟨!s, m, e, read_neg hy h1, h2, h3, ?_⟩
  rw [signed_not, h4, Int.neg_mul]
theorem D_int {y : Nat} {v : Int} (h : D 1074 y v) (hb : v.natAbs < 2 ^ 53) : floatToIntVal .f64 y .i64 = some v := by
  obtain ⟨s, m, e, h1, h2, h3, h4⟩ := h
  obtain ⟨N, hN⟩ : ∃ N : Nat, N = 1074 := ⟨_, rfl⟩
  rw [← hN] at h4
  rw [show e + 1074 = e + (N : Int) by omega] at h4
  obtain ⟨g1, g2⟩ := signed_inv h4
  unfold floatToIntVal Datum.toInt
  have e1 : FloatKind.f64.decode y = .number s m e := h1
  rw [e1]
  have hint : Datum.integral .zero (.number s m e) = .number s v.natAbs 0 := by
    show Datum.number s (Toward.zero.cut s (m <<< e.toNat) (-e).toNat) 0 = _
    rw [cut_zero s m e N (by omega), g1, Nat.mul_div_cancel _ (Nat.two_pow_pos _)]
  rw [hint]
  simp only
  have hv : signed s v.natAbs 0 = v := by rw [signed_abs v s g2 0]; simp
  rw [hv, if_pos]
  show (-9223372036854775808 : Int) ≤ _ ∧ _ ≤ (9223372036854775807 : Int)
  omega
theorem D_zero (q : Nat) : D q 0 0 := ⟨false, 0, -1074, by decide, by decide, by omega, by rw [signed_zero]; simp⟩
theorem D_16 : D 1074 4625196817309499392 16 := by
  refine ⟨false, 2 ^ 52, -48, read_16', by decide, by omega, ?_⟩
  obtain ⟨N, hN⟩ : ∃ N : Nat, N = 1026 := ⟨_, rfl⟩
  rw [show ((-48 : Int) + 1074).toNat = N by omega, show 1074 = 48 + N by omega, signed_eq, Nat.pow_add 2 48]
  show ((2 ^ 52 * 2 ^ N : Nat) : Int) = 16 * ((2 ^ 48 * 2 ^ N : Nat) : Int)
  have e : 2 ^ 52 * 2 ^ N = 16 * (2 ^ 48 * 2 ^ N) := by rw [← Nat.mul_assoc]
  rw [e, Int.natCast_mul]; rfl
theorem wf64 {op : BinOp} {x y r : Nat} (h : floatBits op .f64 x y = some r) : r < 18446744073709551616 := by
  have := floatBits_wf h
  simpa [Lit.wf] using this
/-- A part of a panel, as a whole number of 64 bits; its partner times the conjugate of another one. -/
theorem times_16 {x1 x2 : Nat} {a b : Int} (h1 : D 1070 x1 a) (h2 : D 1070 x2 b) (ha : a.natAbs ≤ 200000) (hb : b.natAbs ≤ 200000) :
    ∃ r : Nat × Nat, cMulBits x1 x2 4625196817309499392 0 = some r ∧ D 1074 r.1 a ∧ D 1074 r.2 b ∧ r.2 < 18446744073709551616 := by
  have f1 : (a * 16).natAbs < 2 ^ 53 := by have := natAbs_le ha (show (16 : Int).natAbs ≤ 16 by decide); omega
  have f2 : (b * 16).natAbs < 2 ^ 53 := by have := natAbs_le hb (show (16 : Int).natAbs ≤ 16 by decide); omega
  obtain ⟨ac, m1, e1⟩ := D_mul h1 D_16 (by omega) (by omega) (by omega) f1
  obtain ⟨bd, m2, e2⟩ := D_mul h2 (D_zero 1074) (by omega) (by omega) (by omega) (by simp)
  obtain ⟨ad, m3, e3⟩ := D_mul h1 (D_zero 1074) (by omega) (by omega) (by omega) (by simp)
  obtain ⟨bc, m4, e4⟩ := D_mul h2 D_16 (by omega) (by omega) (by omega) f2
  have g1 : D 1074 ac a := D_shift (q := 1070) 4 e1
  have g4 : D 1074 bc b := D_shift (q := 1070) 4 e4
  have g2 : D 1074 bd 0 := D_shift (q := 1070) 4 (by rw [Int.mul_zero] at e2; rw [Int.zero_mul]; exact e2)
  have g3 : D 1074 ad 0 := D_shift (q := 1070) 4 (by rw [Int.mul_zero] at e3; rw [Int.zero_mul]; exact e3)
  obtain ⟨re, m5, e5⟩ := D_diff g1 g2 (by omega) (by omega)
  obtain ⟨im, m6, e6⟩ := D_sum g3 g4 (by omega) (by omega)
  refine ⟨(re, im), ?_, by rw [Int.sub_zero] at e5; exact e5, by rw [Int.zero_add] at e6; exact e6, wf64 m6⟩
  unfold cMulBits
  rw [m1, m2]
  simp only [Option.bind_some]
  rw [m5]
  simp only [Option.bind_some]
  rw [m3]
  simp only [Option.bind_some]
  rw [m4]
  simp only [Option.bind_some]
  rw [m6]
  rfl
theorem times_conj {c1 c2 d1 nb : Nat} {a b c d : Int} (h1 : D 1074 c1 a) (h2 : D 1074 c2 b) (h3 : D 1074 d1 c) (h4 : D 1074 nb d) (ha : a.natAbs ≤ 200000) (hb : b.natAbs ≤ 200000) (hc : c.natAbs ≤ 200000) (hd : d.natAbs ≤ 200000) :
    ∃ r : Nat × Nat, cMulBits c1 c2 d1 nb = some r ∧ D 1074 r.1 (a * c - b * d) ∧ D 1074 r.2 (a * d + b * c) := by
  have k1 := natAbs_le ha hc
  have k2 := natAbs_le hb hd
  have k3 := natAbs_le ha hd
  have k4 := natAbs_le hb hc
  obtain ⟨ac, m1, e1⟩ := D_mul h1 h3 (by omega) (by omega) (by omega) (by omega)
  obtain ⟨bd, m2, e2⟩ := D_mul h2 h4 (by omega) (by omega) (by omega) (by omega)
  obtain ⟨ad, m3, e3⟩ := D_mul h1 h4 (by omega) (by omega) (by omega) (by omega)
  obtain ⟨bc, m4, e4⟩ := D_mul h2 h3 (by omega) (by omega) (by omega) (by omega)
  obtain ⟨re, m5, e5⟩ := D_diff e1 e2 (by omega) (by omega)
  obtain ⟨im, m6, e6⟩ := D_sum e3 e4 (by omega) (by omega)
  refine ⟨(re, im), ?_, e5, e6⟩
  unfold cMulBits
  rw [m1, m2]
  simp only [Option.bind_some]
  rw [m5]
  simp only [Option.bind_some]
  rw [m3]
  simp only [Option.bind_some]
  rw [m4]
  simp only [Option.bind_some]
  rw [m6]
  rfl
/-- A product with a conjugate. -/
def crossI (p q : Int × Int) : Int × Int := (p.1 * q.1 - p.2 * -q.2, p.1 * -q.2 + p.2 * q.1)
theorem Cross_S (z o : Nat → Nat × Nat) (P Q : Nat → Int × Int) (hz : ∀ n, n < 4 → Z (z n) (P n)) (ho : ∀ n, n < 4 → Z (o n) (Q n)) (hP : ∀ n, n < 4 → (P n).1.natAbs ≤ 20000 ∧ (P n).2.natAbs ≤ 20000) (hQ : ∀ n, n < 4 → (Q n).1.natAbs ≤ 20000 ∧ (Q n).2.natAbs ≤ 20000) (w : World) :
    Calls Tryz.prog 100 #[.agg #[cV (z 0), cV (z 1), cV (z 2), cV (z 3)], .agg #[cV (o 0), cV (o 1), cV (o 2), cV (o 3)]] w fun x w' => x = .returned (.tuple #[.agg (partG (fun k => crossI (P k) (Q k)) 4), .int .i64 0]) ∧ Below w.heap.size w w' := by
  have wide : ∀ (x : Nat → Nat × Nat) (V : Nat → Int × Int), (∀ n, n < 4 → Z (x n) (V n)) → (∀ n, n < 4 → (V n).1.natAbs ≤ 20000 ∧ (V n).2.natAbs ≤ 20000) → ∀ k : Nat, ∃ ac : (Nat × Nat) × (Nat × Nat), k < 4 → cConvBits .f32 (x k).1 (x k).2 .f64 = some ac.1 ∧ cMulBits ac.1.1 ac.1.2 4625196817309499392 0 = some ac.2 ∧ D 1074 ac.2.1 (V k).1 ∧ D 1074 ac.2.2 (V k).2 ∧ ac.2.2 < 18446744073709551616 := fun x V hx hV k => by
    by_cases hk : k < 4
    · obtain ⟨b1, b2⟩ := hV k hk
      obtain ⟨y1, c1, d1⟩ := (hx k hk).1.wide (by omega)
      obtain ⟨y2, c2, d2⟩ := (hx k hk).2.wide (by omega)
      obtain ⟨r, m1, e1, e2, e3⟩ := times_16 d1 d2 (by omega) (by omega)
      exact ⟨((y1, y2), r), fun _ => ⟨by unfold cConvBits; rw [c1, c2]; rfl, m1, e1, e2, e3⟩⟩
    · exact ⟨((0, 0), (0, 0)), fun h' => absurd h' hk⟩
  obtain ⟨ac, ha⟩ := Classical.axiomOfChoice (wide z P hz hP)
  obtain ⟨bd, hb⟩ := Classical.axiomOfChoice (wide o Q ho hQ)
  have prod : ∀ k : Nat, ∃ e : Nat × Nat, k < 4 → cMulBits (ac k).2.1 (ac k).2.2 (bd k).2.1 (Op.negFloat .f64 (bd k).2.2) = some e ∧ floatToIntVal .f64 e.1 .i64 = some (crossI (P k) (Q k)).1 ∧ floatToIntVal .f64 e.2 .i64 = some (crossI (P k) (Q k)).2 := fun k => by
    by_cases hk : k < 4
    · obtain ⟨_, _, a1, a2, _⟩ := ha k hk
      obtain ⟨_, _, b1, b2, b3⟩ := hb k hk
      obtain ⟨p1, p2⟩ := hP k hk
      obtain ⟨q1, q2⟩ := hQ k hk
      obtain ⟨e, m1, e1, e2⟩ := times_conj a1 a2 b1 (D_neg b3 b2) (by omega) (by omega) (by omega) (by omega)
      have k1 := natAbs_le p1 q1
      have k2 := natAbs_le p2 (show (-(Q k).2).natAbs ≤ 20000 by omega)
      have k3 := natAbs_le p1 (show (-(Q k).2).natAbs ≤ 20000 by omega)
      have k4 := natAbs_le p2 q1
      exact ⟨e, fun _ => ⟨m1, D_int e1 (by show (_ - _ : Int).natAbs < _; omega), D_int e2 (by show (_ + _ : Int).natAbs < _; omega)⟩⟩
    · exact ⟨(0, 0), fun h' => absurd h' hk⟩
  obtain ⟨e, he⟩ := Classical.axiomOfChoice prod
  exact Cross_of z o (fun k => (ac k).1) (fun k => (bd k).1) (fun k => (ac k).2) (fun k => (bd k).2) e (fun k => Op.negFloat .f64 (bd k).2.2) (fun k => crossI (P k) (Q k))
    (fun n hn => ⟨(hz n hn).1.good4 (by have := hP n hn; omega), (hz n hn).2.good4 (by have := hP n hn; omega)⟩) (fun n hn => ⟨(ho n hn).1.good4 (by have := hQ n hn; omega), (ho n hn).2.good4 (by have := hQ n hn; omega)⟩)
    (fun k hk w => run_convert_complex w _ _ .f32 .f64 _ _ _ _ (by rw [Tryz.underlying166]; rfl) Tryz.underlying253 (ha k hk).1)
    (fun k hk w => run_convert_complex w _ _ .f32 .f64 _ _ _ _ (by rw [Tryz.underlying166]; rfl) Tryz.underlying253 (hb k hk).1)
    (fun k hk w => run_complex_mul w _ _ _ _ _ _ _ (ha k hk).2.1) (fun k hk w => run_complex_mul w _ _ _ _ _ _ _ (hb k hk).2.1) (fun k hk => rfl)
    (fun k hk w => run_complex_mul w _ _ _ _ _ _ _ (he k hk).1)
    (fun k hk w => run_convert_float_int w _ _ .f64 .i64 _ _ (by rw [Tryz.underlying254]; rfl) Tryz.underlying3 (he k hk).2.1)
    (fun k hk w => run_convert_float_int w _ _ .f64 .i64 _ _ (by rw [Tryz.underlying254]; rfl) Tryz.underlying3 (he k hk).2.2) w
end Go.Proofs.YtoipafnlcchmbaaGreatDoor
