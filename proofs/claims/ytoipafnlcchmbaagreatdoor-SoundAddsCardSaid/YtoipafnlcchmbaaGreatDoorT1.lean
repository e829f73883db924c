/- Arithmetic of levels, sums, means, penalties and losses, as the consequences of chapter 1 want it. -/
import Derived.Test.YtoipafnlcchmbaaGreatDoorQE
namespace Go.Proofs.YtoipafnlcchmbaaGreatDoor
open Go.RowKit

theorem levelOf_lt (e : Int) (n : Nat) : levelOf e n < (n : Int) := by
  induction n with
  | zero => simp [levelOf]
  | succ n ih => rw [levelOf]; split <;> omega
theorem levelOf_ge (e : Int) (n : Nat) : -1 ≤ levelOf e n := by
  induction n with
  | zero => simp [levelOf]
  | succ n ih => rw [levelOf]; split <;> omega
theorem levelOf_mono {a b : Int} (h : a ≤ b) (n : Nat) : levelOf a n ≤ levelOf b n := by
  induction n with
  | zero => simp [levelOf]
  | succ n ih =>
    have := levelOf_lt a n
    rw [levelOf, levelOf]
    by_cases h1 : thr n ≤ a
    · rw [if_pos h1, if_pos (by omega)]; exact Int.le_refl _
    · rw [if_neg h1]
      split <;> omega
theorem level_mono {a b : Int} (h : a ≤ b) : level a ≤ level b := levelOf_mono h 121
theorem levelOf_spec (e : Int) (n : Nat) : (levelOf e n = -1 ∧ ∀ j, j < n → e < thr j) ∨ ∃ m : Nat, m < n ∧ levelOf e n = m ∧ thr m ≤ e ∧ ∀ j, m < j → j < n → e < thr j := by
  induction n with
  | zero => exact Or.inl ⟨rfl, fun j hj => by omega⟩
  | succ n ih =>
    rw [levelOf]
    by_cases h : thr n ≤ e
    · rw [if_pos h]
      exact Or.inr ⟨n, by omega, rfl, h, fun j h1 h2 => by omega⟩
    · rw [if_neg h]
      rcases ih with ⟨h1, h2⟩ | ⟨m, h1, h2, h3, h4⟩
      · refine Or.inl ⟨h1, fun j hj => ?_⟩
        by_cases hjn : j = n
        · subst hjn; omega
        · exact h2 j (by omega)
      · refine Or.inr ⟨m, by omega, h2, h3, fun j h5 h6 => ?_⟩
        by_cases hjn : j = n
        · subst hjn; omega
        · exact h4 j h5 (by omega)
theorem level_spec (e : Int) : (level e = -1 ∧ e < 10) ∨ ∃ m : Nat, m ≤ 120 ∧ level e = m ∧ thr m ≤ e ∧ (m < 120 → e < thr (m + 1)) := by
  rcases levelOf_spec e 121 with ⟨h1, h2⟩ | ⟨m, h1, h2, h3, h4⟩
  · exact Or.inl ⟨h1, by have := h2 0 (by omega); simpa [thr, mul10, stepAt] using this⟩
  · exact Or.inr ⟨m, by omega, h2, h3, fun h => h4 (m + 1) (by omega) (by omega)⟩
theorem thr81 : thr 81 = 1300000000 := by decide
theorem level_80 {e : Int} (h : e ≤ 1000000000) : level e ≤ 80 := by
  rcases level_spec e with ⟨h1, _⟩ | ⟨m, h1, h2, h3, _⟩
  · omega
  · rcases Nat.lt_or_ge m 81 with h5 | h5
    · omega
    · have := thr_le h5; rw [thr81] at this; omega
theorem level_m1 (e : Int) : -1 ≤ level e := levelOf_ge e 121
theorem level_ten {e : Int} (h : e ≤ 1000000000) (h0 : 0 ≤ level e) : level (10 * e) = level e + 10 := by
  have h8 := level_80 h
  rcases level_spec e with ⟨h1, _⟩ | ⟨m, h1, h2, h3, h4⟩
  · omega
  · rw [h2, level_is (10 * e) (m + 10) (by omega) (by rw [thr_ten]; omega) (fun hm => by
      rw [show m + 10 + 1 = (m + 1) + 10 from by omega, thr_ten]
      have := h4 (by omega)
      omega)]
    omega
theorem range_has {e : Int} (h0 : 0 ≤ e) (h : e ≤ 1000000000) : rangeLow (level e) ≤ e ∧ e ≤ rangeHigh (level e) := by
  have h8 := level_80 h
  unfold rangeLow rangeHigh
  rcases level_spec e with ⟨h1, h2⟩ | ⟨m, h1, h2, h3, h4⟩
  · rw [h1, if_neg (by omega), if_pos (by omega)]
    refine ⟨h0, ?_⟩
    have : thr (-1 + 1 : Int).toNat = 10 := by decide
    rw [this]; omega
  · rw [h2, if_pos (by omega), if_pos (by omega)]
    have := h4 (by omega)
    rw [show ((m : Int) + 1).toNat = m + 1 from by omega, show (m : Int).toNat = m from by omega]
    omega
theorem range_next {e : Int} (h : e ≤ 1000000000) : rangeLow (level e + 1) = rangeHigh (level e) + 1 := by
  have h8 := level_80 h
  have h1 := level_m1 e
  unfold rangeLow rangeHigh
  rw [if_pos (by omega), if_pos (by omega)]
  omega
theorem levelR_of {e : Int} (h0 : 0 ≤ e) (h : e ≤ 10000000000000) : levelR e = level e := by unfold levelR; rw [if_pos ⟨h0, h⟩]
theorem checkEnergyE_of {e : Int} (h0 : 0 ≤ e) (h : e ≤ 10000000000000) : checkEnergyE e = 0 := withinE_of h0 h

theorem firstE_all {l : List Int} (h : ∀ x ∈ l, x = 0) : firstE l = 0 := by
  induction l with
  | nil => rfl
  | cons x l ih => unfold firstE; rw [if_pos (h x (by simp))]; exact ih (fun y hy => h y (by simp [hy]))
theorem getD_mem {α : Type} (d : α) (l : List α) (x : α) (h : x ∈ l) : ∃ i, i < l.length ∧ l.getD i d = x := by
  obtain ⟨i, hi, rfl⟩ := List.getElem_of_mem h
  exact ⟨i, hi, by simp [List.getD_eq_getElem?_getD, List.getElem?_eq_getElem hi]⟩
theorem atMostE_of {n : Nat} {limit : Int} (h : (n : Int) ≤ limit) : atMostE n limit = 0 := by unfold atMostE; rw [if_neg (by omega)]
theorem checkEnergiesE_of {zs : List Int} (h : ValidE zs) : checkEnergiesE zs = 0 := by
  unfold checkEnergiesE
  refine firstE_all fun x hx => ?_
  simp only [List.mem_cons, List.not_mem_nil, or_false] at hx
  rcases hx with rfl | rfl
  · exact atMostE_of (by have := h.1; omega)
  · unfold firstInE
    refine firstE_all fun x hx => ?_
    obtain ⟨y, hy, rfl⟩ := List.mem_map.1 hx
    obtain ⟨i, hi, rfl⟩ := getD_mem 0 zs y hy
    have := h.2 i hi
    exact withinE_of this.1 this.2
theorem getD_take' (zs : List Int) (k i : Nat) (h : i < k) : (zs.take k).getD i 0 = zs.getD i 0 := by
  rw [List.getD_eq_getElem?_getD, List.getD_eq_getElem?_getD, List.getElem?_take, if_pos h]
theorem getD_drop' (zs : List Int) (k i : Nat) : (zs.drop k).getD i 0 = zs.getD (k + i) 0 := by
  rw [List.getD_eq_getElem?_getD, List.getD_eq_getElem?_getD, List.getElem?_drop]

/-- Small energies. -/
def SmallE (zs : List Int) : Prop := zs.length ≤ 10 ∧ ∀ i, i < zs.length → 0 ≤ zs.getD i 0 ∧ zs.getD i 0 ≤ 1000000000
theorem SmallE.valid {zs : List Int} (h : SmallE zs) : ValidE zs := ⟨by have := h.1; omega, fun i hi => by have := h.2 i hi; omega⟩
theorem SmallE.take {zs : List Int} (h : SmallE zs) (k : Nat) : SmallE (zs.take k) := ⟨by rw [List.length_take]; have := h.1; omega, fun i hi => by
  rw [List.length_take] at hi
  rw [getD_take' zs k i (by omega)]
  exact h.2 i (by omega)⟩
theorem SmallE.drop {zs : List Int} (h : SmallE zs) (k : Nat) : SmallE (zs.drop k) := ⟨by rw [List.length_drop]; have := h.1; omega, fun i hi => by
  rw [List.length_drop] at hi
  rw [getD_drop']
  exact h.2 (k + i) (by omega)⟩
theorem SmallE.turn {zs : List Int} (h : SmallE zs) (k : Nat) : SmallE (zs.drop k ++ zs.take k) := by
  refine ⟨by rw [List.length_append, List.length_drop, List.length_take]; have := h.1; omega, fun i hi => ?_⟩
  rw [List.length_append, List.length_drop, List.length_take] at hi
  by_cases h1 : i < zs.length - k
  · have h2 : (zs.drop k ++ zs.take k).getD i 0 = zs.getD (k + i) 0 := by
      rw [List.getD_eq_getElem?_getD, List.getElem?_append_left (by rw [List.length_drop]; exact h1), ← List.getD_eq_getElem?_getD, getD_drop']
    rw [h2]
    exact h.2 (k + i) (by omega)
  · have h2 : (zs.drop k ++ zs.take k).getD i 0 = zs.getD (i - (zs.length - k)) 0 := by
      rw [List.getD_eq_getElem?_getD, List.getElem?_append_right (by rw [List.length_drop]; omega), ← List.getD_eq_getElem?_getD, List.length_drop, getD_take' _ _ _ (by omega)]
    rw [h2]
    exact h.2 _ (by omega)
theorem sumL_small {zs : List Int} (h : ∀ i, i < zs.length → 0 ≤ zs.getD i 0 ∧ zs.getD i 0 ≤ 1000000000) (k : Nat) (hk : k ≤ zs.length) : 0 ≤ sumL (zs.take k) ∧ sumL (zs.take k) ≤ 1000000000 * (k : Int) := by
  induction k with
  | zero => simp [sumL]
  | succ k ih =>
    rw [sumL_succ zs k (by omega)]
    have := ih (by omega)
    have := h k (by omega)
    omega
theorem SmallE.sum {zs : List Int} (h : SmallE zs) : 0 ≤ sumL zs ∧ sumL zs ≤ 10000000000 := by
  have := sumL_small h.2 zs.length (Nat.le_refl _)
  rw [sumL_all] at this
  have := h.1
  omega
theorem SmallE.sumVal {zs : List Int} (h : SmallE zs) : sumVal zs = sumL zs ∧ sumErr zs = 0 := by
  have h1 := checkEnergiesE_of h.valid
  have h2 := h.sum
  unfold Go.Proofs.YtoipafnlcchmbaaGreatDoor.sumVal sumErr capE overE
  rw [if_pos h1, if_pos h1, if_neg (by omega), if_neg (by omega)]
  exact ⟨rfl, rfl⟩
theorem sumL_turn (zs : List Int) (k : Nat) : sumL (zs.drop k ++ zs.take k) = sumL zs := by
  have h := sumL_append (zs.take k) (zs.drop k)
  rw [List.take_append_drop] at h
  rw [sumL_append]; omega
theorem sumL_cut (zs : List Int) (k : Nat) : sumL (zs.take k) + sumL (zs.drop k) = sumL zs := by
  have h := sumL_append (zs.take k) (zs.drop k)
  rw [List.take_append_drop] at h
  exact h.symm

/-- What the first k energies of a list leave: the least, the greatest, the greatest level. -/
structure Ends (zs : List Int) (k : Nat) (a b g : Int) : Prop where
  least : ∀ i, i < k → a ≤ zs.getD i 0
  most : ∀ i, i < k → zs.getD i 0 ≤ b
  top : ∀ i, i < k → level (zs.getD i 0) ≤ g
  met : g = -1 ∨ ∃ i, i < k ∧ g = level (zs.getD i 0)
theorem Ends.start (zs : List Int) (a b : Int) : Ends zs 0 a b (-1) := ⟨fun i hi => by omega, fun i hi => by omega, fun i hi => by omega, Or.inl rfl⟩
theorem Ends.step {zs : List Int} {k : Nat} {a b g e : Int} (h : Ends zs k a b g) (he : zs.getD k 0 = e) : Ends zs (k + 1) (min a e) (max b e) (max g (level e)) := by
  refine ⟨fun i hi => ?_, fun i hi => ?_, fun i hi => ?_, ?_⟩
  · by_cases hik : i = k
    · subst hik; rw [he]; omega
    · have := h.least i (by omega); omega
  · by_cases hik : i = k
    · subst hik; rw [he]; omega
    · have := h.most i (by omega); omega
  · by_cases hik : i = k
    · subst hik; rw [he]; omega
    · have := h.top i (by omega); omega
  · have h1 := level_m1 e
    rcases h.met with h2 | ⟨i, h2, h3⟩
    · exact Or.inr ⟨k, by omega, by rw [he]; omega⟩
    · by_cases h4 : g ≤ level e
      · exact Or.inr ⟨k, by omega, by rw [he]; omega⟩
      · exact Or.inr ⟨i, by omega, by omega⟩
theorem sumL_each {zs : List Int} (h : ∀ i, i < zs.length → 0 ≤ zs.getD i 0) (i : Nat) (hi : i < zs.length) : zs.getD i 0 ≤ sumL zs := by
  induction zs generalizing i with
  | nil => simp at hi
  | cons x l ih =>
    have h0 := h 0 (by simp)
    have hs : ∀ j, j < l.length → 0 ≤ l.getD j 0 := fun j hj => by
      have := h (j + 1) (by simp; omega)
      simpa using this
    have hl : 0 ≤ sumL l := by
      clear ih h h0 hi
      induction l with
      | nil => simp [sumL]
      | cons y l ih2 =>
        have h1 := hs 0 (by simp)
        have h2 := ih2 (fun j hj => by have := hs (j + 1) (by simp; omega); simpa using this)
        simp only [sumL]
        simp at h1
        omega
    simp only [sumL]
    simp at h0
    match i with
    | 0 => simp; omega
    | i + 1 =>
      have := ih hs i (by simp at hi; omega)
      simp only [List.getD_cons_succ]
      omega
theorem sumL_top {zs : List Int} {t : Int} (h : ∀ i, i < zs.length → zs.getD i 0 ≤ t) (k : Nat) (hk : k ≤ zs.length) : sumL (zs.take k) ≤ t * (k : Int) := by
  induction k with
  | zero => simp [sumL]
  | succ k ih =>
    rw [sumL_succ zs k (by omega)]
    have := ih (by omega)
    have := h k (by omega)
    rw [show ((k + 1 : Nat) : Int) = (k : Int) + 1 from by omega, Int.mul_add]
    omega
/-- The level of the sum: at least the greatest level, at most 10 above it. -/
theorem Ends.sum {zs : List Int} {a b g : Int} (hs : SmallE zs) (h : Ends zs zs.length a b g) : g ≤ level (sumL zs) ∧ (0 ≤ g → level (sumL zs) ≤ g + 10) := by
  refine ⟨?_, fun hg => ?_⟩
  · rcases h.met with h1 | ⟨i, h1, h2⟩
    · rw [h1]; exact level_m1 _
    · rw [h2]
      exact level_mono (sumL_each (fun j hj => (hs.2 j hj).1) i h1)
  · obtain ⟨m, rfl⟩ : ∃ m : Nat, g = m := ⟨g.toNat, by omega⟩
    have hm : m ≤ 80 := by
      rcases h.met with h1 | ⟨i, h1, h2⟩
      · omega
      · have := level_80 (hs.2 i h1).2; omega
    have he : ∀ i, i < zs.length → zs.getD i 0 ≤ thr (m + 1) - 1 := fun i hi => by
      have h1 := h.top i hi
      have h0 := hs.2 i hi
      rcases level_spec (zs.getD i 0) with ⟨h2, h3⟩ | ⟨q, h2, h3, h4, h5⟩
      · have := (thr_bd (m + 1) (by omega)).1; omega
      · have h6 := h5 (by omega)
        have := thr_le (show q + 1 ≤ m + 1 from by omega)
        omega
    have h1 := sumL_top he zs.length (Nat.le_refl _)
    rw [sumL_all] at h1
    have h2 := (thr_bd (m + 1) (by omega)).1
    have h3 : (thr (m + 1) - 1) * (zs.length : Int) ≤ (thr (m + 1) - 1) * 10 := Int.mul_le_mul_of_nonneg_left (by have := hs.1; omega) (by omega)
    rcases level_spec (sumL zs) with ⟨h4, _⟩ | ⟨q, h4, h5, h6, _⟩
    · omega
    · rcases Nat.lt_or_ge q (m + 11) with h7 | h7
      · omega
      · have := thr_le h7
        rw [show m + 11 = (m + 1) + 10 from by omega, thr_ten] at this
        omega

theorem dotTo_in {zs ts : List Int} {a b : Int} (k : Nat) (hk : k ≤ ts.length) (h : ∀ i, i < k → a ≤ zs.getD i 0 ∧ zs.getD i 0 ≤ b) (ht : ∀ i, i < k → 0 ≤ ts.getD i 0) :
    a * sumL (ts.take k) ≤ dotTo zs ts k ∧ dotTo zs ts k ≤ b * sumL (ts.take k) := by
  induction k with
  | zero => simp [sumL, dotTo]
  | succ k ih =>
    have h1 := ih (by omega) (fun i hi => h i (by omega)) (fun i hi => ht i (by omega))
    have h2 := h k (by omega)
    have h3 := ht k (by omega)
    have h4 := Int.mul_le_mul_of_nonneg_right h2.1 h3
    have h5 := Int.mul_le_mul_of_nonneg_right h2.2 h3
    rw [sumL_succ ts k (by omega), dotTo, Int.mul_add, Int.mul_add]
    omega
theorem roundE_in {n d a b : Int} (hd : 1 ≤ d) (h1 : a * d ≤ n) (h2 : n ≤ b * d) : a ≤ roundE n d ∧ roundE n d ≤ b := by
  unfold roundE
  constructor
  · rw [Int.le_ediv_iff_mul_le (by omega)]
    have : a * (2 * d) = 2 * (a * d) := by rw [← Int.mul_assoc, Int.mul_comm a 2, Int.mul_assoc]
    omega
  · have : (2 * n + d) / (2 * d) < b + 1 := by
      rw [Int.ediv_lt_iff_lt_mul (by omega)]
      have : (b + 1) * (2 * d) = 2 * (b * d) + 2 * d := by rw [Int.add_mul, ← Int.mul_assoc, Int.mul_comm b 2, Int.mul_assoc]; omega
      omega
    omega
theorem sumL_from {ts : List Int} (h : ∀ i, i < ts.length → 1 ≤ ts.getD i 0 ∧ ts.getD i 0 ≤ 1000) (k : Nat) (hk : k ≤ ts.length) : (k : Int) ≤ sumL (ts.take k) ∧ sumL (ts.take k) ≤ 1000 * (k : Int) := by
  induction k with
  | zero => simp [sumL]
  | succ k ih =>
    rw [sumL_succ ts k (by omega)]
    have := ih (by omega)
    have := h k (by omega)
    omega
theorem Ends.mean {zs ts : List Int} {a b g : Int} (hs : SmallE zs) (h : Ends zs zs.length a b g) (h0 : 1 ≤ zs.length) (hl : ts.length = zs.length) (ht : ∀ i, i < ts.length → 1 ≤ ts.getD i 0 ∧ ts.getD i 0 ≤ 1000) :
    avgErr zs ts = 0 ∧ a ≤ avgVal zs ts ∧ avgVal zs ts ≤ b := by
  have hp : avgPre zs ts = 0 := by
    unfold avgPre
    refine firstE_all fun x hx => ?_
    simp only [List.mem_cons, List.not_mem_nil, or_false] at hx
    rcases hx with rfl | rfl
    · exact checkEnergiesE_of hs.valid
    · unfold checkTicksE
      rw [if_pos hl]
      unfold firstInE
      refine firstE_all fun x hx => ?_
      obtain ⟨y, hy, rfl⟩ := List.mem_map.1 hx
      obtain ⟨i, hi, rfl⟩ := getD_mem 0 ts y hy
      have := ht i hi
      exact withinE_of (by omega) (by omega)
  have hsum := sumL_from ht ts.length (Nat.le_refl _)
  rw [sumL_all] at hsum
  have h10 := hs.1
  unfold avgErr avgVal
  rw [if_pos hp, if_pos hp, if_neg (by omega), if_neg (by omega), if_neg (by omega), if_neg (by omega)]
  have hd := dotTo_in (zs := zs) (ts := ts) (a := a) (b := b) ts.length (Nat.le_refl _) (fun i hi => ⟨h.least i (by omega), h.most i (by omega)⟩) (fun i hi => by have := ht i hi; omega)
  rw [sumL_all, hl] at hd
  exact ⟨rfl, roundE_in (by omega) hd.1 hd.2⟩

theorem penF_in (t : Int) : 1 ≤ penF t ∧ penF t ≤ 10 := by unfold penF; split <;> (try split) <;> (try split) <;> omega
theorem penL_in (hs : List (Int × Int)) (h : ∀ x ∈ hs, 0 ≤ x.2) : sumL (hs.map (·.2)) ≤ sumL (penL hs) ∧ sumL (penL hs) ≤ 10 * sumL (hs.map (·.2)) := by
  induction hs with
  | nil => simp [penL, sumL]
  | cons x l ih =>
    have h1 := ih (fun y hy => h y (by simp [hy]))
    have h2 := h x (by simp)
    have h3 := penF_in x.1
    have h4 := Int.mul_le_mul_of_nonneg_right h3.1 h2
    have h5 := Int.mul_le_mul_of_nonneg_right h3.2 h2
    unfold penL at h1
    simp only [penL, List.map_cons, sumL]
    omega
theorem pen_small {hs : List (Int × Int)} (hn : hs.length ≤ 10) (ht : ∀ x ∈ hs, 0 ≤ x.1 ∧ x.1 ≤ 86399) (he : ∀ x ∈ hs, 0 ≤ x.2) (hb : sumL (hs.map (·.2)) ≤ 10000000000) (he2 : ∀ x ∈ hs, x.2 ≤ 1000000000) :
    penErr hs = 0 ∧ sumL (hs.map (·.2)) ≤ penVal hs ∧ penVal hs ≤ 10 * sumL (hs.map (·.2)) := by
  have hp : penPre hs = 0 := by
    unfold penPre
    refine firstE_all fun x hx => ?_
    simp only [List.mem_cons, List.not_mem_nil, or_false] at hx
    rcases hx with rfl | rfl
    · exact atMostE_of (by omega)
    · unfold firstInH
      refine firstE_all fun x hx => ?_
      obtain ⟨y, hy, rfl⟩ := List.mem_map.1 hx
      have h1 := ht y hy
      have h2 := he y hy
      have h3 := he2 y hy
      unfold heardE
      refine firstE_all fun x hx => ?_
      simp only [List.mem_cons, List.not_mem_nil, or_false] at hx
      rcases hx with rfl | rfl
      · exact withinE_of h1.1 h1.2
      · exact checkEnergyE_of h2 (by omega)
  have h1 := penL_in hs he
  unfold penErr penVal overE capE
  rw [if_pos hp, if_pos hp, if_neg (by omega), if_neg (by omega)]
  exact ⟨rfl, h1⟩

theorem through_in {e d low high : Int} (h0 : 0 ≤ e) (h1 : e ≤ 1000000000) (h2 : 0 ≤ d) (h3 : d ≤ 1000) (h4 : 0 ≤ low) (h5 : low ≤ high) (h6 : high ≤ 1000) :
    throughErr e (e + d) low high = 0 ∧ ∀ x f : Int, e ≤ x → x ≤ e + d → low ≤ f → f ≤ high → 1000 * throughLow e (e + d) low high ≤ x * f ∧ x * f ≤ 1000 * throughHigh e (e + d) low high := by
  have hp : throughErr e (e + d) low high = 0 := by
    unfold throughErr
    refine firstE_all fun x hx => ?_
    simp only [List.mem_cons, List.not_mem_nil, or_false] at hx
    rcases hx with rfl | rfl
    · unfold intervalE
      refine firstE_all fun x hx => ?_
      simp only [List.mem_cons, List.not_mem_nil, or_false] at hx
      rcases hx with rfl | rfl | rfl
      · exact checkEnergyE_of h0 (by omega)
      · exact checkEnergyE_of (by omega) (by omega)
      · unfold ordE; rw [if_neg (by omega)]
    · unfold intervalE
      refine firstE_all fun x hx => ?_
      simp only [List.mem_cons, List.not_mem_nil, or_false] at hx
      rcases hx with rfl | rfl | rfl
      · exact withinE_of h4 (by omega)
      · exact withinE_of (by omega) h6
      · unfold ordE; rw [if_neg (by omega)]
  refine ⟨hp, fun x f hx1 hx2 hf1 hf2 => ?_⟩
  unfold throughLow throughHigh
  rw [if_pos hp, if_pos hp]
  have a1 := Int.mul_le_mul_of_nonneg_left hf1 h0
  have a2 := Int.mul_le_mul_of_nonneg_right hx1 (show (0:Int) ≤ f by omega)
  have a3 := Int.mul_le_mul_of_nonneg_left hf2 (show (0:Int) ≤ x by omega)
  have a4 := Int.mul_le_mul_of_nonneg_right hx2 (show (0:Int) ≤ high by omega)
  omega
theorem prod_le {x f : Int} (h0 : 0 ≤ x) (h1 : x ≤ 1000002000) (h2 : 0 ≤ f) (h3 : f ≤ 1000) : 0 ≤ x * f ∧ x * f ≤ 1000002000000 := by
  have a1 := Int.mul_le_mul_of_nonneg_left h3 h0
  exact ⟨Int.mul_nonneg h0 h2, by omega⟩

end Go.Proofs.YtoipafnlcchmbaaGreatDoor
