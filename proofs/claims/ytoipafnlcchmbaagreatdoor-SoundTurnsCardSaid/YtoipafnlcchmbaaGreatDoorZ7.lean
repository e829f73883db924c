/- What comes back out of a stream, and what does not; that a permutation has each number once. -/
import Derived.Test.YtoipafnlcchmbaaGreatDoorQYx
import Derived.Test.YtoipafnlcchmbaaGreatDoorU1
namespace Go.Proofs.YtoipafnlcchmbaaGreatDoor
open Go.RowKit

theorem packL_size (gs : List Nat) : (packL gs).length = 14 + gs.length * 4 := by
  unfold packL
  rw [List.length_append, packHead_len gs _ (Nat.le_refl _), sealL_len]
  omega
theorem packL_take (gs : List Nat) : (packL gs).take (6 + gs.length * 4) = packHead gs gs.length := by
  unfold packL
  rw [← packHead_len gs _ (Nat.le_refl _), List.take_left]
theorem packL_drop (gs : List Nat) : (packL gs).drop (6 + gs.length * 4) = sealL z8 (packHead gs gs.length) := by
  unfold packL
  rw [← packHead_len gs _ (Nat.le_refl _), List.drop_left]; rfl
theorem packL_nums (gs : List Nat) (hb : ∀ b ∈ gs, b < 4294967296) : numsOf (packL gs) = gs := by
  have hl : (numsOf (packL gs)).length = gs.length := by rw [numsOf_len, packL_size]; omega
  apply List.ext_getElem hl
  intro i h1 h2
  have e1 : (numsOf (packL gs)).getD i 0 = gs.getD i 0 := by
    rw [numsOf_at _ i (by rw [packL_size]; omega)]
    have p0 := packL_mid gs i 0 h2 (by omega)
    have p1 := packL_mid gs i 1 h2 (by omega)
    have p2 := packL_mid gs i 2 h2 (by omega)
    have p3 := packL_mid gs i 3 h2 (by omega)
    have hlt : gs.getD i 0 < 4294967296 := by
      rw [List.getD_eq_getElem?_getD, List.getElem?_eq_getElem h2]
      exact hb _ (List.getElem_mem _)
    unfold num4
    rw [Nat.add_zero] at p0
    generalize gs.getD i 0 = x at hlt p0 p1 p2 p3 ⊢
    have q0 : (b4 (x : Int)).getD 0 0 = (x : Int) / 16777216 := rfl
    have q1 : (b4 (x : Int)).getD 1 0 = (x : Int) / 65536 % 256 := rfl
    have q2 : (b4 (x : Int)).getD 2 0 = (x : Int) / 256 % 256 := rfl
    have q3 : (b4 (x : Int)).getD 3 0 = (x : Int) % 256 := rfl
    rw [p0, p1, p2, p3, q0, q1, q2, q3]
    clear p0 p1 p2 p3 q0 q1 q2 q3
    omega
  rw [List.getD_eq_getElem?_getD, List.getD_eq_getElem?_getD, List.getElem?_eq_getElem h1, List.getElem?_eq_getElem h2] at e1
  exact e1
theorem stream_back (gs : List Nat) (hm : gs.length ≤ 4096) (hb : ∀ b ∈ gs, b < 4294967296) (hs : samplesE gs = 0) : unpackE (packL gs) = 0 ∧ unpackL (packL gs) = gs := by
  have h0 : streamE (packL gs) = 0 := by
    unfold streamE
    rw [packL_size, if_neg (by omega), if_neg (by omega), if_neg, if_neg, if_neg]
    · rw [show 14 + gs.length * 4 - 8 = 6 + gs.length * 4 by omega, packL_drop, packL_take]; simp
    · have e4 : (packL gs).getD 4 0 = (gs.length : Int) / 256 := rfl
      have e5 : (packL gs).getD 5 0 = (gs.length : Int) % 256 := rfl
      rw [e4, e5]
      omega
    · have e : (packL gs).take 4 = magicL := rfl
      simp [e]
  have h1 : unpackE (packL gs) = 0 := by unfold unpackE; rw [if_pos h0, packL_nums gs hb]; exact hs
  refine ⟨h1, ?_⟩
  unfold unpackL
  rw [if_pos h1, packL_nums gs hb]
theorem stream_broken (gs : List Nat) (hm : gs.length ≤ 4096) (hb : ∀ b ∈ gs, b < 4294967296) (i : Nat) (v : Int) (hi : i < (packL gs).length) (hv : 0 ≤ v ∧ v ≤ 255) (hne : v ≠ (packL gs).getD i 0) : unpackE ((packL gs).set i v) ≠ 0 := by
  intro h
  have h0 : streamE ((packL gs).set i v) = 0 := by
    unfold unpackE at h
    by_cases hs : streamE ((packL gs).set i v) = 0
    · exact hs
    · rw [if_neg hs] at h; exact h
  have hl := packL_size gs
  obtain ⟨T, hT⟩ : ∃ T, T = 6 + gs.length * 4 := ⟨_, rfl⟩
  have h1 : ((packL gs).set i v).drop T = sealL z8 (((packL gs).set i v).take T) := by
    unfold streamE at h0
    rw [List.length_set, hl, show 14 + gs.length * 4 - 8 = T by omega] at h0
    refine Classical.byContradiction fun hc => ?_
    by_cases c1 : 400000 < 14 + gs.length * 4
    · rw [if_pos c1] at h0; cases h0
    · rw [if_neg c1, if_neg (by omega)] at h0
      by_cases c3 : ((packL gs).set i v).take 4 ≠ magicL
      · rw [if_pos c3] at h0; cases h0
      · rw [if_neg c3] at h0
        by_cases c4 : ((14 + gs.length * 4 : Nat) : Int) ≠ 14 + 4 * (((packL gs).set i v).getD 4 0 * 256 + ((packL gs).set i v).getD 5 0)
        · rw [if_pos c4] at h0; cases h0
        · rw [if_neg c4, if_pos hc] at h0; cases h0
  have hd := packL_drop gs
  have ht := packL_take gs
  rw [← hT] at hd ht
  have hH := packHead_all gs hb hm
  have hHl := packHead_len gs _ (Nat.le_refl gs.length)
  by_cases hlt : i < T
  · rw [List.drop_set_of_lt hlt, hd, List.take_set, ht] at h1
    have e0 : (sealL z8 (packHead gs gs.length)).getD 0 0 = (sealL z8 ((packHead gs gs.length).set i v)).getD 0 0 := by rw [← h1]
    rw [sealL_at z8 _ 0 (by omega), sealL_at z8 _ 0 (by omega)] at e0
    have hg : (packL gs).getD i 0 = (packHead gs gs.length).getD i 0 := by
      rw [← ht, List.getD_eq_getElem?_getD, List.getD_eq_getElem?_getD, List.getElem?_take_of_lt hlt]
    rw [hg] at hne
    exact seal_differs z8 (packHead gs gs.length) i 0 v (by omega) (by omega) hv (hH i (by omega)) hne e0.symm
  · rw [List.take_set_of_le (by omega), ht, List.drop_set, if_neg hlt, hd] at h1
    have e0 : ((sealL z8 (packHead gs gs.length)).set (i - T) v).getD (i - T) 0 = (sealL z8 (packHead gs gs.length)).getD (i - T) 0 := by rw [h1]
    rw [getD_set_self _ _ _ _ (by rw [sealL_len]; omega), ← hd, List.getD_eq_getElem?_getD, List.getElem?_drop, show T + (i - T) = i by omega, ← List.getD_eq_getElem?_getD] at e0
    exact hne e0

/-- Each number below n once. -/
def Each (n : Nat) (l : List Int) : Prop := l.length = n ∧ (∀ i, i < n → 0 ≤ l.getD i 0 ∧ l.getD i 0 < n) ∧ ∀ i j, i < n → j < n → l.getD i 0 = l.getD j 0 → i = j
theorem swap_at (l : List Int) (i j m : Nat) (hi : i < l.length) (hj : j < l.length) : (swapL l i j).getD m 0 = if m = j then l.getD i 0 else if m = i then l.getD j 0 else l.getD m 0 := by
  unfold swapL
  by_cases h1 : m = j
  · subst h1
    rw [if_pos rfl, getD_set_self _ _ _ _ (by simpa using hj)]
  · rw [if_neg h1, getD_set_other _ _ _ _ _ (fun h => h1 h.symm)]
    by_cases h2 : m = i
    · subst h2
      rw [if_pos rfl, getD_set_self _ _ _ _ hi]
    · rw [if_neg h2, getD_set_other _ _ _ _ _ (fun h => h2 h.symm)]
theorem Each.swap {n : Nat} {l : List Int} (h : Each n l) (i j : Nat) (hi : i < n) (hj : j < n) : Each n (swapL l i j) := by
  obtain ⟨h1, h2, h3⟩ := h
  have sw := fun m => swap_at l i j m (by omega) (by omega)
  refine ⟨by rw [swapL_length, h1], fun m hm => ?_, fun a b ha hb hab => ?_⟩
  · rw [sw m]
    split
    · exact h2 i hi
    · split
      · exact h2 j hj
      · exact h2 m hm
  · rw [sw a, sw b] at hab
    split at hab <;> split at hab <;> (try split at hab) <;> (try split at hab)
    all_goals (first | omega | (have := h3 _ _ (by assumption) (by assumption) hab; omega))
theorem each_fill (n : Nat) : Each n (fillL n n) := by
  have hg : ∀ i, i < n → (fillL n n).getD i 0 = (i : Int) := fun i hi => by simp [fillL, List.getD_eq_getElem?_getD, hi]
  refine ⟨fillL_length n n, fun i hi => by rw [hg i hi]; omega, fun i j hi hj h => ?_⟩
  rw [hg i hi, hg j hj] at h
  omega
theorem each_go (n : Nat) : ∀ (k : Nat) (x : Int) (l : List Int), k < n → Each n l → Each n (drawGo k x l)
  | 0, _, _, _, h => h
  | k + 1, x, l, hk, h => by
    rw [drawGo]
    refine each_go n k _ _ (by omega) (h.swap _ _ hk ?_)
    have h1 := Int.emod_nonneg (drawStep x) (show (k : Int) + 2 ≠ 0 by omega)
    have h2 := Int.emod_lt_of_pos (drawStep x) (show (0 : Int) < (k : Int) + 2 by omega)
    omega
theorem each_draw (number : Int) (n : Nat) : Each n (drawL number n) := by
  by_cases h : n = 0
  · subst h; exact each_fill 0
  · exact each_go n (n - 1) number _ (by omega) (each_fill n)
end Go.Proofs.YtoipafnlcchmbaaGreatDoor
