/- Sums of lists of integers. Sums and means, of the program and of the reference. Means, the greatest, how many are above a level: of the program and of the reference. The greatest; how many are above a level; copies of lists. The reference's level, greatest, and how many are above. -/
import Derived.Test.YtnbionhahifacaaDoorQB
namespace Go.Proofs.YtnbionhahifacaaDoor
open Go.RowKit

def sumL : List Int → Int
  | [] => 0
  | x :: l => x + sumL l
theorem sumL_append (a b : List Int) : sumL (a ++ b) = sumL a + sumL b := by
  induction a with
  | nil => simp [sumL]
  | cons x l ih => simp only [List.cons_append, sumL, ih]; omega
theorem take_snocI (zs : List Int) (k : Nat) (h : k < zs.length) : zs.take (k + 1) = zs.take k ++ [zs.getD k 0] := by
  rw [List.take_succ_eq_append_getElem h]; simp [List.getD_eq_getElem?_getD, List.getElem?_eq_getElem h]
theorem sumL_succ (zs : List Int) (k : Nat) (h : k < zs.length) : sumL (zs.take (k + 1)) = sumL (zs.take k) + zs.getD k 0 := by
  rw [take_snocI zs k h, sumL_append]; simp [sumL]
theorem sumL_all (zs : List Int) : sumL (zs.take zs.length) = sumL zs := by rw [List.take_length]
theorem sumL_bd (zs : List Int) (h : ∀ i, i < zs.length → 0 ≤ zs.getD i 0 ∧ zs.getD i 0 ≤ 100000000000000) (k : Nat) (hk : k ≤ zs.length) :
    0 ≤ sumL (zs.take k) ∧ sumL (zs.take k) ≤ 100000000000000 * (k : Int) := by
  induction k with
  | zero => simp [sumL]
  | succ k ih =>
    rw [sumL_succ zs k (by omega)]
    have := ih (by omega)
    have := h k (by omega)
    omega
theorem sumL_mono (zs : List Int) (h : ∀ i, i < zs.length → 0 ≤ zs.getD i 0) (k : Nat) (hk : k ≤ zs.length) : sumL (zs.take k) ≤ sumL zs := by
  have h2 : sumL zs = sumL (zs.take k) + sumL (zs.drop k) := by rw [← sumL_append, List.take_append_drop]
  have h3 : ∀ l : List Int, (∀ x ∈ l, 0 ≤ x) → 0 ≤ sumL l := by
    intro l hl
    induction l with
    | nil => simp [sumL]
    | cons x l ih => simp only [sumL]; have := hl x (by simp); have := ih (fun y hy => hl y (by simp [hy])); omega
  have := h3 (zs.drop k) (fun x hx => by
    obtain ⟨i, hi, rfl⟩ := List.getElem_of_mem hx
    simp only [List.length_drop] at hi
    have := h (k + i) (by omega)
    rw [List.getElem_drop]
    simpa [List.getD_eq_getElem?_getD, List.getElem?_eq_getElem (show k + i < zs.length from by omega)] using this)
  omega

/-- The sum of the products. -/
def dotL : List Int → List Int → Int
  | x :: l, t :: r => x * t + dotL l r
  | _, _ => 0
def dotTo (xs ts : List Int) : Nat → Int
  | 0 => 0
  | k + 1 => dotTo xs ts k + xs.getD k 0 * ts.getD k 0
theorem mul_bd {x t : Int} (hx : 0 ≤ x) (hx2 : x ≤ 10000000000000) (ht : 0 ≤ t) : 0 ≤ x * t ∧ x * t ≤ 10000000000000 * t :=
  ⟨Int.mul_nonneg hx ht, Int.mul_le_mul_of_nonneg_right hx2 ht⟩
theorem dotTo_bd (xs ts : List Int) (hl : ts.length = xs.length) (h : ∀ i, i < xs.length → 0 ≤ xs.getD i 0 ∧ xs.getD i 0 ≤ 10000000000000) (ht : ∀ i, i < ts.length → 0 ≤ ts.getD i 0)
    (k : Nat) (hk : k ≤ xs.length) : 0 ≤ dotTo xs ts k ∧ dotTo xs ts k ≤ 10000000000000 * sumL (ts.take k) := by
  induction k with
  | zero => simp [dotTo, sumL]
  | succ k ih =>
    have h1 := ih (by omega)
    have h2 := h k (by omega)
    have h3 := ht k (by omega)
    have h4 := mul_bd h2.1 h2.2 h3
    rw [sumL_succ ts k (by omega), dotTo]
    omega

/-- Valid energies. -/
def ValidE (zs : List Int) : Prop := zs.length ≤ 1024 ∧ ∀ i, i < zs.length → 0 ≤ zs.getD i 0 ∧ zs.getD i 0 ≤ 10000000000000
theorem firstE_zero {l : List Int} (h : firstE l = 0) : ∀ x ∈ l, x = 0 := by
  induction l with
  | nil => simp
  | cons y l ih =>
    unfold firstE at h
    by_cases hy : y = 0
    · rw [if_pos hy] at h
      intro x hx
      rcases List.mem_cons.1 hx with rfl | hx
      · exact hy
      · exact ih h x hx
    · rw [if_neg hy] at h; exact absurd h hy
theorem firstInE_zero {f : Int → Int} {zs : List Int} (h : firstInE f zs = 0) (i : Nat) (hi : i < zs.length) : f (zs.getD i 0) = 0 := by
  refine firstE_zero h _ ?_
  rw [List.getD_eq_getElem?_getD, List.getElem?_eq_getElem hi]
  exact List.mem_map.2 ⟨_, List.getElem_mem hi, rfl⟩
theorem validE_of {zs : List Int} (h : checkEnergiesE zs = 0) : ValidE zs := by
  have h2 := firstE2_zero h
  refine ⟨?_, fun i hi => withinE_zero (firstInE_zero h2.2 i hi)⟩
  have := h2.1
  unfold atMostE at this
  split at this <;> omega
theorem firstE_ne (a b : Int) : firstE [a, b] = if a = 0 then b else a := by
  unfold firstE; split
  · unfold firstE; split
    · simp [firstE]; omega
    · rfl
  · rfl

/-- The mean, rounded. -/
def roundE (n d : Int) : Int := (2 * n + d) / (2 * d)
def overE (s : Int) : Int := if 10000000000000 < s then 4 else 0
def capE (s : Int) : Int := if 10000000000000 < s then 0 else s
def sumErr (zs : List Int) : Int := if checkEnergiesE zs = 0 then overE (sumL zs) else checkEnergiesE zs
def sumVal (zs : List Int) : Int := if checkEnergiesE zs = 0 then capE (sumL zs) else 0

def checkTickE (t : Int) : Int := withinE t 0 86400
def checkTicksE (ts : List Int) (n : Nat) : Int := if ts.length = n then firstInE checkTickE ts else 2
def avgPre (xs ts : List Int) : Int := firstE [checkEnergiesE xs, checkTicksE ts xs.length]
def avgErr (xs ts : List Int) : Int := if avgPre xs ts = 0 then (if 86400 < sumL ts then 4 else if sumL ts = 0 then 6 else 0) else avgPre xs ts
def avgVal (xs ts : List Int) : Int := if avgPre xs ts = 0 then (if 86400 < sumL ts then 0 else if sumL ts = 0 then 0 else roundE (dotTo xs ts xs.length) (sumL ts)) else 0
theorem avgPre_zero {xs ts : List Int} (h : avgPre xs ts = 0) : ValidE xs ∧ ts.length = xs.length ∧ ∀ i, i < ts.length → 0 ≤ ts.getD i 0 ∧ ts.getD i 0 ≤ 86400 := by
  have h2 := firstE2_zero h
  have h3 := h2.2
  unfold checkTicksE at h3
  split at h3
  · rename_i hl
    exact ⟨validE_of h2.1, hl, fun i hi => withinE_zero (firstInE_zero h3 i hi)⟩
  · cases h3

end Go.Proofs.YtnbionhahifacaaDoor
namespace Go.Proofs.YtnbionhahifacaaDoor
open Go.RowKit

set_option maxHeartbeats 1000000 in
theorem total_any (A : Option Addr) (n c : Nat) (zs : List Int) (w : World) (hz : IntsAt w A n zs) (hn : n ≤ 1024)
    (hv : ∀ i, i < zs.length → 0 ≤ zs.getD i 0 ∧ zs.getD i 0 ≤ 100000000000000) :
    Calls Tryd.prog 30 #[.slice A n c] w fun e w' => e = .returned (.int .i64 (sumL zs)) ∧ w = w' := by
  obtain ⟨hl, hc⟩ := hz
  have HL := Lib.hid hl
  have HC := Lib.hid hc
  have HV := Lib.hid hv
  clear hl hc hv
  go_enter Tryd.func30, Tryd.ntmps30
  go_wp2
  go_loop [3, 5, 8] (fun s _ i => ∃ k : Nat, k ≤ n ∧ i = .int .i64 k ∧ s = .int .i64 (sumL (zs.take k))) (fun _ _ i => n - (intOf i).toNat)
  case atStart => exact ⟨0, Nat.zero_le _, rfl, rfl⟩
  case round =>
    obtain ⟨k, hk, rfl, rfl⟩ := hrel
    by_cases hlt : k < n
    · obtain ⟨b, off, rfl, hcc⟩ := HC.out (by omega)
      have b1 := sumL_bd zs HV.out k (by rw [HL.out]; omega)
      have b2 := HV.out k (by rw [HL.out]; exact hlt)
      have HS := Lib.hid (sumL_succ zs k (by rw [HL.out]; exact hlt))
      have h0 := hcc k hlt
      obtain ⟨x, hx⟩ : ∃ x, x = zs.getD k 0 := ⟨_, rfl⟩
      obtain ⟨s, hs⟩ : ∃ s, s = sumL (zs.take k) := ⟨_, rfl⟩
      rw [← hx] at h0 b2 HS
      rw [← hs] at b1 HS ⊢
      clear hcc hx hs
      obtain ⟨b11, b12⟩ := b1
      obtain ⟨b21, b22⟩ := b2
      go_wp2
      go_round
      case rel => exact ⟨k + 1, by omega, by go_num, by rw [HS.out]⟩
      case measure => simp [intOf]; omega
    · go_wp2
      go_ret
      obtain rfl : k = n := by omega
      exact ⟨ret_int (by rw [← HL.out, sumL_all]), rfl⟩

theorem asEnergy_any (s : Int) (w : World) :
    Calls Tryd.prog 29 #[.int .i64 s] w fun e w' => e = .returned (.tuple #[.int .i64 (capE s), .int .i64 (overE s)]) ∧ w = w' := by
  by_cases h : 10000000000000 < s
  · have e1 : capE s = 0 := by simp [capE, h]
    have e2 : overE s = 4 := by simp [overE, h]
    rw [e1, e2]; clear e1 e2
    go_enter Tryd.func29, Tryd.ntmps29
    go_wp2
    go_ret2
    exact ⟨rfl, rfl⟩
  · have e1 : capE s = s := by simp [capE, h]
    have e2 : overE s = 0 := by simp [overE, h]
    rw [e1, e2]; clear e1 e2
    go_enter Tryd.func29, Tryd.ntmps29
    go_wp2
    go_ret2
    exact ⟨rfl, rfl⟩

set_option maxHeartbeats 1000000 in
theorem Sum_any (A : Option Addr) (n c : Nat) (zs : List Int) (w : World) (hz : IntsAt w A n zs) (hn : n ≤ 140737488351232) :
    Calls Tryd.prog 10 #[.slice A n c] w fun e w' => e = .returned (.tuple #[.int .i64 (sumVal zs), .int .i64 (sumErr zs)]) ∧ Below w.heap.size w w' := by
  have HZ := Lib.hid hz
  clear hz
  obtain ⟨E, hE⟩ : ∃ E, E = checkEnergiesE zs := ⟨_, rfl⟩
  have HE := Lib.hid hE
  clear hE
  by_cases h : E = 0
  · have hv := validE_of (HE.out.symm.trans h)
    have h1 : (E != 0) = false := by simp [h]
    have r1 : Hid (sumVal zs = capE (sumL zs)) := by show _ = _; unfold sumVal; rw [if_pos (HE.out.symm.trans h)]
    have r2 : Hid (sumErr zs = overE (sumL zs)) := by show _ = _; unfold sumErr; rw [if_pos (HE.out.symm.trans h)]
    rw [r1.out, r2.out]
    have HV := Lib.hid hv
    have hn2 : n ≤ 1024 := by have := hv.1; rw [HZ.out.1] at this; exact this
    clear hv h
    go_enter Tryd.func10, Tryd.ntmps10
    go_wp2_with fail
    refine (checkEnergies_any A n c zs w hn HZ.out).mono ?_
    rw [← HE.out]
    rintro e w1 ⟨rfl, hb⟩
    have HZ1 := Lib.hid (HZ.out.keep hb)
    have HB := Lib.hid hb
    clear hb
    go_wp2_with fail
    refine (total_any A n c zs w1 HZ1.out hn2 (fun i hi => by have := HV.out.2 i hi; omega)).mono ?_
    rintro e w' ⟨rfl, rfl⟩
    go_wp2_with fail
    refine (asEnergy_any _ _).mono ?_
    rintro e w' ⟨rfl, rfl⟩
    go_wp2
    go_ret2
    exact ⟨rfl, HB.out⟩
  · have h1 : (E != 0) = true := by simp [h]
    have r1 : Hid (sumVal zs = 0) := by show _ = _; unfold sumVal; rw [if_neg (by rw [← HE.out]; exact h)]
    have r2 : Hid (sumErr zs = E) := by show _ = _; unfold sumErr; rw [if_neg (by rw [← HE.out]; exact h)]; exact HE.out.symm
    rw [r1.out, r2.out]
    clear h
    go_enter Tryd.func10, Tryd.ntmps10
    go_wp2_with fail
    refine (checkEnergies_any A n c zs w hn HZ.out).mono ?_
    rw [← HE.out]
    rintro e w1 ⟨rfl, hb⟩
    have HB := Lib.hid hb
    clear hb
    go_wp2
    go_ret2
    exact ⟨rfl, HB.out⟩

theorem floor_facts (x d : Int) (h3 : 1 ≤ d) : x / d * d ≤ x ∧ x - d < x / d * d := by
  have h := Int.mul_ediv_add_emod x d
  have h4 := Int.emod_nonneg x (show d ≠ 0 by omega)
  have h5 := Int.emod_lt_of_pos x (show 0 < d by omega)
  rw [Int.mul_comm] at h
  omega

end Go.Proofs.YtnbionhahifacaaDoor
namespace Go.Proofs.YtnbionhahifacaaDoor
open Go.RowKit

theorem checkTicksE_eq {ts : List Int} {n : Nat} (h : ts.length = n) : checkTicksE ts n = firstInE checkTickE ts := by unfold checkTicksE; rw [if_pos h]
theorem checkTicksE_ne {ts : List Int} {n : Nat} (h : ts.length ≠ n) : checkTicksE ts n = 2 := by unfold checkTicksE; rw [if_neg h]

end Go.Proofs.YtnbionhahifacaaDoor
namespace Go.Proofs.YtnbionhahifacaaDoor
open Go.RowKit

def maxAt (zs : List Int) : Nat → Nat
  | 0 => 0
  | k + 1 => if zs.getD (maxAt zs k) 0 < zs.getD k 0 then k else maxAt zs k
theorem maxAt_lt (zs : List Int) (k : Nat) (hk : 0 < k) : maxAt zs k < k := by
  induction k with
  | zero => omega
  | succ k ih =>
    rw [maxAt]
    split
    · omega
    · rcases Nat.eq_zero_or_pos k with rfl | h
      · simp [maxAt]
      · have := ih h; omega
theorem maxAt_le (zs : List Int) (k : Nat) : maxAt zs k ≤ k := by
  rcases Nat.eq_zero_or_pos k with rfl | h
  · simp [maxAt]
  · exact Nat.le_of_lt (maxAt_lt zs k h)
theorem maxAt_hit {zs : List Int} {k : Nat} (h : zs.getD (maxAt zs k) 0 < zs.getD k 0) : maxAt zs (k + 1) = k := by rw [maxAt, if_pos h]
theorem maxAt_miss {zs : List Int} {k : Nat} (h : ¬ zs.getD (maxAt zs k) 0 < zs.getD k 0) : maxAt zs (k + 1) = maxAt zs k := by rw [maxAt, if_neg h]
def maxErr (zs : List Int) : Int := if checkEnergiesE zs = 0 then (if zs.length = 0 then 12 else 0) else checkEnergiesE zs
def maxVal (zs : List Int) : Int := if checkEnergiesE zs = 0 then zs.getD (maxAt zs zs.length) 0 else 0
def maxIdx (zs : List Int) : Int := if checkEnergiesE zs = 0 then (maxAt zs zs.length : Int) else 0

theorem ret_int3 {a b c a' b' c' : Int} (h : a = a') (h2 : b = b') (h3 : c = c') : Ending.returned (.tuple #[.int .i64 a, .int .i64 b, .int .i64 c]) = .returned (.tuple #[.int .i64 a', .int .i64 b', .int .i64 c']) := by rw [h, h2, h3]

set_option maxHeartbeats 2000000 in
set_option maxRecDepth 100000 in
theorem Maximum_any (A : Option Addr) (n c : Nat) (zs : List Int) (w : World) (hz : IntsAt w A n zs) (hn : n ≤ 140737488351232) :
    Calls Tryd.prog 12 #[.slice A n c] w fun e w' => e = .returned (.tuple #[.int .i64 (maxVal zs), .int .i64 (maxIdx zs), .int .i64 (maxErr zs)]) ∧ Below w.heap.size w w' := by
  have HZ := Lib.hid hz
  have hl := Lib.hid hz.1
  clear hz
  obtain ⟨E, hE⟩ : ∃ E, E = checkEnergiesE zs := ⟨_, rfl⟩
  have HE := Lib.hid hE
  clear hE
  by_cases h : E = 0
  · have h1 : (E != 0) = false := by simp [h]
    have hp := Lib.hid (HE.out.symm.trans h)
    have r1 : Hid (maxVal zs = zs.getD (maxAt zs zs.length) 0) := by show _ = _; unfold maxVal; rw [if_pos hp.out]
    have r2 : Hid (maxIdx zs = (maxAt zs zs.length : Int)) := by show _ = _; unfold maxIdx; rw [if_pos hp.out]
    clear h
    rcases Nat.eq_zero_or_pos n with h0 | h0
    · have H0 : Hid (zs = []) := List.eq_nil_of_length_eq_zero (hl.out.trans h0)
      have r3 : Hid (maxErr zs = 12) := by show _ = _; unfold maxErr; rw [if_pos hp.out, H0.out]; rfl
      rw [r1.out, r2.out, r3.out]
      have h2 : ((n : Int) == 0) = true := by simp [h0]
      clear h0
      go_enter Tryd.func12, Tryd.ntmps12
      go_wp2_with fail
      refine (checkEnergies_any A n c zs w hn HZ.out).mono ?_
      rw [← HE.out]
      rintro e w1 ⟨rfl, hb⟩
      have HB := Lib.hid hb
      clear hb
      go_wp2
      go_ret3
      exact ⟨by rw [H0.out]; rfl, HB.out⟩
    · have h2 : ((n : Int) == 0) = false := by simp; omega
      have r3 : Hid (maxErr zs = 0) := by show _ = _; unfold maxErr; rw [if_pos hp.out, if_neg (by rw [hl.out]; omega)]
      rw [r1.out, r2.out, r3.out]
      go_enter Tryd.func12, Tryd.ntmps12
      go_wp2_with fail
      refine (checkEnergies_any A n c zs w hn HZ.out).mono ?_
      rw [← HE.out]
      rintro e w1 ⟨rfl, hb⟩
      have HZ1 := Lib.hid (HZ.out.keep hb)
      have HB := Lib.hid hb
      clear hb
      go_wp2
      clear h2
      go_loop [6, 7, 8, 19] (fun at_ _ _ i => ∃ k : Nat, k ≤ n ∧ i = .int .i64 k ∧ at_ = .int .i64 (maxAt zs k)) (fun _ _ _ i => n - (intOf i).toNat)
      case atStart => exact ⟨0, Nat.zero_le _, rfl, rfl⟩
      case round =>
        obtain ⟨k, hk, rfl, rfl⟩ := hrel
        have hm := maxAt_le zs k
        have hmn : maxAt zs k < n := by
          rcases Nat.eq_zero_or_pos k with rfl | h
          · simpa [maxAt] using h0
          · have := maxAt_lt zs k h; omega
        by_cases hlt : k < n
        · obtain ⟨b, off, rfl, hcc⟩ := HZ1.out.2 (by omega)
          have c1 := hcc k hlt
          have c2 := hcc (maxAt zs k) hmn
          have q1 := Lib.hid (maxAt_hit (zs := zs) (k := k))
          have q2 := Lib.hid (maxAt_miss (zs := zs) (k := k))
          obtain ⟨m, hm2⟩ : ∃ m, m = maxAt zs k := ⟨_, rfl⟩
          rw [← hm2] at hm hmn c2 q1 q2 ⊢
          obtain ⟨x, hx⟩ : ∃ x, x = zs.getD k 0 := ⟨_, rfl⟩
          obtain ⟨y, hy⟩ : ∃ y, y = zs.getD m 0 := ⟨_, rfl⟩
          rw [← hx] at c1 q1 q2
          rw [← hy] at c2 q1 q2
          clear hcc hm2 hx hy
          by_cases hxy : y < x
          · have hQ : Hid (maxAt zs (k + 1) = k) := q1.out hxy
            clear q1 q2
            go_wp2
            go_round
            case rel => exact ⟨k + 1, by omega, by go_num, by rw [hQ.out]⟩
            case measure => simp [intOf]; omega
          · have hQ : Hid (maxAt zs (k + 1) = m) := q2.out hxy
            clear q1 q2
            go_wp2
            go_round
            case rel => exact ⟨k + 1, by omega, by go_num, by rw [hQ.out]⟩
            case measure => simp [intOf]; omega
        · obtain rfl : k = n := by omega
          obtain ⟨b, off, rfl, hcc⟩ := HZ1.out.2 (by omega)
          have c2 := hcc (maxAt zs k) hmn
          clear hcc
          go_wp2
          go_ret3
          exact ⟨by rw [hl.out]; rfl, HB.out⟩
  · have h1 : (E != 0) = true := by simp [h]
    have r1 : Hid (maxVal zs = 0) := by show _ = _; unfold maxVal; rw [if_neg (by rw [← HE.out]; exact h)]
    have r2 : Hid (maxIdx zs = 0) := by show _ = _; unfold maxIdx; rw [if_neg (by rw [← HE.out]; exact h)]
    have r3 : Hid (maxErr zs = E) := by show _ = _; unfold maxErr; rw [if_neg (by rw [← HE.out]; exact h)]; exact HE.out.symm
    rw [r1.out, r2.out, r3.out]
    clear h
    go_enter Tryd.func12, Tryd.ntmps12
    go_wp2_with fail
    refine (checkEnergies_any A n c zs w hn HZ.out).mono ?_
    rw [← HE.out]
    rintro e w1 ⟨rfl, hb⟩
    have HB := Lib.hid hb
    clear hb
    go_wp2
    go_ret3
    exact ⟨rfl, HB.out⟩

/-- How many of the first k are at least t. -/
def cntTo (zs : List Int) (t : Int) : Nat → Nat
  | 0 => 0
  | k + 1 => if t ≤ zs.getD k 0 then cntTo zs t k + 1 else cntTo zs t k
theorem cntTo_le (zs : List Int) (t : Int) (k : Nat) : cntTo zs t k ≤ k := by
  induction k with
  | zero => simp [cntTo]
  | succ k ih => rw [cntTo]; split <;> omega
theorem cntTo_hit {zs : List Int} {t : Int} {k : Nat} (h : t ≤ zs.getD k 0) : cntTo zs t (k + 1) = cntTo zs t k + 1 := by rw [cntTo, if_pos h]
theorem cntTo_miss {zs : List Int} {t : Int} {k : Nat} (h : ¬ t ≤ zs.getD k 0) : cntTo zs t (k + 1) = cntTo zs t k := by rw [cntTo, if_neg h]
def aboveErr (zs : List Int) (l : Int) : Int := firstE [checkEnergiesE zs, withinE l 0 120]
def aboveVal (zs : List Int) (l : Int) : Int := if aboveErr zs l = 0 then (cntTo zs (thr l.toNat) zs.length : Int) else 0

end Go.Proofs.YtnbionhahifacaaDoor
namespace Go.Proofs.YtnbionhahifacaaDoor
open Go.RowKit

theorem levelOf_bd (e : Int) (k : Nat) : -1 ≤ levelOf e k ∧ levelOf e k < (k : Int) := by
  induction k with
  | zero => simp [levelOf]
  | succ k ih => rw [levelOf]; split <;> omega
theorem levelOf_hit {e : Int} {k : Nat} (h : thr k ≤ e) : levelOf e (k + 1) = k := by rw [levelOf, if_pos h]
theorem levelOf_miss {e : Int} {k : Nat} (h : ¬ thr k ≤ e) : levelOf e (k + 1) = levelOf e k := by rw [levelOf, if_neg h]

theorem level_ge {e : Int} {m : Nat} (hm : m ≤ 120) (h : thr m ≤ e) : (m : Int) ≤ level e := by
  have key : ∀ k, m < k → k ≤ 121 → (m : Int) ≤ levelOf e k := by
    intro k
    induction k with
    | zero => omega
    | succ k ih =>
      intro h1 h2
      rw [levelOf]
      split
      · omega
      · by_cases hk : m = k
        · subst hk; contradiction
        · exact ih (by omega) (by omega)
  exact key 121 (by omega) (Nat.le_refl _)
theorem level_lt {e : Int} {m : Nat} (h : e < thr m) : level e < (m : Int) := by
  have key : ∀ k, levelOf e k < (m : Int) := by
    intro k
    induction k with
    | zero => simp [levelOf]; omega
    | succ k ih =>
      rw [levelOf]
      split
      · rename_i h2
        rcases Nat.lt_or_ge k m with h3 | h3
        · omega
        · have := thr_le h3; omega
      · exact ih
  exact key 121

end Go.Proofs.YtnbionhahifacaaDoor
