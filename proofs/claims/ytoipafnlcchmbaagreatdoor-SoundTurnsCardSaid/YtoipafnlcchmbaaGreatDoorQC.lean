/- Sums of lists of integers. Sums and means, of the program and of the reference. Means, the greatest, how many are above a level: of the program and of the reference. The greatest; how many are above a level; copies of lists. The reference's level, greatest, and how many are above. -/
import Derived.Test.YtoipafnlcchmbaaGreatDoorQB
namespace Go.Proofs.YtoipafnlcchmbaaGreatDoor
open Go.RowKit

def sumL : List Int → Int
  | [] => 0
  | x :: l => x + sumL l
theorem sumL_append (a b : List Int) : sumL (a ++ b) = sumL a + sumL b := by
  induction a with
  | nil => simp [sumL]
  | cons x l ih => simp only [List.cons_append, sumL, ih]; omega
theorem take_snocI (zs : List Int) (k : Nat) (h : k < zs.length) : zs.take (k + 1) = zs.take k ++ [zs.getD k 0] := by
  rw [List.take_succ_eq_append_getElem h]; simp [List.getD_eq_getElem?_getD, List.getElem?_eq_getElem h]
theorem sumL_succ (zs : List Int) (k : Nat) (h : k < zs.length) : sumL (zs.take (k + 1)) = sumL (zs.take k) + zs.getD k 0 := by
  rw [take_snocI zs k h, sumL_append]; simp [sumL]
theorem sumL_all (zs : List Int) : sumL (zs.take zs.length) = sumL zs := by rw [List.take_length]
theorem sumL_bd (zs : List Int) (h : ∀ i, i < zs.length → 0 ≤ zs.getD i 0 ∧ zs.getD i 0 ≤ 100000000000000) (k : Nat) (hk : k ≤ zs.length) :
    0 ≤ sumL (zs.take k) ∧ sumL (zs.take k) ≤ 100000000000000 * (k : Int) := by
  induction k with
  | zero => simp [sumL]
  | succ k ih =>
    rw [sumL_succ zs k (by omega)]
    have := ih (by omega)
    have := h k (by omega)
    omega
theorem sumL_mono (zs : List Int) (h : ∀ i, i < zs.length → 0 ≤ zs.getD i 0) (k : Nat) (hk : k ≤ zs.length) : sumL (zs.take k) ≤ sumL zs := by
  have h2 : sumL zs = sumL (zs.take k) + sumL (zs.drop k) := by rw [← sumL_append, List.take_append_drop]
  have h3 : ∀ l : List Int, (∀ x ∈ l, 0 ≤ x) → 0 ≤ sumL l := by
    intro l hl
    induction l with
    | nil => simp [sumL]
    | cons x l ih => simp only [sumL]; have := hl x (by simp); have := ih (fun y hy => hl y (by simp [hy])); omega
  have := h3 (zs.drop k) (fun x hx => by
    obtain ⟨i, hi, rfl⟩ := List.getElem_of_mem hx
    simp only [List.length_drop] at hi
    have := h (k + i) (by omega)
    rw [List.getElem_drop]
    simpa [List.getD_eq_getElem?_getD, List.getElem?_eq_getElem (show k + i < zs.length from by omega)] using this)
  omega

/-- The sum of the products. -/
def dotL : List Int → List Int → Int
  | x :: l, t :: r => x * t + dotL l r
  | _, _ => 0
def dotTo (xs ts : List Int) : Nat → Int
  | 0 => 0
  | k + 1 => dotTo xs ts k + xs.getD k 0 * ts.getD k 0
theorem mul_bd {x t : Int} (hx : 0 ≤ x) (hx2 : x ≤ 10000000000000) (ht : 0 ≤ t) : 0 ≤ x * t ∧ x * t ≤ 10000000000000 * t :=
  ⟨Int.mul_nonneg hx ht, Int.mul_le_mul_of_nonneg_right hx2 ht⟩
theorem dotTo_bd (xs ts : List Int) (hl : ts.length = xs.length) (h : ∀ i, i < xs.length → 0 ≤ xs.getD i 0 ∧ xs.getD i 0 ≤ 10000000000000) (ht : ∀ i, i < ts.length → 0 ≤ ts.getD i 0)
    (k : Nat) (hk : k ≤ xs.length) : 0 ≤ dotTo xs ts k ∧ dotTo xs ts k ≤ 10000000000000 * sumL (ts.take k) := by
  induction k with
  | zero => simp [dotTo, sumL]
  | succ k ih =>
    have h1 := ih (by omega)
    have h2 := h k (by omega)
    have h3 := ht k (by omega)
    have h4 := mul_bd h2.1 h2.2 h3
    rw [sumL_succ ts k (by omega), dotTo]
    omega

/-- Valid energies. -/
def ValidE (zs : List Int) : Prop := zs.length ≤ 1024 ∧ ∀ i, i < zs.length → 0 ≤ zs.getD i 0 ∧ zs.getD i 0 ≤ 10000000000000
theorem firstE_zero {l : List Int} (h : firstE l = 0) : ∀ x ∈ l, x = 0 := by
  induction l with
  | nil => simp
  | cons y l ih =>
    unfold firstE at h
    by_cases hy : y = 0
    · rw [if_pos hy] at h
      intro x hx
      rcases List.mem_cons.1 hx with rfl | hx
      · exact hy
      · exact ih h x hx
    · rw [if_neg hy] at h; exact absurd h hy
theorem firstInE_zero {f : Int → Int} {zs : List Int} (h : firstInE f zs = 0) (i : Nat) (hi : i < zs.length) : f (zs.getD i 0) = 0 := by
  refine firstE_zero h _ ?_
  rw [List.getD_eq_getElem?_getD, List.getElem?_eq_getElem hi]
  exact List.mem_map.2 ⟨_, List.getElem_mem hi, rfl⟩
theorem validE_of {zs : List Int} (h : checkEnergiesE zs = 0) : ValidE zs := by
  have h2 := firstE2_zero h
  refine ⟨?_, fun i hi => withinE_zero (firstInE_zero h2.2 i hi)⟩
  have := h2.1
  unfold atMostE at this
  split at this <;> omega
theorem firstE_ne (a b : Int) : firstE [a, b] = if a = 0 then b else a := by
  unfold firstE; split
  · unfold firstE; split
    · simp [firstE]; omega
    · rfl
  · rfl

/-- The mean, rounded. -/
def roundE (n d : Int) : Int := (2 * n + d) / (2 * d)
def overE (s : Int) : Int := if 10000000000000 < s then 4 else 0
def capE (s : Int) : Int := if 10000000000000 < s then 0 else s
def sumErr (zs : List Int) : Int := if checkEnergiesE zs = 0 then overE (sumL zs) else checkEnergiesE zs
def sumVal (zs : List Int) : Int := if checkEnergiesE zs = 0 then capE (sumL zs) else 0

def checkTickE (t : Int) : Int := withinE t 0 86400
def checkTicksE (ts : List Int) (n : Nat) : Int := if ts.length = n then firstInE checkTickE ts else 2
def avgPre (xs ts : List Int) : Int := firstE [checkEnergiesE xs, checkTicksE ts xs.length]
def avgErr (xs ts : List Int) : Int := if avgPre xs ts = 0 then (if 86400 < sumL ts then 4 else if sumL ts = 0 then 6 else 0) else avgPre xs ts
def avgVal (xs ts : List Int) : Int := if avgPre xs ts = 0 then (if 86400 < sumL ts then 0 else if sumL ts = 0 then 0 else roundE (dotTo xs ts xs.length) (sumL ts)) else 0
theorem avgPre_zero {xs ts : List Int} (h : avgPre xs ts = 0) : ValidE xs ∧ ts.length = xs.length ∧ ∀ i, i < ts.length → 0 ≤ ts.getD i 0 ∧ ts.getD i 0 ≤ 86400 := by
  have h2 := firstE2_zero h
  have h3 := h2.2
  unfold checkTicksE at h3
  split at h3
  · rename_i hl
    exact ⟨validE_of h2.1, hl, fun i hi => withinE_zero (firstInE_zero h3 i hi)⟩
  · cases h3

end Go.Proofs.YtoipafnlcchmbaaGreatDoor
namespace Go.Proofs.YtoipafnlcchmbaaGreatDoor
open Go.RowKit

set_option maxHeartbeats 1000000 in
theorem total_any (A : Option Addr) (n c : Nat) (zs : List Int) (w : World) (hz : IntsAt w A n zs) (hn : n ≤ 1024)
    (hv : ∀ i, i < zs.length → 0 ≤ zs.getD i 0 ∧ zs.getD i 0 ≤ 100000000000000) :
    Calls Tryz.prog 119 #[.slice A n c] w fun e w' => e = .returned (.int .i64 (sumL zs)) ∧ w = w' := by
  obtain ⟨hl, hc⟩ := hz
  have HL := Lib.hid hl
  have HC := Lib.hid hc
  have HV := Lib.hid hv
  clear hl hc hv
  go_enter Tryz.func119, Tryz.ntmps119
  go_wp2
  go_loop [3, 5, 8] (fun s _ i => ∃ k : Nat, k ≤ n ∧ i = .int .i64 k ∧ s = .int .i64 (sumL (zs.take k))) (fun _ _ i => n - (intOf i).toNat)
  case atStart => exact ⟨0, Nat.zero_le _, rfl, rfl⟩
  case round =>
    obtain ⟨k, hk, rfl, rfl⟩ := hrel
    by_cases hlt : k < n
    · obtain ⟨b, off, rfl, hcc⟩ := HC.out (by omega)
      have b1 := sumL_bd zs HV.out k (by rw [HL.out]; omega)
      have b2 := HV.out k (by rw [HL.out]; exact hlt)
      have HS := Lib.hid (sumL_succ zs k (by rw [HL.out]; exact hlt))
      have h0 := hcc k hlt
      obtain ⟨x, hx⟩ : ∃ x, x = zs.getD k 0 := ⟨_, rfl⟩
      obtain ⟨s, hs⟩ : ∃ s, s = sumL (zs.take k) := ⟨_, rfl⟩
      rw [← hx] at h0 b2 HS
      rw [← hs] at b1 HS ⊢
      clear hcc hx hs
      obtain ⟨b11, b12⟩ := b1
      obtain ⟨b21, b22⟩ := b2
      go_wp2
      go_round
      case rel => exact ⟨k + 1, by omega, by go_num, by rw [HS.out]⟩
      case measure => simp [intOf]; omega
    · go_wp2
      go_ret
      obtain rfl : k = n := by omega
      exact ⟨ret_int (by rw [← HL.out, sumL_all]), rfl⟩

theorem asEnergy_any (s : Int) (w : World) :
    Calls Tryz.prog 118 #[.int .i64 s] w fun e w' => e = .returned (.tuple #[.int .i64 (capE s), .int .i64 (overE s)]) ∧ w = w' := by
  by_cases h : 10000000000000 < s
  · have e1 : capE s = 0 := by simp [capE, h]
    have e2 : overE s = 4 := by simp [overE, h]
    rw [e1, e2]; clear e1 e2
    go_enter Tryz.func118, Tryz.ntmps118
    go_wp2
    go_ret2
    exact ⟨rfl, rfl⟩
  · have e1 : capE s = s := by simp [capE, h]
    have e2 : overE s = 0 := by simp [overE, h]
    rw [e1, e2]; clear e1 e2
    go_enter Tryz.func118, Tryz.ntmps118
    go_wp2
    go_ret2
    exact ⟨rfl, rfl⟩

set_option maxHeartbeats 1000000 in
theorem Sum_any (A : Option Addr) (n c : Nat) (zs : List Int) (w : World) (hz : IntsAt w A n zs) (hn : n ≤ 140737488351232) :
    Calls Tryz.prog 43 #[.slice A n c] w fun e w' => e = .returned (.tuple #[.int .i64 (sumVal zs), .int .i64 (sumErr zs)]) ∧ Below w.heap.size w w' := by
  have HZ := Lib.hid hz
  clear hz
  obtain ⟨E, hE⟩ : ∃ E, E = checkEnergiesE zs := ⟨_, rfl⟩
  have HE := Lib.hid hE
  clear hE
  by_cases h : E = 0
  · have hv := validE_of (HE.out.symm.trans h)
    have h1 : (E != 0) = false := by simp [h]
    have r1 : Hid (sumVal zs = capE (sumL zs)) := by show _ = _; unfold sumVal; rw [if_pos (HE.out.symm.trans h)]
    have r2 : Hid (sumErr zs = overE (sumL zs)) := by show _ = _; unfold sumErr; rw [if_pos (HE.out.symm.trans h)]
    rw [r1.out, r2.out]
    have HV := Lib.hid hv
    have hn2 : n ≤ 1024 := by have := hv.1; rw [HZ.out.1] at this; exact this
    clear hv h
    go_enter Tryz.func43, Tryz.ntmps43
    go_wp2_with fail
    refine (checkEnergies_any A n c zs w hn HZ.out).mono ?_
    rw [← HE.out]
    rintro e w1 ⟨rfl, hb⟩
    have HZ1 := Lib.hid (HZ.out.keep hb)
    have HB := Lib.hid hb
    clear hb
    go_wp2_with fail
    refine (total_any A n c zs w1 HZ1.out hn2 (fun i hi => by have := HV.out.2 i hi; omega)).mono ?_
    rintro e w' ⟨rfl, rfl⟩
    go_wp2_with fail
    refine (asEnergy_any _ _).mono ?_
    rintro e w' ⟨rfl, rfl⟩
    go_wp2
    go_ret2
    exact ⟨rfl, HB.out⟩
  · have h1 : (E != 0) = true := by simp [h]
    have r1 : Hid (sumVal zs = 0) := by show _ = _; unfold sumVal; rw [if_neg (by rw [← HE.out]; exact h)]
    have r2 : Hid (sumErr zs = E) := by show _ = _; unfold sumErr; rw [if_neg (by rw [← HE.out]; exact h)]; exact HE.out.symm
    rw [r1.out, r2.out]
    clear h
    go_enter Tryz.func43, Tryz.ntmps43
    go_wp2_with fail
    refine (checkEnergies_any A n c zs w hn HZ.out).mono ?_
    rw [← HE.out]
    rintro e w1 ⟨rfl, hb⟩
    have HB := Lib.hid hb
    clear hb
    go_wp2
    go_ret2
    exact ⟨rfl, HB.out⟩

set_option maxHeartbeats 1000000 in
theorem refSum_any (A : Option Addr) (n c : Nat) (zs : List Int) (w : World) (hz : IntsAt w A n zs) (hn : n ≤ 1024)
    (hv : ∀ i, i < zs.length → 0 ≤ zs.getD i 0 ∧ zs.getD i 0 ≤ 100000000000000) :
    Calls Tryz.prog 49 #[.slice A n c] w fun e w' => e = .returned (.tuple #[.int .i64 (capE (sumL zs)), .int .i64 (overE (sumL zs))]) ∧ w = w' := by
  obtain ⟨hl, hc⟩ := hz
  have HL := Lib.hid hl
  have HC := Lib.hid hc
  have HV := Lib.hid hv
  clear hl hc hv
  go_enter Tryz.func49, Tryz.ntmps49
  go_wp2
  go_loop [4, 5] (fun s i => ∃ k : Nat, k ≤ n ∧ i = .int .i64 k ∧ s = .int .i64 (sumL (zs.take k))) (fun _ i => n - (intOf i).toNat)
  case atStart => exact ⟨0, Nat.zero_le _, rfl, rfl⟩
  case round =>
    obtain ⟨k, hk, rfl, rfl⟩ := hrel
    have b1 := sumL_bd zs HV.out k (by rw [HL.out]; omega)
    obtain ⟨b11, b12⟩ := b1
    by_cases hlt : k < n
    · obtain ⟨b, off, rfl, hcc⟩ := HC.out (by omega)
      have b2 := HV.out k (by rw [HL.out]; exact hlt)
      have HS := Lib.hid (sumL_succ zs k (by rw [HL.out]; exact hlt))
      have h0 := hcc k hlt
      obtain ⟨x, hx⟩ : ∃ x, x = zs.getD k 0 := ⟨_, rfl⟩
      obtain ⟨s, hs⟩ : ∃ s, s = sumL (zs.take k) := ⟨_, rfl⟩
      rw [← hx] at h0 b2 HS
      rw [← hs] at b11 b12 HS ⊢
      clear hcc hx hs
      obtain ⟨b21, b22⟩ := b2
      go_wp2
      go_round
      case rel => exact ⟨k + 1, by omega, by go_num, by rw [HS.out]⟩
      case measure => simp [intOf]; omega
    · obtain rfl : k = n := by omega
      obtain ⟨s, hs⟩ : ∃ s, s = sumL zs := ⟨_, rfl⟩
      have hs2 : Hid (sumL (zs.take k) = s) := by show _ = _; rw [← HL.out, sumL_all, hs]
      rw [hs2.out] at b11 b12 ⊢
      have HS := Lib.hid hs
      clear hs
      by_cases h : 10000000000000 < s
      · have e1 : Hid (capE s = 0) := by show _ = _; simp [capE, h]
        have e2 : Hid (overE s = 4) := by show _ = _; simp [overE, h]
        go_wp2
        go_ret2
        exact ⟨by rw [← HS.out, e1.out, e2.out]; rfl, rfl⟩
      · have e1 : Hid (capE s = s) := by show _ = _; simp [capE, h]
        have e2 : Hid (overE s = 0) := by show _ = _; simp [overE, h]
        go_wp2
        go_ret2
        exact ⟨by rw [← HS.out, e1.out, e2.out]; rfl, rfl⟩

theorem rounded_any (n d : Int) (w : World) (h1 : 0 ≤ n) (h2 : n ≤ 4000000000000000000) (h3 : 1 ≤ d) (h4 : d ≤ 1000000) :
    Calls Tryz.prog 121 #[.int .i64 n, .int .i64 d] w fun e w' => e = .returned (.int .i64 (roundE n d)) ∧ w = w' := by
  have k1 : 0 ≤ (2 * n + d) / (2 * d) := Int.ediv_nonneg (by omega) (by omega)
  have k2 : (2 * n + d) / (2 * d) ≤ 2 * n + d := Int.ediv_le_self _ (by omega)
  go_enter Tryz.func121, Tryz.ntmps121
  go_wp2
  go_ret
  exact ⟨rfl, rfl⟩

theorem floor_facts (x d : Int) (h3 : 1 ≤ d) : x / d * d ≤ x ∧ x - d < x / d * d := by
  have h := Int.mul_ediv_add_emod x d
  have h4 := Int.emod_nonneg x (show d ≠ 0 by omega)
  have h5 := Int.emod_lt_of_pos x (show 0 < d by omega)
  rw [Int.mul_comm] at h
  omega

set_option maxHeartbeats 400000 in
theorem refFloor_any (x d : Int) (w : World) (h1 : 0 ≤ x) (h2 : x ≤ 9000000000000000000) (h3 : 1 ≤ d) (h4 : d ≤ 10000000) :
    Calls Tryz.prog 135 #[.int .i64 x, .int .i64 d] w fun e w' => e = .returned (.int .i64 (x / d)) ∧ w = w' := by
  have k1 : 0 ≤ x / d := Int.ediv_nonneg (by omega) (by omega)
  have k2 : x / d ≤ x := Int.ediv_le_self _ (by omega)
  have k3 := floor_facts x d h3
  obtain ⟨k4, k5⟩ := k3
  go_enter Tryz.func135, Tryz.ntmps135
  go_wp2
  go_ret
  exact ⟨rfl, rfl⟩

set_option maxHeartbeats 400000 in
theorem refRound_any (n d : Int) (w : World) (h1 : 0 ≤ n) (h2 : n ≤ 4000000000000000000) (h3 : 1 ≤ d) (h4 : d ≤ 1000000) :
    Calls Tryz.prog 122 #[.int .i64 n, .int .i64 d] w fun e w' => e = .returned (.int .i64 (roundE n d)) ∧ w = w' := by
  go_enter Tryz.func122, Tryz.ntmps122
  go_wp2_with fail
  refine (refFloor_any (2 * n + d) (2 * d) _ (by omega) (by omega) (by omega) (by omega)).mono ?_
  rintro e w' ⟨rfl, rfl⟩
  go_wp2
  go_ret
  exact ⟨rfl, rfl⟩

theorem checkTick_any (x : Int) (w : World) :
    Calls Tryz.prog 171 #[.int .i64 x] w fun e w' => e = .returned (.int .i64 (checkTickE x)) ∧ w = w' := by
  go_enter Tryz.func171, Tryz.ntmps171
  go_wp2_with fail
  refine (within_any _ _ _ _).mono ?_
  rintro e w' ⟨rfl, rfl⟩
  go_wp2
  go_ret
  exact ⟨rfl, rfl⟩
theorem enters_checkTick (args : Array Value) (W : World) : (callFunc 171 args).run Tryz.prog W = .ok (.enter 171 args) W := by kernel_rfl

set_option maxHeartbeats 400000 in
theorem checkTicks_any (A : Option Addr) (n c m : Nat) (ts : List Int) (w : World) (hn : n ≤ 140737488351232) (hz : IntsAt w A n ts) :
    Calls Tryz.prog 120 #[.slice A n c, .int .i64 m] w fun e w' => e = .returned (.int .i64 (checkTicksE ts m)) ∧ w = w' := by
  have HZ := Lib.hid hz
  have hl := Lib.hid hz.1
  clear hz
  by_cases h : n = m
  · subst h
    have r1 : Hid (checkTicksE ts n = firstInE checkTickE ts) := by show _ = _; unfold checkTicksE; rw [if_pos hl.out]
    go_enter Tryz.func120, Tryz.ntmps120
    go_wp2_with fail
    refine (firstIn_int _ checkTickE _ _ _ ts _ hn enters_checkTick checkTick_any HZ.out).mono ?_
    rintro e w' ⟨rfl, rfl⟩
    go_wp2
    go_ret
    exact ⟨ret_int r1.out.symm, rfl⟩
  · have r1 : Hid (checkTicksE ts m = 2) := by show _ = _; unfold checkTicksE; rw [if_neg (by rw [hl.out]; exact h)]
    have hne : ((n : Int) != (m : Int)) = true := by simp; omega
    clear h
    go_enter Tryz.func120, Tryz.ntmps120
    go_wp2
    go_ret
    exact ⟨ret_int r1.out.symm, rfl⟩

end Go.Proofs.YtoipafnlcchmbaaGreatDoor
namespace Go.Proofs.YtoipafnlcchmbaaGreatDoor
open Go.RowKit

theorem checkTicksE_eq {ts : List Int} {n : Nat} (h : ts.length = n) : checkTicksE ts n = firstInE checkTickE ts := by unfold checkTicksE; rw [if_pos h]
theorem checkTicksE_ne {ts : List Int} {n : Nat} (h : ts.length ≠ n) : checkTicksE ts n = 2 := by unfold checkTicksE; rw [if_neg h]

set_option maxHeartbeats 1000000 in
set_option maxRecDepth 100000 in
theorem refCheckTicks_any (A B : Option Addr) (n c m d : Nat) (xs ts : List Int) (w : World) (hn : n ≤ 140737488351232) (hm : m ≤ 140737488351232) (hx : IntsAt w A n xs) (hz : IntsAt w B m ts) :
    Calls Tryz.prog 48 #[.slice A n c, .slice B m d] w fun e w' => e = .returned (.int .i64 (checkTicksE ts xs.length)) ∧ w = w' := by
  obtain ⟨hl, hc⟩ := hz
  have HL := Lib.hid hl
  have HC := Lib.hid hc
  have HX := Lib.hid hx.1
  clear hl hc hx
  by_cases h : m = n
  · subst h
    have HM := Lib.hid (checkTicksE_eq (ts := ts) (n := xs.length) (HL.out.trans HX.out.symm))
    go_enter Tryz.func48, Tryz.ntmps48
    go_wp2
    go_loop [5, 6] (fun i _ => ∃ k : Nat, k ≤ m ∧ i = .int .i64 k ∧ Hid (∀ i, i < k → checkTickE (ts.getD i 0) = 0)) (fun i _ => m - (intOf i).toNat)
    case atStart => exact ⟨0, Nat.zero_le _, rfl, fun i hi => by omega⟩
    case round =>
      obtain ⟨k, hk, rfl, hz⟩ := hrel
      by_cases hlt : k < m
      · obtain ⟨b, off, rfl, hcc⟩ := HC.out (by omega)
        obtain ⟨x, hx⟩ : ∃ x, x = ts.getD k 0 := ⟨_, rfl⟩
        have h0 := hcc k hlt
        clear hcc
        rw [← hx] at h0
        have HX2 := Lib.hid hx
        clear hx
        go_wp2_with fail
        refine (refCheckRange_any x _ _ _).mono ?_
        rintro e w' ⟨rfl, rfl⟩
        obtain ⟨y, hy⟩ : ∃ y, y = withinE x 0 86400 := ⟨_, rfl⟩
        rw [← hy]
        have HY : Hid (y = checkTickE x) := hy
        clear hy
        by_cases he : y = 0
        · have h1 : (y != 0) = false := by simp [he]
          have HE := Lib.hid he
          clear he
          go_wp2
          go_round
          case rel =>
            refine ⟨k + 1, by omega, by go_num, fun i hi => ?_⟩
            by_cases hik : i < k
            · exact hz.out i hik
            · obtain rfl : i = k := by omega
              rw [← HX2.out, ← HY.out]; exact HE.out
          case measure => simp [intOf]; omega
        · have h1 : (y != 0) = true := by simp [he]
          have HE := Lib.hid he
          clear he
          go_wp2
          go_ret
          exact ⟨ret_int (by rw [HM.out, firstInE_hit checkTickE ts k (by rw [HL.out]; exact hlt) hz.out (by rw [← HX2.out, ← HY.out]; exact HE.out), ← HX2.out]; exact HY.out), rfl⟩
      · go_wp2
        go_ret
        exact ⟨ret_int (by rw [HM.out]; exact (firstInE_miss checkTickE ts (fun i hi => hz.out i (by rw [HL.out] at hi; omega))).symm), rfl⟩
  · have HM := Lib.hid (checkTicksE_ne (ts := ts) (n := xs.length) (by rw [HL.out, HX.out]; exact h))
    have hne : ((m : Int) != (n : Int)) = true := by simp; omega
    clear h
    go_enter Tryz.func48, Tryz.ntmps48
    go_wp2
    go_ret
    exact ⟨ret_int HM.out.symm, rfl⟩

set_option maxHeartbeats 2000000 in
set_option maxRecDepth 100000 in
theorem Average_any (A B : Option Addr) (n c m d : Nat) (xs ts : List Int) (w : World) (hn : n ≤ 140737488351232) (hm : m ≤ 140737488351232) (hx : IntsAt w A n xs) (hz : IntsAt w B m ts) :
    Calls Tryz.prog 45 #[.slice A n c, .slice B m d] w fun e w' => e = .returned (.tuple #[.int .i64 (avgVal xs ts), .int .i64 (avgErr xs ts)]) ∧ Below w.heap.size w w' := by
  have HX := Lib.hid hx
  have HZ := Lib.hid hz
  have hl := Lib.hid hx.1
  clear hx hz
  obtain ⟨E, hE⟩ : ∃ E, E = avgPre xs ts := ⟨_, rfl⟩
  have HE := Lib.hid hE
  clear hE
  by_cases h : E = 0
  · have h1 : (E != 0) = false := by simp [h]
    have hp := Lib.hid (HE.out.symm.trans h)
    have HV := Lib.hid (avgPre_zero hp.out)
    have hnm : Hid (m = n) := by show _ = _; have := HV.out.2.1; rw [HZ.out.1, HX.out.1] at this; exact this
    have hn2 : n ≤ 1024 := by have := HV.out.1.1; rw [HX.out.1] at this; exact this
    have hm2 : m ≤ 1024 := by have := hnm.out; omega
    have r1 : Hid (avgVal xs ts = if 86400 < sumL ts then 0 else if sumL ts = 0 then 0 else roundE (dotTo xs ts xs.length) (sumL ts)) := by show _ = _; unfold avgVal; rw [if_pos hp.out]
    have r2 : Hid (avgErr xs ts = if 86400 < sumL ts then 4 else if sumL ts = 0 then 6 else 0) := by show _ = _; unfold avgErr; rw [if_pos hp.out]
    obtain ⟨s, hs⟩ : ∃ s, s = sumL ts := ⟨_, rfl⟩
    have HS := Lib.hid hs
    clear hs h
    have hs0 : 0 ≤ s := by
      have := (sumL_bd ts (fun i hi => by have := HV.out.2.2 i hi; omega) ts.length (Nat.le_refl _)).1
      rw [sumL_all] at this; rw [HS.out]; exact this
    rw [r1.out, r2.out, ← HS.out]
    go_enter Tryz.func45, Tryz.ntmps45
    go_wp2_with fail
    refine (checkEnergies_any A n c xs w hn HX.out).mono ?_
    rintro e w1 ⟨rfl, hb⟩
    have HB := Lib.hid hb
    have HX1 := Lib.hid (HX.out.keep hb)
    have HZ1 := Lib.hid (HZ.out.keep hb)
    clear hb
    go_wp2_with fail
    refine (checkTicks_any B m d n ts w1 hm HZ1.out).mono ?_
    rintro e w' ⟨rfl, rfl⟩
    go_wp2_with fail
    refine (first2 _ _ (checkEnergiesE xs) (checkTicksE ts n) _ (by go_simp) (by go_simp)).mono ?_
    rw [show firstE [checkEnergiesE xs, checkTicksE ts n] = E from by rw [HE.out, ← hl.out]; rfl]
    rintro e w' ⟨rfl, rfl⟩
    have HX2 : Hid (IntsAt (w1.alloc (.cells #[.int .i64 (checkEnergiesE xs), .int .i64 (checkTicksE ts n)] 27)) A n xs) := HX1.out.keep ((Below.refl _ _).alloc (Nat.le_refl _) _)
    have HZ2 : Hid (IntsAt (w1.alloc (.cells #[.int .i64 (checkEnergiesE xs), .int .i64 (checkTicksE ts n)] 27)) B m ts) := HZ1.out.keep ((Below.refl _ _).alloc (Nat.le_refl _) _)
    go_wp2_with fail
    refine (total_any B m d ts _ HZ2.out hm2 (fun i hi => by have := HV.out.2.2 i hi; omega)).mono ?_
    rw [← HS.out]
    rintro e w' ⟨rfl, rfl⟩
    have HB2 : Hid (Below w.heap.size w (w1.alloc (.cells #[.int .i64 (checkEnergiesE xs), .int .i64 (checkTicksE ts n)] 27))) := HB.out.alloc HB.out.size _
    by_cases k1 : 86400 < s
    · go_wp2
      go_ret2
      exact ⟨rfl, HB2.out⟩
    · by_cases k2 : s = 0
      · have k3 : (s == 0) = true := by simp [k2]
        have HK := Lib.hid k2
        clear k2
        go_wp2
        go_ret2
        exact ⟨rfl, HB2.out⟩
      · have k3 : (s == 0) = false := by simp [k2]
        have hs1 : 1 ≤ s := by omega
        have hs2 : s ≤ 86400 := by omega
        have hmono := Lib.hid (fun k (hk : k ≤ ts.length) => sumL_mono ts (fun i hi => (HV.out.2.2 i hi).1) k hk)
        have hdot := Lib.hid (fun k (hk : k ≤ xs.length) => dotTo_bd xs ts HV.out.2.1 HV.out.1.2 (fun i hi => (HV.out.2.2 i hi).1) k hk)
        have hdb : Hid (∀ k, k ≤ n → 0 ≤ dotTo xs ts k ∧ dotTo xs ts k ≤ 864000000000000000) := by
          intro k hk
          have a1 := hdot.out k (by rw [HX.out.1]; exact hk)
          have a2 := hmono.out k (by rw [HV.out.2.1, HX.out.1]; exact hk)
          rw [← HS.out] at a2
          omega
        clear k2 hdot hmono
        go_wp2_with fail
        go_loop [8, 9, 10, 30] (fun s _ _ i => ∃ k : Nat, k ≤ n ∧ i = .int .i64 k ∧ s = .int .i64 (dotTo xs ts k)) (fun _ _ _ i => n - (intOf i).toNat)
        case atStart => exact ⟨0, Nat.zero_le _, rfl, rfl⟩
        case round =>
          obtain ⟨k, hk, rfl, rfl⟩ := hrel
          by_cases hlt : k < n
          · obtain ⟨b, off, rfl, hcc⟩ := HX2.out.2 (by omega)
            obtain ⟨b2, off2, rfl, hcc2⟩ := HZ2.out.2 (by have := hnm.out; omega)
            have h0 := hcc k hlt
            have h0' := hcc2 k (by have := hnm.out; omega)
            have hkm : (k : Int) < (m : Int) := by have := hnm.out; omega
            have q0 := hdb.out k hk
            have q1 := hdb.out (k + 1) (by omega)
            have q2 := HV.out.1.2 k (by rw [HX.out.1]; exact hlt)
            have q3 := HV.out.2.2 k (by rw [HV.out.2.1, HX.out.1]; exact hlt)
            rw [dotTo] at q1
            have HD : Hid (dotTo xs ts (k + 1) = dotTo xs ts k + xs.getD k 0 * ts.getD k 0) := rfl
            obtain ⟨x, hx⟩ : ∃ x, x = xs.getD k 0 := ⟨_, rfl⟩
            obtain ⟨t, ht⟩ : ∃ t, t = ts.getD k 0 := ⟨_, rfl⟩
            obtain ⟨s2, hs2'⟩ : ∃ s2, s2 = dotTo xs ts k := ⟨_, rfl⟩
            rw [← hx] at h0 q1 q2 HD
            rw [← ht] at h0' q1 q3 HD
            rw [← hs2'] at q0 q1 HD ⊢
            clear hcc hcc2 hx ht hs2'
            have q4 := mul_bd q2.1 q2.2 q3.1
            obtain ⟨q01, q02⟩ := q0
            obtain ⟨q11, q12⟩ := q1
            obtain ⟨q31, q32⟩ := q3
            obtain ⟨q41, q42⟩ := q4
            clear q2
            go_wp2
            go_round
            case rel => exact ⟨k + 1, by omega, by go_num, by rw [HD.out]⟩
            case measure => simp [intOf]; omega
          · obtain rfl : k = n := by omega
            have q0 := hdb.out k (Nat.le_refl _)
            obtain ⟨q01, q02⟩ := q0
            go_wp2_with fail
            refine (rounded_any _ _ _ q01 (by omega) hs1 (by omega)).mono ?_
            rintro e w' ⟨rfl, rfl⟩
            go_wp2
            go_ret2
            exact ⟨by rw [hl.out]; rfl, HB2.out⟩
  · have h1 : (E != 0) = true := by simp [h]
    have r1 : Hid (avgVal xs ts = 0) := by show _ = _; unfold avgVal; rw [if_neg (by rw [← HE.out]; exact h)]
    have r2 : Hid (avgErr xs ts = E) := by show _ = _; unfold avgErr; rw [if_neg (by rw [← HE.out]; exact h)]; exact HE.out.symm
    rw [r1.out, r2.out]
    clear h
    go_enter Tryz.func45, Tryz.ntmps45
    go_wp2_with fail
    refine (checkEnergies_any A n c xs w hn HX.out).mono ?_
    rintro e w1 ⟨rfl, hb⟩
    have HB := Lib.hid hb
    have HZ1 := Lib.hid (HZ.out.keep hb)
    clear hb
    go_wp2_with fail
    refine (checkTicks_any B m d n ts w1 hm HZ1.out).mono ?_
    rintro e w' ⟨rfl, rfl⟩
    go_wp2_with fail
    refine (first2 _ _ (checkEnergiesE xs) (checkTicksE ts n) _ (by go_simp) (by go_simp)).mono ?_
    rw [show firstE [checkEnergiesE xs, checkTicksE ts n] = E from by rw [HE.out, ← hl.out]; rfl]
    rintro e w' ⟨rfl, rfl⟩
    go_wp2
    go_ret2
    exact ⟨rfl, HB.out.alloc HB.out.size _⟩

set_option maxHeartbeats 2000000 in
set_option maxRecDepth 100000 in
theorem refAverage_any (A B : Option Addr) (n c m d : Nat) (xs ts : List Int) (w : World) (hx : IntsAt w A n xs) (hz : IntsAt w B m ts) (hp0 : avgPre xs ts = 0) :
    Calls Tryz.prog 50 #[.slice A n c, .slice B m d] w fun e w' => e = .returned (.tuple #[.int .i64 (avgVal xs ts), .int .i64 (avgErr xs ts)]) ∧ ∃ q, w' = w.drewN q := by
  have HX := Lib.hid hx
  have HZ := Lib.hid hz
  have hl := Lib.hid hx.1
  have hp := Lib.hid hp0
  clear hx hz hp0
  have HV := Lib.hid (avgPre_zero hp.out)
  have hnm : Hid (m = n) := by show _ = _; have := HV.out.2.1; rw [HZ.out.1, HX.out.1] at this; exact this
  have hn2 : n ≤ 1024 := by have := HV.out.1.1; rw [HX.out.1] at this; exact this
  have hm2 : m ≤ 1024 := by have := hnm.out; omega
  have r1 : Hid (avgVal xs ts = if 86400 < sumL ts then 0 else if sumL ts = 0 then 0 else roundE (dotTo xs ts xs.length) (sumL ts)) := by show _ = _; unfold avgVal; rw [if_pos hp.out]
  have r2 : Hid (avgErr xs ts = if 86400 < sumL ts then 4 else if sumL ts = 0 then 6 else 0) := by show _ = _; unfold avgErr; rw [if_pos hp.out]
  obtain ⟨s, hs⟩ : ∃ s, s = sumL ts := ⟨_, rfl⟩
  have HS := Lib.hid hs
  clear hs
  have hs0 : 0 ≤ s := by
    have := (sumL_bd ts (fun i hi => by have := HV.out.2.2 i hi; omega) ts.length (Nat.le_refl _)).1
    rw [sumL_all] at this; rw [HS.out]; exact this
  rw [r1.out, r2.out, ← HS.out]
  go_enter Tryz.func50, Tryz.ntmps50
  go_wp2
  go_loop [6, 7] (fun s i => ∃ k : Nat, k ≤ m ∧ i = .int .i64 k ∧ s = .int .i64 (sumL (ts.take k))) (fun _ i => m - (intOf i).toNat)
  case atStart => exact ⟨0, Nat.zero_le _, rfl, rfl⟩
  case round =>
    obtain ⟨k, hk, rfl, rfl⟩ := hrel
    have b1 := sumL_bd ts (fun i hi => by have := HV.out.2.2 i hi; omega) k (by rw [HZ.out.1]; omega)
    obtain ⟨b11, b12⟩ := b1
    by_cases hlt : k < m
    · obtain ⟨b, off, rfl, hcc⟩ := HZ.out.2 (by omega)
      have b2 := HV.out.2.2 k (by rw [HZ.out.1]; exact hlt)
      have HS2 := Lib.hid (sumL_succ ts k (by rw [HZ.out.1]; exact hlt))
      have h0 := hcc k hlt
      obtain ⟨x, hx⟩ : ∃ x, x = ts.getD k 0 := ⟨_, rfl⟩
      obtain ⟨s2, hs⟩ : ∃ s2, s2 = sumL (ts.take k) := ⟨_, rfl⟩
      rw [← hx] at h0 b2 HS2
      rw [← hs] at b11 b12 HS2 ⊢
      clear hcc hx hs
      obtain ⟨b21, b22⟩ := b2
      go_wp2
      go_round
      case rel => exact ⟨k + 1, by omega, by go_num, by rw [HS2.out]⟩
      case measure => simp [intOf]; omega
    · obtain rfl : k = m := by omega
      have hs2 : Hid (sumL (ts.take k) = s) := by show _ = _; rw [← HZ.out.1, sumL_all, HS.out]
      rw [hs2.out] at b11 b12 ⊢
      by_cases k1 : 86400 < s
      · go_wp2
        go_ret2
        exact ⟨rfl, 0, rfl⟩
      · by_cases k2 : s = 0
        · have k3 : (s == 0) = true := by simp [k2]
          go_wp2
          go_ret2
          exact ⟨rfl, 0, rfl⟩
        · have k3 : (s == 0) = false := by simp [k2]
          have hs1 : 1 ≤ s := by omega
          have hs3 : s ≤ 86400 := by omega
          have hmono := Lib.hid (fun k (hk : k ≤ ts.length) => sumL_mono ts (fun i hi => (HV.out.2.2 i hi).1) k hk)
          have hdot := Lib.hid (fun k (hk : k ≤ xs.length) => dotTo_bd xs ts HV.out.2.1 HV.out.1.2 (fun i hi => (HV.out.2.2 i hi).1) k hk)
          have hdb : Hid (∀ k, k ≤ n → 0 ≤ dotTo xs ts k ∧ dotTo xs ts k ≤ 864000000000000000) := by
            intro k hk
            have a1 := hdot.out k (by rw [HX.out.1]; exact hk)
            have a2 := hmono.out k (by rw [HV.out.2.1, HX.out.1]; exact hk)
            rw [← HS.out] at a2
            omega
          clear hdot hmono
          go_wp2_with fail
          go_loopw [8, 9] (fun s i wr => ∃ j : Nat, j ≤ n ∧ i = .int .i64 j ∧ s = .int .i64 (dotTo xs ts j) ∧ ∃ q, wr = w.drewN q) (fun _ i _ => n - (intOf i).toNat)
          case atStart => exact ⟨0, Nat.zero_le _, rfl, rfl, 0, rfl⟩
          case round =>
            obtain ⟨j, hj, rfl, rfl, q, rfl⟩ := hrel
            by_cases hlt2 : j < n
            · obtain ⟨b, off, rfl, hcc⟩ := HX.out.2 (by omega)
              obtain ⟨b2, off2, rfl, hcc2⟩ := HZ.out.2 (by have := hnm.out; omega)
              have h0 := hcc j hlt2
              have h0' := hcc2 j (by have := hnm.out; omega)
              have hkn : (j : Int) < (n : Int) := by omega
              have hkm : (j : Int) < (k : Int) := by have := hnm.out; omega
              have q0 := hdb.out j hj
              have q1 := hdb.out (j + 1) (by omega)
              have q2 := HV.out.1.2 j (by rw [HX.out.1]; exact hlt2)
              have q3 := HV.out.2.2 j (by rw [HV.out.2.1, HX.out.1]; exact hlt2)
              rw [dotTo] at q1
              have HD : Hid (dotTo xs ts (j + 1) = dotTo xs ts j + xs.getD j 0 * ts.getD j 0) := rfl
              obtain ⟨x, hx⟩ : ∃ x, x = xs.getD j 0 := ⟨_, rfl⟩
              obtain ⟨t, ht⟩ : ∃ t, t = ts.getD j 0 := ⟨_, rfl⟩
              obtain ⟨s2, hs2'⟩ : ∃ s2, s2 = dotTo xs ts j := ⟨_, rfl⟩
              rw [← hx] at h0 q1 q2 HD
              rw [← ht] at h0' q1 q3 HD
              rw [← hs2'] at q0 q1 HD ⊢
              clear hcc hcc2 hx ht hs2'
              have q4 := mul_bd q2.1 q2.2 q3.1
              obtain ⟨q01, q02⟩ := q0
              obtain ⟨q11, q12⟩ := q1
              obtain ⟨q31, q32⟩ := q3
              obtain ⟨q41, q42⟩ := q4
              clear q2
              have wr1 : IntKind.i64.wrap (x * t) = x * t := IntWalk.i64_in _ (by omega)
              have wr2 : IntKind.i64.wrap (s2 + x * t) = s2 + x * t := IntWalk.i64_in _ (by omega)
              go_wp2_with fail
              go_quiet (fail)
              clear wr1 wr2
              go_wp2
              go_roundw
              case rel => exact ⟨j + 1, by omega, by go_num, by rw [HD.out], _, rfl⟩
              case measure => simp [intOf]; omega
            · obtain rfl : j = n := by omega
              have q0 := hdb.out j (Nat.le_refl _)
              obtain ⟨q01, q02⟩ := q0
              go_wp2_with fail
              refine (refRound_any _ _ _ q01 (by omega) hs1 (by omega)).mono ?_
              rintro e w' ⟨rfl, rfl⟩
              go_wp2
              go_ret2
              exact ⟨by rw [hl.out]; rfl, q, rfl⟩

theorem refShort_any (A : Option Addr) (n c : Nat) (w : World) (hn : n ≤ 140737488351232) :
    Calls Tryz.prog 42 #[.slice A n c] w fun e w' => e = .returned (.bool (decide (n ≤ 20 ∨ n = 1025))) ∧ w = w' := by
  obtain ⟨b, hb⟩ : ∃ b, b = decide (n ≤ 20 ∨ n = 1025) := ⟨_, rfl⟩
  rw [← hb]
  have HB := Lib.hid hb
  clear hb
  by_cases h : n ≤ 20
  · have h1 : decide ((n : Int) ≤ 20) = true := by simp; omega
    go_enter Tryz.func42, Tryz.ntmps42
    go_wp2
    go_ret
    exact ⟨ret_bool (by rw [HB.out]; simp [h]), rfl⟩
  · have h1 : decide ((n : Int) ≤ 20) = false := by simp; omega
    by_cases h2 : n = 1025
    · have h3 : ((n : Int) == 1025) = true := by simp [h2]
      have H2 := Lib.hid h2
      clear h2
      go_enter Tryz.func42, Tryz.ntmps42
      go_wp2
      go_ret
      exact ⟨ret_bool (by rw [HB.out]; simp [H2.out]), rfl⟩
    · have h3 : ((n : Int) == 1025) = false := by simp; omega
      go_enter Tryz.func42, Tryz.ntmps42
      go_wp2
      go_ret
      exact ⟨ret_bool (by rw [HB.out]; simp [h, h2]), rfl⟩

end Go.Proofs.YtoipafnlcchmbaaGreatDoor
namespace Go.Proofs.YtoipafnlcchmbaaGreatDoor
open Go.RowKit

def maxAt (zs : List Int) : Nat → Nat
  | 0 => 0
  | k + 1 => if zs.getD (maxAt zs k) 0 < zs.getD k 0 then k else maxAt zs k
theorem maxAt_lt (zs : List Int) (k : Nat) (hk : 0 < k) : maxAt zs k < k := by
  induction k with
  | zero => omega
  | succ k ih =>
    rw [maxAt]
    split
    · omega
    · rcases Nat.eq_zero_or_pos k with rfl | h
      · simp [maxAt]
      · have := ih h; omega
theorem maxAt_le (zs : List Int) (k : Nat) : maxAt zs k ≤ k := by
  rcases Nat.eq_zero_or_pos k with rfl | h
  · simp [maxAt]
  · exact Nat.le_of_lt (maxAt_lt zs k h)
theorem maxAt_hit {zs : List Int} {k : Nat} (h : zs.getD (maxAt zs k) 0 < zs.getD k 0) : maxAt zs (k + 1) = k := by rw [maxAt, if_pos h]
theorem maxAt_miss {zs : List Int} {k : Nat} (h : ¬ zs.getD (maxAt zs k) 0 < zs.getD k 0) : maxAt zs (k + 1) = maxAt zs k := by rw [maxAt, if_neg h]
def maxErr (zs : List Int) : Int := if checkEnergiesE zs = 0 then (if zs.length = 0 then 12 else 0) else checkEnergiesE zs
def maxVal (zs : List Int) : Int := if checkEnergiesE zs = 0 then zs.getD (maxAt zs zs.length) 0 else 0
def maxIdx (zs : List Int) : Int := if checkEnergiesE zs = 0 then (maxAt zs zs.length : Int) else 0

theorem ret_int3 {a b c a' b' c' : Int} (h : a = a') (h2 : b = b') (h3 : c = c') : Ending.returned (.tuple #[.int .i64 a, .int .i64 b, .int .i64 c]) = .returned (.tuple #[.int .i64 a', .int .i64 b', .int .i64 c']) := by rw [h, h2, h3]

set_option maxHeartbeats 2000000 in
set_option maxRecDepth 100000 in
theorem Maximum_any (A : Option Addr) (n c : Nat) (zs : List Int) (w : World) (hz : IntsAt w A n zs) (hn : n ≤ 140737488351232) :
    Calls Tryz.prog 54 #[.slice A n c] w fun e w' => e = .returned (.tuple #[.int .i64 (maxVal zs), .int .i64 (maxIdx zs), .int .i64 (maxErr zs)]) ∧ Below w.heap.size w w' := by
  have HZ := Lib.hid hz
  have hl := Lib.hid hz.1
  clear hz
  obtain ⟨E, hE⟩ : ∃ E, E = checkEnergiesE zs := ⟨_, rfl⟩
  have HE := Lib.hid hE
  clear hE
  by_cases h : E = 0
  · have h1 : (E != 0) = false := by simp [h]
    have hp := Lib.hid (HE.out.symm.trans h)
    have r1 : Hid (maxVal zs = zs.getD (maxAt zs zs.length) 0) := by show _ = _; unfold maxVal; rw [if_pos hp.out]
    have r2 : Hid (maxIdx zs = (maxAt zs zs.length : Int)) := by show _ = _; unfold maxIdx; rw [if_pos hp.out]
    clear h
    rcases Nat.eq_zero_or_pos n with h0 | h0
    · have H0 : Hid (zs = []) := List.eq_nil_of_length_eq_zero (hl.out.trans h0)
      have r3 : Hid (maxErr zs = 12) := by show _ = _; unfold maxErr; rw [if_pos hp.out, H0.out]; rfl
      rw [r1.out, r2.out, r3.out]
      have h2 : ((n : Int) == 0) = true := by simp [h0]
      clear h0
      go_enter Tryz.func54, Tryz.ntmps54
      go_wp2_with fail
      refine (checkEnergies_any A n c zs w hn HZ.out).mono ?_
      rw [← HE.out]
      rintro e w1 ⟨rfl, hb⟩
      have HB := Lib.hid hb
      clear hb
      go_wp2
      go_ret3
      exact ⟨by rw [H0.out]; rfl, HB.out⟩
    · have h2 : ((n : Int) == 0) = false := by simp; omega
      have r3 : Hid (maxErr zs = 0) := by show _ = _; unfold maxErr; rw [if_pos hp.out, if_neg (by rw [hl.out]; omega)]
      rw [r1.out, r2.out, r3.out]
      go_enter Tryz.func54, Tryz.ntmps54
      go_wp2_with fail
      refine (checkEnergies_any A n c zs w hn HZ.out).mono ?_
      rw [← HE.out]
      rintro e w1 ⟨rfl, hb⟩
      have HZ1 := Lib.hid (HZ.out.keep hb)
      have HB := Lib.hid hb
      clear hb
      go_wp2
      clear h2
      go_loop [6, 7, 8, 19] (fun at_ _ _ i => ∃ k : Nat, k ≤ n ∧ i = .int .i64 k ∧ at_ = .int .i64 (maxAt zs k)) (fun _ _ _ i => n - (intOf i).toNat)
      case atStart => exact ⟨0, Nat.zero_le _, rfl, rfl⟩
      case round =>
        obtain ⟨k, hk, rfl, rfl⟩ := hrel
        have hm := maxAt_le zs k
        have hmn : maxAt zs k < n := by
          rcases Nat.eq_zero_or_pos k with rfl | h
          · simpa [maxAt] using h0
          · have := maxAt_lt zs k h; omega
        by_cases hlt : k < n
        · obtain ⟨b, off, rfl, hcc⟩ := HZ1.out.2 (by omega)
          have c1 := hcc k hlt
          have c2 := hcc (maxAt zs k) hmn
          have q1 := Lib.hid (maxAt_hit (zs := zs) (k := k))
          have q2 := Lib.hid (maxAt_miss (zs := zs) (k := k))
          obtain ⟨m, hm2⟩ : ∃ m, m = maxAt zs k := ⟨_, rfl⟩
          rw [← hm2] at hm hmn c2 q1 q2 ⊢
          obtain ⟨x, hx⟩ : ∃ x, x = zs.getD k 0 := ⟨_, rfl⟩
          obtain ⟨y, hy⟩ : ∃ y, y = zs.getD m 0 := ⟨_, rfl⟩
          rw [← hx] at c1 q1 q2
          rw [← hy] at c2 q1 q2
          clear hcc hm2 hx hy
          by_cases hxy : y < x
          · have hQ : Hid (maxAt zs (k + 1) = k) := q1.out hxy
            clear q1 q2
            go_wp2
            go_round
            case rel => exact ⟨k + 1, by omega, by go_num, by rw [hQ.out]⟩
            case measure => simp [intOf]; omega
          · have hQ : Hid (maxAt zs (k + 1) = m) := q2.out hxy
            clear q1 q2
            go_wp2
            go_round
            case rel => exact ⟨k + 1, by omega, by go_num, by rw [hQ.out]⟩
            case measure => simp [intOf]; omega
        · obtain rfl : k = n := by omega
          obtain ⟨b, off, rfl, hcc⟩ := HZ1.out.2 (by omega)
          have c2 := hcc (maxAt zs k) hmn
          clear hcc
          go_wp2
          go_ret3
          exact ⟨by rw [hl.out]; rfl, HB.out⟩
  · have h1 : (E != 0) = true := by simp [h]
    have r1 : Hid (maxVal zs = 0) := by show _ = _; unfold maxVal; rw [if_neg (by rw [← HE.out]; exact h)]
    have r2 : Hid (maxIdx zs = 0) := by show _ = _; unfold maxIdx; rw [if_neg (by rw [← HE.out]; exact h)]
    have r3 : Hid (maxErr zs = E) := by show _ = _; unfold maxErr; rw [if_neg (by rw [← HE.out]; exact h)]; exact HE.out.symm
    rw [r1.out, r2.out, r3.out]
    clear h
    go_enter Tryz.func54, Tryz.ntmps54
    go_wp2_with fail
    refine (checkEnergies_any A n c zs w hn HZ.out).mono ?_
    rw [← HE.out]
    rintro e w1 ⟨rfl, hb⟩
    have HB := Lib.hid hb
    clear hb
    go_wp2
    go_ret3
    exact ⟨rfl, HB.out⟩

/-- How many of the first k are at least t. -/
def cntTo (zs : List Int) (t : Int) : Nat → Nat
  | 0 => 0
  | k + 1 => if t ≤ zs.getD k 0 then cntTo zs t k + 1 else cntTo zs t k
theorem cntTo_le (zs : List Int) (t : Int) (k : Nat) : cntTo zs t k ≤ k := by
  induction k with
  | zero => simp [cntTo]
  | succ k ih => rw [cntTo]; split <;> omega
theorem cntTo_hit {zs : List Int} {t : Int} {k : Nat} (h : t ≤ zs.getD k 0) : cntTo zs t (k + 1) = cntTo zs t k + 1 := by rw [cntTo, if_pos h]
theorem cntTo_miss {zs : List Int} {t : Int} {k : Nat} (h : ¬ t ≤ zs.getD k 0) : cntTo zs t (k + 1) = cntTo zs t k := by rw [cntTo, if_neg h]
def aboveErr (zs : List Int) (l : Int) : Int := firstE [checkEnergiesE zs, withinE l 0 120]
def aboveVal (zs : List Int) (l : Int) : Int := if aboveErr zs l = 0 then (cntTo zs (thr l.toNat) zs.length : Int) else 0

set_option maxHeartbeats 2000000 in
set_option maxRecDepth 100000 in
theorem Above_any (A : Option Addr) (n c : Nat) (zs : List Int) (l : Int) (w : World) (hz : IntsAt w A n zs) (hn : n ≤ 140737488351232) (hst : Steps w) :
    Calls Tryz.prog 55 #[.slice A n c, .int .i64 l] w fun e w' => e = .returned (.tuple #[.int .i64 (aboveVal zs l), .int .i64 (aboveErr zs l)]) ∧ Below w.heap.size w w' := by
  have HZ := Lib.hid hz
  have hl := Lib.hid hz.1
  have HST := Lib.hid hst
  clear hz hst
  obtain ⟨E, hE⟩ : ∃ E, E = aboveErr zs l := ⟨_, rfl⟩
  rw [← hE]
  have HE := Lib.hid hE
  clear hE
  by_cases h : E = 0
  · have h1 : (E != 0) = false := by simp [h]
    have hp := Lib.hid (HE.out.symm.trans h)
    have h2 := firstE2_zero hp.out
    have h3 := withinE_zero h2.2
    have hn2 : n ≤ 1024 := by have := (validE_of h2.1).1; rw [hl.out] at this; exact this
    obtain ⟨m, rfl⟩ : ∃ m : Nat, l = m := ⟨l.toNat, by omega⟩
    have hm : m ≤ 121 := by omega
    have r1 : Hid (aboveVal zs (m : Int) = (cntTo zs (thr m) zs.length : Int)) := by show _ = _; unfold aboveVal; rw [if_pos hp.out, Int.toNat_natCast]
    have HEZ := Lib.hid h
    rw [r1.out]
    clear h h2 h3
    go_enter Tryz.func55, Tryz.ntmps55
    go_wp2_with fail
    refine (checkEnergies_any A n c zs w hn HZ.out).mono ?_
    rintro e w1 ⟨rfl, hb⟩
    have HZ1 := Lib.hid (HZ.out.keep hb)
    have HST1 := Lib.hid (HST.out.keep hb)
    have HB := Lib.hid hb
    clear hb
    go_wp2_with fail
    refine (within_any _ _ _ _).mono ?_
    rintro e w' ⟨rfl, rfl⟩
    go_wp2_with fail
    refine (first2 _ _ (checkEnergiesE zs) (withinE (m : Int) 0 120) _ (by go_simp) (by go_simp)).mono ?_
    rw [show firstE [checkEnergiesE zs, withinE (m : Int) 0 120] = E from HE.out.symm]
    rintro e w' ⟨rfl, rfl⟩
    have HZ2 : Hid (IntsAt (w1.alloc (.cells #[.int .i64 (checkEnergiesE zs), .int .i64 (withinE (m : Int) 0 120)] 27)) A n zs) := HZ1.out.keep ((Below.refl _ _).alloc (Nat.le_refl _) _)
    go_wp2_with fail
    refine (threshold_any m _ hm (HST1.out.alloc _)).mono ?_
    rintro e w' ⟨rfl, rfl⟩
    obtain ⟨t, ht⟩ : ∃ t, t = thr m := ⟨_, rfl⟩
    rw [← ht]
    have HT := Lib.hid ht
    clear ht
    go_wp2
    go_loop [8, 10, 24] (fun s _ i => ∃ k : Nat, k ≤ n ∧ i = .int .i64 k ∧ s = .int .i64 (cntTo zs t k)) (fun _ _ i => n - (intOf i).toNat)
    case atStart => exact ⟨0, Nat.zero_le _, rfl, rfl⟩
    case round =>
      obtain ⟨k, hk, rfl, rfl⟩ := hrel
      by_cases hlt : k < n
      · obtain ⟨b, off, rfl, hcc⟩ := HZ2.out.2 (by omega)
        have c1 := hcc k hlt
        have q0 := cntTo_le zs t k
        have q1 := Lib.hid (cntTo_hit (zs := zs) (t := t) (k := k))
        have q2 := Lib.hid (cntTo_miss (zs := zs) (t := t) (k := k))
        obtain ⟨x, hx⟩ : ∃ x, x = zs.getD k 0 := ⟨_, rfl⟩
        obtain ⟨s, hs⟩ : ∃ s, s = cntTo zs t k := ⟨_, rfl⟩
        rw [← hx] at c1 q1 q2
        rw [← hs] at q0 q1 q2 ⊢
        clear hcc hx hs
        by_cases hxy : t ≤ x
        · have hQ : Hid (cntTo zs t (k + 1) = s + 1) := q1.out hxy
          clear q1 q2
          go_wp2
          go_round
          case rel => exact ⟨k + 1, by omega, by go_num, by rw [hQ.out]; go_num⟩
          case measure => simp [intOf]; omega
        · have hQ : Hid (cntTo zs t (k + 1) = s) := q2.out hxy
          clear q1 q2
          go_wp2
          go_round
          case rel => exact ⟨k + 1, by omega, by go_num, by rw [hQ.out]⟩
          case measure => simp [intOf]; omega
      · obtain rfl : k = n := by omega
        go_wp2
        go_ret2
        exact ⟨ret_int2 (by rw [hl.out, HT.out]) HEZ.out.symm, HB.out.alloc HB.out.size _⟩
  · have h1 : (E != 0) = true := by simp [h]
    have r1 : Hid (aboveVal zs l = 0) := by show _ = _; unfold aboveVal; rw [if_neg (by rw [← HE.out]; exact h)]
    rw [r1.out]
    clear h
    go_enter Tryz.func55, Tryz.ntmps55
    go_wp2_with fail
    refine (checkEnergies_any A n c zs w hn HZ.out).mono ?_
    rintro e w1 ⟨rfl, hb⟩
    have HB := Lib.hid hb
    clear hb
    go_wp2_with fail
    refine (within_any _ _ _ _).mono ?_
    rintro e w' ⟨rfl, rfl⟩
    go_wp2_with fail
    refine (first2 _ _ (checkEnergiesE zs) (withinE l 0 120) _ (by go_simp) (by go_simp)).mono ?_
    rw [show firstE [checkEnergiesE zs, withinE l 0 120] = E from HE.out.symm]
    rintro e w' ⟨rfl, rfl⟩
    go_wp2
    go_ret2
    exact ⟨rfl, HB.out.alloc HB.out.size _⟩

end Go.Proofs.YtoipafnlcchmbaaGreatDoor
namespace Go.Proofs.YtoipafnlcchmbaaGreatDoor
open Go.RowKit

theorem levelOf_bd (e : Int) (k : Nat) : -1 ≤ levelOf e k ∧ levelOf e k < (k : Int) := by
  induction k with
  | zero => simp [levelOf]
  | succ k ih => rw [levelOf]; split <;> omega
theorem levelOf_hit {e : Int} {k : Nat} (h : thr k ≤ e) : levelOf e (k + 1) = k := by rw [levelOf, if_pos h]
theorem levelOf_miss {e : Int} {k : Nat} (h : ¬ thr k ≤ e) : levelOf e (k + 1) = levelOf e k := by rw [levelOf, if_neg h]

set_option maxHeartbeats 2000000 in
set_option maxRecDepth 100000 in
theorem refLevel_any (e : Int) (w : World) :
    Calls Tryz.prog 38 #[.int .i64 e] w fun x w' => x = .returned (.int .i64 (level e)) ∧ Below w.heap.size w w' := by
  go_enter Tryz.func38, Tryz.ntmps38
  go_wp2
  go_loopw [3, 4] (fun l i wr => ∃ k : Nat, k ≤ 121 ∧ i = .int .i64 k ∧ l = .int .i64 (levelOf e k) ∧ Below w.heap.size w wr) (fun _ i _ => 121 - (intOf i).toNat)
  case atStart => exact ⟨0, Nat.zero_le _, rfl, rfl, Below.refl _ _⟩
  case round =>
    obtain ⟨k, hk, rfl, rfl, hb⟩ := hrel
    have HB := Lib.hid hb
    clear hb
    by_cases hlt : k ≤ 120
    · have hk1 : k ≤ 121 := by omega
      go_wp2_with fail
      refine (refThreshold_any k wr hk1).mono ?_
      rintro x w1 ⟨rfl, hb⟩
      have HB1 : Hid (Below w.heap.size w w1) := HB.out.trans (hb.mono HB.out.size)
      clear hb
      by_cases hx : thr k ≤ e
      · have hQ := Lib.hid (levelOf_hit hx)
        go_wp2
        go_roundw
        case rel => exact ⟨k + 1, by omega, by go_num, by rw [hQ.out], HB1.out⟩
        case measure => simp [intOf]; omega
      · have hQ := Lib.hid (levelOf_miss hx)
        go_wp2
        go_roundw
        case rel => exact ⟨k + 1, by omega, by go_num, by rw [hQ.out], HB1.out⟩
        case measure => simp [intOf]; omega
    · obtain rfl : k = 121 := by omega
      go_wp2
      go_ret
      exact ⟨rfl, HB.out⟩

set_option maxHeartbeats 2000000 in
set_option maxRecDepth 100000 in
theorem refMaximum_any (A : Option Addr) (n c : Nat) (zs : List Int) (w : World) (hz : IntsAt w A n zs) (hn : n ≤ 140737488351232) (hp0 : checkEnergiesE zs = 0) :
    Calls Tryz.prog 58 #[.slice A n c] w fun e w' => e = .returned (.tuple #[.int .i64 (maxVal zs), .int .i64 (maxIdx zs), .int .i64 (maxErr zs)]) ∧ ∃ q, w' = w.drewN q := by
  have HZ := Lib.hid hz
  have hl := Lib.hid hz.1
  have hp := Lib.hid hp0
  clear hz hp0
  have r1 : Hid (maxVal zs = zs.getD (maxAt zs zs.length) 0) := by show _ = _; unfold maxVal; rw [if_pos hp.out]
  have r2 : Hid (maxIdx zs = (maxAt zs zs.length : Int)) := by show _ = _; unfold maxIdx; rw [if_pos hp.out]
  rcases Nat.eq_zero_or_pos n with h0 | h0
  · have H0 : Hid (zs = []) := List.eq_nil_of_length_eq_zero (hl.out.trans h0)
    have r3 : Hid (maxErr zs = 12) := by show _ = _; unfold maxErr; rw [if_pos hp.out, H0.out]; rfl
    rw [r1.out, r2.out, r3.out]
    have h2 : ((n : Int) == 0) = true := by simp [h0]
    clear h0
    go_enter Tryz.func58, Tryz.ntmps58
    go_wp2
    go_ret3
    exact ⟨by rw [H0.out]; rfl, 0, rfl⟩
  · have h2 : ((n : Int) == 0) = false := by simp; omega
    have r3 : Hid (maxErr zs = 0) := by show _ = _; unfold maxErr; rw [if_pos hp.out, if_neg (by rw [hl.out]; omega)]
    rw [r1.out, r2.out, r3.out]
    go_enter Tryz.func58, Tryz.ntmps58
    go_wp2
    clear h2
    go_loopw [5, 6] (fun at_ i wr => ∃ k : Nat, 1 ≤ k ∧ k ≤ n ∧ i = .int .i64 k ∧ at_ = .int .i64 (maxAt zs k) ∧ ∃ q, wr = w.drewN q) (fun _ i _ => n - (intOf i).toNat)
    case atStart => exact ⟨1, by omega, by omega, rfl, by simp [maxAt], 0, rfl⟩
    case round =>
      obtain ⟨k, hk0, hk, rfl, rfl, q, rfl⟩ := hrel
      have hm := maxAt_lt zs k hk0
      have hmn : maxAt zs k < n := by omega
      by_cases hlt : k < n
      · obtain ⟨b, off, rfl, hcc⟩ := HZ.out.2 (by omega)
        have c1 := hcc k hlt
        have c2 := hcc (maxAt zs k) hmn
        have q1 := Lib.hid (maxAt_hit (zs := zs) (k := k))
        have q2 := Lib.hid (maxAt_miss (zs := zs) (k := k))
        obtain ⟨m, hm2⟩ : ∃ m, m = maxAt zs k := ⟨_, rfl⟩
        rw [← hm2] at hm hmn c2 q1 q2 ⊢
        obtain ⟨x, hx⟩ : ∃ x, x = zs.getD k 0 := ⟨_, rfl⟩
        obtain ⟨y, hy⟩ : ∃ y, y = zs.getD m 0 := ⟨_, rfl⟩
        rw [← hx] at c1 q1 q2
        rw [← hy] at c2 q1 q2
        clear hcc hm2 hx hy
        have i1 : (k : Int) < (n : Int) := by omega
        have i2 : (m : Int) < (n : Int) := by omega
        by_cases hxy : y < x
        · have hQ : Hid (maxAt zs (k + 1) = k) := q1.out hxy
          clear q1 q2
          go_wp2
          go_quiet (fail)
          go_wp2
          go_roundw
          case rel => exact ⟨k + 1, by omega, by omega, by go_num, by rw [hQ.out], _, rfl⟩
          case measure => simp [intOf]; omega
        · have hQ : Hid (maxAt zs (k + 1) = m) := q2.out hxy
          clear q1 q2
          have hd : decide (y < x) = false := by simp; omega
          go_wp2
          go_quiet (fail)
          go_wp2
          go_roundw
          case rel => exact ⟨k + 1, by omega, by omega, by go_num, by rw [hQ.out], _, rfl⟩
          case measure => simp [intOf]; omega
      · obtain rfl : k = n := by omega
        obtain ⟨b, off, rfl, hcc⟩ := HZ.out.2 (by omega)
        have c2 := hcc (maxAt zs k) hmn
        clear hcc
        go_wp2
        go_ret3
        exact ⟨by rw [hl.out]; rfl, q, rfl⟩

theorem level_ge {e : Int} {m : Nat} (hm : m ≤ 120) (h : thr m ≤ e) : (m : Int) ≤ level e := by
  have key : ∀ k, m < k → k ≤ 121 → (m : Int) ≤ levelOf e k := by
    intro k
    induction k with
    | zero => omega
    | succ k ih =>
      intro h1 h2
      rw [levelOf]
      split
      · omega
      · by_cases hk : m = k
        · subst hk; contradiction
        · exact ih (by omega) (by omega)
  exact key 121 (by omega) (Nat.le_refl _)
theorem level_lt {e : Int} {m : Nat} (h : e < thr m) : level e < (m : Int) := by
  have key : ∀ k, levelOf e k < (m : Int) := by
    intro k
    induction k with
    | zero => simp [levelOf]; omega
    | succ k ih =>
      rw [levelOf]
      split
      · rename_i h2
        rcases Nat.lt_or_ge k m with h3 | h3
        · omega
        · have := thr_le h3; omega
      · exact ih
  exact key 121

set_option maxHeartbeats 2000000 in
set_option maxRecDepth 100000 in
theorem refAbove_any (A : Option Addr) (n c : Nat) (zs : List Int) (m : Nat) (w : World) (hz : IntsAt w A n zs) (hn : n ≤ 140737488351232) (hm : m ≤ 120) :
    Calls Tryz.prog 59 #[.slice A n c, .int .i64 m] w fun e w' => e = .returned (.int .i64 (cntTo zs (thr m) n)) ∧ Below w.heap.size w w' := by
  have HZ := Lib.hid hz
  clear hz
  obtain ⟨t, ht⟩ : ∃ t, t = thr m := ⟨_, rfl⟩
  rw [← ht]
  have HT := Lib.hid ht
  clear ht
  go_enter Tryz.func59, Tryz.ntmps59
  go_wp2
  go_loopw [5, 6] (fun s i wr => ∃ k : Nat, k ≤ n ∧ i = .int .i64 k ∧ s = .int .i64 (cntTo zs t k) ∧ Below w.heap.size w wr) (fun _ i _ => n - (intOf i).toNat)
  case atStart => exact ⟨0, Nat.zero_le _, rfl, rfl, Below.refl _ _⟩
  case round =>
    obtain ⟨k, hk, rfl, rfl, hb⟩ := hrel
    have HB := Lib.hid hb
    by_cases hlt : k < n
    · obtain ⟨b, off, rfl, hcc⟩ := (HZ.out.keep hb).2 (by omega)
      clear hb
      have c1 := hcc k hlt
      have q0 := cntTo_le zs t k
      have q1 := Lib.hid (cntTo_hit (zs := zs) (t := t) (k := k))
      have q2 := Lib.hid (cntTo_miss (zs := zs) (t := t) (k := k))
      obtain ⟨x, hx⟩ : ∃ x, x = zs.getD k 0 := ⟨_, rfl⟩
      obtain ⟨s, hs⟩ : ∃ s, s = cntTo zs t k := ⟨_, rfl⟩
      rw [← hx] at c1 q1 q2
      rw [← hs] at q0 q1 q2 ⊢
      clear hcc hx hs
      go_wp2_with fail
      refine (refLevel_any x wr).mono ?_
      rintro e w1 ⟨rfl, hb⟩
      have HB1 : Hid (Below w.heap.size w w1) := HB.out.trans (hb.mono HB.out.size)
      clear hb
      by_cases hxy : t ≤ x
      · have hQ : Hid (cntTo zs t (k + 1) = s + 1) := q1.out hxy
        have hge := level_ge hm (by rw [← HT.out]; exact hxy)
        clear q1 q2
        go_wp2
        go_roundw
        case rel => exact ⟨k + 1, by omega, by go_num, by rw [hQ.out]; go_num, HB1.out⟩
        case measure => simp [intOf]; omega
      · have hQ : Hid (cntTo zs t (k + 1) = s) := q2.out (by omega)
        have hge := level_lt (e := x) (m := m) (by rw [← HT.out]; omega)
        clear q1 q2
        go_wp2
        go_roundw
        case rel => exact ⟨k + 1, by omega, by go_num, by rw [hQ.out], HB1.out⟩
        case measure => simp [intOf]; omega
    · obtain rfl : k = n := by omega
      clear hb
      go_wp2
      go_ret
      exact ⟨rfl, HB.out⟩

end Go.Proofs.YtoipafnlcchmbaaGreatDoor
