/- Texts Ib7 Ib8 Q1 Io Ip Iq Ir of the proof. -/
import Derived.Test.YtmafmebcgmegeaaGreatDoorY20
import Derived.BigQuiet
set_option autoImplicit false
set_option relaxedAutoImplicit false
namespace Go.Proofs.Bell
/-! Tracks that are flown along a path (chapter 2). -/
structure Pt where
  x : Int
  y : Int
structure Sp where
  d : Int
  h : Int
  p : Int
def ptAt (l : List Pt) (i : Nat) : Pt := l.getD i ⟨0, 0⟩
def spAt (l : List Sp) (i : Nat) : Sp := l.getD i ⟨0, 0, 0⟩
def absI (a b : Int) : Int := max (a - b) (b - a)
/-- the length of a path up to the point `n` -/
def lenTo (l : List Pt) : Nat → Int
  | 0 => 0
  | n + 1 => lenTo l n + absI (ptAt l (n + 1)).x (ptAt l n).x + absI (ptAt l (n + 1)).y (ptAt l n).y
theorem lenTo_mono (l : List Pt) {i j : Nat} (h : i ≤ j) : lenTo l i ≤ lenTo l j := by
  induction j with
  | zero => have : i = 0 := by omega
            subst this; exact Int.le_refl _
  | succ j ih =>
    rcases Nat.lt_or_ge i (j + 1) with q | q
    · have := ih (by omega)
      simp only [lenTo, absI]
      omega
    · have : i = j + 1 := by omega
      subst this; exact Int.le_refl _
theorem lenTo_nonneg (l : List Pt) (i : Nat) : 0 ≤ lenTo l i := lenTo_mono l (Nat.zero_le i)
def nextSp (p : List Sp) (d : Int) : Nat := p.findIdx (fun s => decide (d < s.d))
/-- the height and the power of a procedure at a length -/
def heightAt (p : List Sp) (d : Int) : Int :=
  if nextSp p d = p.length then (spAt p (p.length - 1)).h
  else betw (spAt p (nextSp p d - 1)).h (spAt p (nextSp p d)).h (d - (spAt p (nextSp p d - 1)).d) ((spAt p (nextSp p d)).d - (spAt p (nextSp p d - 1)).d)
def powerAt (p : List Sp) (d : Int) : Int :=
  if nextSp p d = p.length then (spAt p (p.length - 1)).p
  else betw (spAt p (nextSp p d - 1)).p (spAt p (nextSp p d)).p (d - (spAt p (nextSp p d - 1)).d) ((spAt p (nextSp p d)).d - (spAt p (nextSp p d - 1)).d)
/-- a procedure without fault -/
structure GoodSp (p : List Sp) : Prop where
  lo : 2 ≤ p.length
  zero : (spAt p 0).d = 0
  up : ∀ i j, i < j → j < p.length → (spAt p i).d < (spAt p j).d
  h0 : ∀ i, i < p.length → 0 ≤ (spAt p i).h ∧ (spAt p i).h ≤ 20000
  p0 : ∀ i, i < p.length → 1 ≤ (spAt p i).p ∧ (spAt p i).p ≤ 100
theorem spAt_get {l : List Sp} {j : Nat} (hj : j < l.length) : spAt l j = l[j] := by
  unfold spAt; rw [List.getD_eq_getElem?_getD, List.getElem?_eq_getElem hj]; rfl
/-- where a length lies in a procedure -/
theorem next_sp {p : List Sp} (g : GoodSp p) {d : Int} (hd : 0 ≤ d) (h : nextSp p d ≠ p.length) :
    0 < nextSp p d ∧ nextSp p d < p.length ∧ (spAt p (nextSp p d - 1)).d ≤ d ∧ d < (spAt p (nextSp p d)).d := by
  have hle := List.findIdx_le_length (xs := p) (p := fun s => decide (d < s.d))
  have hl : nextSp p d < p.length := by unfold nextSp at *; omega
  have h3 := of_decide_eq_true (List.findIdx_getElem (p := fun s : Sp => decide (d < s.d)) (xs := p) (w := hl))
  have e : spAt p (nextSp p d) = p[nextSp p d] := spAt_get hl
  have h4 : d < (spAt p (nextSp p d)).d := by rw [e]; exact h3
  have h0 : 0 < nextSp p d := by
    apply Nat.pos_of_ne_zero
    intro q
    rw [q, g.zero] at h4
    omega
  have h5 := List.not_of_lt_findIdx (p := fun s : Sp => decide (d < s.d)) (xs := p) (i := nextSp p d - 1) (by unfold nextSp at *; omega)
  refine ⟨h0, hl, ?_, h4⟩
  rw [spAt_get (by omega)]
  simp at h5
  omega
theorem height_bounds {p : List Sp} (g : GoodSp p) {d lo hi : Int} (hd : 0 ≤ d) (h : ∀ i, i < p.length → lo ≤ (spAt p i).h ∧ (spAt p i).h ≤ hi) : lo ≤ heightAt p d ∧ heightAt p d ≤ hi := by
  have := g.lo
  unfold heightAt
  split
  · exact h _ (by omega)
  · rename_i q
    obtain ⟨a, b, c, e⟩ := next_sp g hd q
    exact betw_bounds (by omega) (by omega) (by omega) (h _ (by omega)).1 (h _ b).1 (h _ (by omega)).2 (h _ b).2
theorem power_bounds {p : List Sp} (g : GoodSp p) {d lo hi : Int} (hd : 0 ≤ d) (h : ∀ i, i < p.length → lo ≤ (spAt p i).p ∧ (spAt p i).p ≤ hi) : lo ≤ powerAt p d ∧ powerAt p d ≤ hi := by
  have := g.lo
  unfold powerAt
  split
  · exact h _ (by omega)
  · rename_i q
    obtain ⟨a, b, c, e⟩ := next_sp g hd q
    exact betw_bounds (by omega) (by omega) (by omega) (h _ (by omega)).1 (h _ b).1 (h _ (by omega)).2 (h _ b).2
def flownAt (l : List Pt) (p : List Sp) (speed tick : Int) (i : Nat) : Fx :=
  ⟨tick + (lenTo l i + speed - 1) / speed, (ptAt l i).x, (ptAt l i).y, heightAt p (lenTo l i), powerAt p (lenTo l i)⟩
def flown (l : List Pt) (p : List Sp) (speed tick : Int) : List Fx := (List.range l.length).map (flownAt l p speed tick)
theorem flown_len (l : List Pt) (p : List Sp) (speed tick : Int) : (flown l p speed tick).length = l.length := by simp [flown]
theorem flown_at {l : List Pt} (p : List Sp) (speed tick : Int) {i : Nat} (h : i < l.length) : fxAt (flown l p speed tick) i = flownAt l p speed tick i := by
  rw [fxAt_get (by rw [flown_len]; exact h)]
  simp [flown]
theorem flown_later (l : List Pt) (p : List Sp) (speed tick c : Int) (i : Nat) : flownAt l p speed (tick + c) i = { flownAt l p speed tick i with t := (flownAt l p speed tick i).t + c } := by
  unfold flownAt
  simp only [Fx.mk.injEq, and_true]
  omega
/-- twice the speed leads from each point to the next, if the heights are the same and the ticks ascend -/
theorem flown_flies {l : List Pt} {p : List Sp} {speed : Int} (hs : 0 < speed) (tick : Int) {i : Nat}
    (hz : (flownAt l p speed tick i).z = (flownAt l p speed tick (i + 1)).z) (ht : (flownAt l p speed tick i).t < (flownAt l p speed tick (i + 1)).t) :
    flies (2 * speed) (flownAt l p speed tick i) (flownAt l p speed tick (i + 1)) := by
  unfold flies sqFx
  rw [hz]
  obtain ⟨A, hA⟩ : ∃ A, A = absI (ptAt l (i + 1)).x (ptAt l i).x := ⟨_, rfl⟩
  obtain ⟨B, hB⟩ : ∃ B, B = absI (ptAt l (i + 1)).y (ptAt l i).y := ⟨_, rfl⟩
  have hL : lenTo l (i + 1) = lenTo l i + A + B := by rw [hA, hB]; rfl
  have hA0 : 0 ≤ A := by unfold absI at hA; omega
  have hB0 : 0 ≤ B := by unfold absI at hB; omega
  have sA : ((ptAt l (i + 1)).x - (ptAt l i).x) * ((ptAt l (i + 1)).x - (ptAt l i).x) = A * A := by
    rcases Int.le_total (ptAt l i).x (ptAt l (i + 1)).x with q | q
    · have : A = (ptAt l (i + 1)).x - (ptAt l i).x := by unfold absI at hA; omega
      rw [this]
    · have : A = (ptAt l i).x - (ptAt l (i + 1)).x := by unfold absI at hA; omega
      rw [this]; grind
  have sB : ((ptAt l (i + 1)).y - (ptAt l i).y) * ((ptAt l (i + 1)).y - (ptAt l i).y) = B * B := by
    rcases Int.le_total (ptAt l i).y (ptAt l (i + 1)).y with q | q
    · have : B = (ptAt l (i + 1)).y - (ptAt l i).y := by unfold absI at hB; omega
      rw [this]
    · have : B = (ptAt l i).y - (ptAt l (i + 1)).y := by unfold absI at hB; omega
      rw [this]; grind
  have hx : (flownAt l p speed tick (i + 1)).x - (flownAt l p speed tick i).x = (ptAt l (i + 1)).x - (ptAt l i).x := rfl
  have hy : (flownAt l p speed tick (i + 1)).y - (flownAt l p speed tick i).y = (ptAt l (i + 1)).y - (ptAt l i).y := rfl
  rw [hx, hy, sA, sB]
  obtain ⟨D, hD⟩ : ∃ D, D = (flownAt l p speed tick (i + 1)).t - (flownAt l p speed tick i).t := ⟨_, rfl⟩
  have hD1 : 1 ≤ D := by omega
  have hAB : A + B ≤ 2 * speed * D := by
    have e1 : D = (lenTo l (i + 1) + speed - 1) / speed - (lenTo l i + speed - 1) / speed := by rw [hD]; unfold flownAt; simp only; omega
    have q1 := Int.mul_ediv_add_emod (lenTo l (i + 1) + speed - 1) speed
    have q2 := Int.mul_ediv_add_emod (lenTo l i + speed - 1) speed
    have m1 := Int.emod_lt_of_pos (lenTo l (i + 1) + speed - 1) hs
    have m2 := Int.emod_nonneg (lenTo l i + speed - 1) (by omega : speed ≠ 0)
    have e2 : speed * D = speed * ((lenTo l (i + 1) + speed - 1) / speed) - speed * ((lenTo l i + speed - 1) / speed) := by rw [e1, Int.mul_sub]
    have e3 : speed * 1 ≤ speed * D := Int.mul_le_mul_of_nonneg_left hD1 (by omega)
    have e4 : 2 * speed * D = 2 * (speed * D) := by rw [Int.mul_assoc]
    omega
  have hsq := sq_le (by omega : 0 ≤ A + B) hAB
  have hab : 0 ≤ A * B := Int.mul_nonneg hA0 hB0
  have e5 : (A + B) * (A + B) = A * A + B * B + 2 * (A * B) := by grind
  rw [← hD]
  simp only [Int.sub_self, Int.mul_zero, Int.add_zero]
  omega
end Go.Proofs.Bell

namespace Go.Proofs.YtmafmebcgmegeaaGreatDoor
open Go.RowKit Go.Sort
theorem srcSpeed_st (x : Int) (w : World) : Calls Tryz.prog 118 #[.int .i64 x] w fun e w' => e = .returned (.int .i64 (withinE x 1 1000)) ∧ w' = w := by
  go_enter Tryz.func118, Tryz.ntmps118
  go_wp2_with fail
  refine (within_any _ _ _ _).mono ?_
  rintro e w' ⟨rfl, rfl⟩
  go_wp2
  go_ret
  exact ⟨rfl, rfl⟩
theorem srcAlong_st (x : Int) (w : World) : Calls Tryz.prog 183 #[.int .i64 x] w fun e w' => e = .returned (.int .i64 (withinE x 0 400000)) ∧ w' = w := by
  go_enter Tryz.func183, Tryz.ntmps183
  go_wp2_with fail
  refine (within_any _ _ _ _).mono ?_
  rintro e w' ⟨rfl, rfl⟩
  go_wp2
  go_ret
  exact ⟨rfl, rfl⟩
theorem atMost_pt (A : Option Addr) (n c : Nat) (limit : Int) (w : World) :
    Calls Tryz.prog 214 #[.slice A n c, .int .i64 limit] w fun e w' => e = .returned (.int .i64 (atMostE n limit)) ∧ w' = w := by
  by_cases h : limit < (n : Int)
  · have hr : atMostE n limit = 5 := by simp [atMostE, h]
    rw [hr]; clear hr
    go_enter Tryz.func214, Tryz.ntmps214
    go_wp2
    go_ret
    exact ⟨rfl, rfl⟩
  · have hr : atMostE n limit = 0 := by simp [atMostE, h]
    rw [hr]; clear hr
    go_enter Tryz.func214, Tryz.ntmps214
    go_wp2
    go_ret
    exact ⟨rfl, rfl⟩
theorem atMost_step (A : Option Addr) (n c : Nat) (limit : Int) (w : World) :
    Calls Tryz.prog 182 #[.slice A n c, .int .i64 limit] w fun e w' => e = .returned (.int .i64 (atMostE n limit)) ∧ w' = w := by
  by_cases h : limit < (n : Int)
  · have hr : atMostE n limit = 5 := by simp [atMostE, h]
    rw [hr]; clear hr
    go_enter Tryz.func182, Tryz.ntmps182
    go_wp2
    go_ret
    exact ⟨rfl, rfl⟩
  · have hr : atMostE n limit = 0 := by simp [atMostE, h]
    rw [hr]; clear hr
    go_enter Tryz.func182, Tryz.ntmps182
    go_wp2
    go_ret
    exact ⟨rfl, rfl⟩
theorem atMost_flight (A : Option Addr) (n c : Nat) (limit : Int) (w : World) :
    Calls Tryz.prog 217 #[.slice A n c, .int .i64 limit] w fun e w' => e = .returned (.int .i64 (atMostE n limit)) ∧ w' = w := by
  by_cases h : limit < (n : Int)
  · have hr : atMostE n limit = 5 := by simp [atMostE, h]
    rw [hr]; clear hr
    go_enter Tryz.func217, Tryz.ntmps217
    go_wp2
    go_ret
    exact ⟨rfl, rfl⟩
  · have hr : atMostE n limit = 0 := by simp [atMostE, h]
    rw [hr]; clear hr
    go_enter Tryz.func217, Tryz.ntmps217
    go_wp2
    go_ret
    exact ⟨rfl, rfl⟩
theorem atMost_type (A : Option Addr) (n c : Nat) (limit : Int) (w : World) :
    Calls Tryz.prog 190 #[.slice A n c, .int .i64 limit] w fun e w' => e = .returned (.int .i64 (atMostE n limit)) ∧ w' = w := by
  by_cases h : limit < (n : Int)
  · have hr : atMostE n limit = 5 := by simp [atMostE, h]
    rw [hr]; clear hr
    go_enter Tryz.func190, Tryz.ntmps190
    go_wp2
    go_ret
    exact ⟨rfl, rfl⟩
  · have hr : atMostE n limit = 0 := by simp [atMostE, h]
    rw [hr]; clear hr
    go_enter Tryz.func190, Tryz.ntmps190
    go_wp2
    go_ret
    exact ⟨rfl, rfl⟩
theorem atMost_fixE (A : Option Addr) (n c : Nat) (limit : Int) (w : World) :
    Calls Tryz.prog 122 #[.slice A n c, .int .i64 limit] w fun e w' => e = .returned (.int .i64 (atMostE n limit)) ∧ w' = w := by
  by_cases h : limit < (n : Int)
  · have hr : atMostE n limit = 5 := by simp [atMostE, h]
    rw [hr]; clear hr
    go_enter Tryz.func122, Tryz.ntmps122
    go_wp2
    go_ret
    exact ⟨rfl, rfl⟩
  · have hr : atMostE n limit = 0 := by simp [atMostE, h]
    rw [hr]; clear hr
    go_enter Tryz.func122, Tryz.ntmps122
    go_wp2
    go_ret
    exact ⟨rfl, rfl⟩
/-- The error of a list that must have from 2 on. -/
def lengthE (n : Nat) (limit : Int) : Int := if n < 2 then 16 else atMostE n limit
theorem length_pt (A : Option Addr) (n c : Nat) (limit : Int) (w : World) :
    Calls Tryz.prog 178 #[.slice A n c, .int .i64 limit] w fun e w' => e = .returned (.int .i64 (lengthE n limit)) ∧ w' = w := by
  by_cases h : n < 2
  · have hr : lengthE n limit = 16 := by simp [lengthE, h]
    have h2 : (n : Int) < 2 := by omega
    rw [hr]; clear hr h
    go_enter Tryz.func178, Tryz.ntmps178
    go_wp2
    go_ret
    exact ⟨rfl, rfl⟩
  · have hr : lengthE n limit = atMostE n limit := by simp [lengthE, h]
    have h2 : ¬ (n : Int) < 2 := by omega
    rw [hr]; clear hr h
    go_enter Tryz.func178, Tryz.ntmps178
    go_wp2_with fail
    refine (atMost_pt A n c limit _).mono ?_
    rintro e w' ⟨rfl, rfl⟩
    go_wp2
    go_ret
    exact ⟨rfl, rfl⟩
theorem length_step (A : Option Addr) (n c : Nat) (limit : Int) (w : World) :
    Calls Tryz.prog 132 #[.slice A n c, .int .i64 limit] w fun e w' => e = .returned (.int .i64 (lengthE n limit)) ∧ w' = w := by
  by_cases h : n < 2
  · have hr : lengthE n limit = 16 := by simp [lengthE, h]
    have h2 : (n : Int) < 2 := by omega
    rw [hr]; clear hr h
    go_enter Tryz.func132, Tryz.ntmps132
    go_wp2
    go_ret
    exact ⟨rfl, rfl⟩
  · have hr : lengthE n limit = atMostE n limit := by simp [lengthE, h]
    have h2 : ¬ (n : Int) < 2 := by omega
    rw [hr]; clear hr h
    go_enter Tryz.func132, Tryz.ntmps132
    go_wp2_with fail
    refine (atMost_step A n c limit _).mono ?_
    rintro e w' ⟨rfl, rfl⟩
    go_wp2
    go_ret
    exact ⟨rfl, rfl⟩
theorem length_fix (A : Option Addr) (n c : Nat) (limit : Int) (w : World) :
    Calls Tryz.prog 125 #[.slice A n c, .int .i64 limit] w fun e w' => e = .returned (.int .i64 (lengthE n limit)) ∧ w' = w := by
  by_cases h : n < 2
  · have hr : lengthE n limit = 16 := by simp [lengthE, h]
    have h2 : (n : Int) < 2 := by omega
    rw [hr]; clear hr h
    go_enter Tryz.func125, Tryz.ntmps125
    go_wp2
    go_ret
    exact ⟨rfl, rfl⟩
  · have hr : lengthE n limit = atMostE n limit := by simp [lengthE, h]
    have h2 : ¬ (n : Int) < 2 := by omega
    rw [hr]; clear hr h
    go_enter Tryz.func125, Tryz.ntmps125
    go_wp2_with fail
    refine (atMost_fixE A n c limit _).mono ?_
    rintro e w' ⟨rfl, rfl⟩
    go_wp2
    go_ret
    exact ⟨rfl, rfl⟩
theorem that_any (b : Bool) (x : Int) (w : World) :
    Calls Tryz.prog 193 #[.bool b, .int .i64 x] w fun e w' => e = .returned (.int .i64 (if b then 0 else x)) ∧ w' = w := by
  cases b
  · simp only [Bool.false_eq_true, if_false]
    go_enter Tryz.func193, Tryz.ntmps193
    go_wp2
    go_ret
    exact ⟨rfl, rfl⟩
  · simp only [if_true]
    go_enter Tryz.func193, Tryz.ntmps193
    go_wp2
    go_ret
    exact ⟨rfl, rfl⟩
theorem isNaN_int (x : Int) (w : World) : Calls Tryz.prog 216 #[.int .i64 x] w fun e w' => e = .returned (.bool false) ∧ w' = w := by
  go_enter Tryz.func216, Tryz.ntmps216
  go_wp2
  go_ret
  exact ⟨rfl, rfl⟩
/-- The order of two numbers. -/
def cmpI (a b : Int) : Int := if a < b then -1 else if b < a then 1 else 0
theorem compare_int (a b : Int) (w : World) : Calls Tryz.prog 189 #[.int .i64 a, .int .i64 b] w fun e w' => e = .returned (.int .i64 (cmpI a b)) ∧ w' = w := by
  have HR : Hid (cmpI a b = if a < b then -1 else if b < a then 1 else 0) := rfl
  rcases Int.lt_trichotomy a b with h | h | h
  · have hr : cmpI a b = -1 := by unfold cmpI; rw [if_pos h]
    rw [hr]; clear hr HR
    go_enter Tryz.func189, Tryz.ntmps189
    go_wp2_with fail
    refine (isNaN_int a _).mono ?_
    rintro e w1 ⟨rfl, rfl⟩
    go_wp2_with fail
    refine (isNaN_int b _).mono ?_
    rintro e w2 ⟨rfl, rfl⟩
    go_wp2
    go_ret
    exact ⟨rfl, rfl⟩
  · subst h
    have hr : cmpI a a = 0 := by unfold cmpI; rw [if_neg (by omega), if_neg (by omega)]
    have h1 : ¬ a < a := by omega
    rw [hr]; clear hr HR
    go_enter Tryz.func189, Tryz.ntmps189
    go_wp2_with fail
    refine (isNaN_int a _).mono ?_
    rintro e w1 ⟨rfl, rfl⟩
    go_wp2_with fail
    refine (isNaN_int a _).mono ?_
    rintro e w2 ⟨rfl, rfl⟩
    go_wp2
    go_ret
    exact ⟨rfl, rfl⟩
  · have hr : cmpI a b = 1 := by unfold cmpI; rw [if_neg (by omega), if_pos h]
    have h1 : ¬ a < b := by omega
    rw [hr]; clear hr HR
    go_enter Tryz.func189, Tryz.ntmps189
    go_wp2_with fail
    refine (isNaN_int a _).mono ?_
    rintro e w1 ⟨rfl, rfl⟩
    go_wp2_with fail
    refine (isNaN_int b _).mono ?_
    rintro e w2 ⟨rfl, rfl⟩
    go_wp2
    go_ret
    exact ⟨rfl, rfl⟩
theorem kind_any (n : Nat) (w : World) : Calls Tryz.prog 148 #[.int .i64 n] w fun e w' => e = .returned (.int .i64 (min n 4 : Nat)) ∧ w' = w := by
  rcases Nat.lt_or_ge 4 n with h | h
  · have hr : (min n 4 : Nat) = 4 := by omega
    have h1 : min (n : Int) 4 = 4 := by omega
    rw [hr]; clear hr
    go_enter Tryz.func148, Tryz.ntmps148
    go_wp2
    go_ret
    exact ⟨ret_int (by omega), rfl⟩
  · have hr : (min n 4 : Nat) = n := by omega
    have h1 : min (n : Int) 4 = n := by omega
    rw [hr]; clear hr
    go_enter Tryz.func148, Tryz.ntmps148
    go_wp2
    go_ret
    exact ⟨ret_int (by omega), rfl⟩
theorem clip_fix (b off n c : Nat) (w : World) (h : n ≤ c) (hc : c ≤ 9223372036854775807) : Calls Tryz.prog 120 #[.slice (some ⟨b, off, none⟩) n c] w fun e w' => e = .returned (.slice (some ⟨b, off, none⟩) n n) ∧ w' = w := by
  have h1 : (0 : Int) ≤ (n : Int) := by omega
  have h2 : (n : Int) ≤ (c : Int) := by omega
  go_enter Tryz.func120, Tryz.ntmps120
  go_wp2
  go_ret
  exact ⟨rfl, rfl⟩
/-- The error of a step of a procedure. -/
def stepE (s : Bell.Sp) : Int := firstE [withinE s.d 0 400000, withinE s.h 0 20000, withinE s.p 1 100]
def spV (s : Bell.Sp) : Array Value := #[.int .i64 s.d, .int .i64 s.h, .int .i64 s.p]
set_option maxHeartbeats 2000000 in
set_option maxRecDepth 100000 in
theorem stepCheck_any (s : Bell.Sp) (w : World) :
    Calls Tryz.prog 133 #[.agg (spV s)] w fun e w' => e = .returned (.int .i64 (stepE s)) ∧ Below w.heap.size w w' := by
  unfold spV
  go_enter Tryz.func133, Tryz.ntmps133
  go_wp2_with fail
  have HB : Hid (Below w.heap.size w w) := Below.refl _ _
  obtain ⟨w0, hw0⟩ : ∃ W, W = (w.alloc (.cells #[.int .i64 s.d, .int .i64 s.h, .int .i64 s.p] 166)) := ⟨_, rfl⟩
  rw [← hw0]
  have B : Hid (Blk w0 (w.heap.size) 166 #[.int .i64 s.d, .int .i64 s.h, .int .i64 s.p]) := by show Blk _ _ _ _; rw [hw0]; exact Blk.new _ _ _
  have hb0 : Below w.heap.size w w0 := by rw [hw0]; exact ((Below.refl _ _).alloc (Nat.le_refl _) _)
  obtain ⟨g, hg⟩ : ∃ g, g = w.heap.size := ⟨_, rfl⟩
  have HGw0 : Hid (g = w.heap.size) := hg
  rw [← hg] at B
  try rw [← hg]
  clear hw0 hg
  replace HB := Lib.hid (HB.out.trans (hb0.mono HB.out.size))
  clear hb0
  have a0 := fun d os => cell_regrown (B.out.cell 0) d os
  have a1 := fun d os => cell_regrown (B.out.cell 1) d os
  have a2 := fun d os => cell_regrown (B.out.cell 2) d os
  have c0 := fun nd ns => Calls.regrown_of (Calls.grow_same (srcAlong_st s.d (grow (redrawn w0 nd) ns)))
  have c1 := fun nd ns => Calls.regrown_of (Calls.grow_same (srcHeight_st s.h (grow (redrawn w0 nd) ns)))
  have c2 := fun nd ns => Calls.regrown_of (Calls.grow_same (srcPower_st s.p (grow (redrawn w0 nd) ns)))
  refine wp_region_below_tail 9 (by kernel_rfl) (by kernel_rfl) ?_
  simp only [List.take_succ_cons, List.take_zero, List.drop_succ_cons, List.drop_zero]
  iterate 2 (quiet_step (fail))
  quiet_step (exact c0 _ _)
  iterate 2 (quiet_step (fail))
  quiet_step (exact c1 _ _)
  iterate 2 (quiet_step (fail))
  quiet_step (exact c2 _ _)
  refine wpQuiet_nil ?_
  intro w1 hq1
  obtain ⟨⟨dq, osq⟩, hq2⟩ := hq1
  have hb1 := below_regrown w0 dq osq
  rw [← hq2] at hb1
  clear hq2
  replace HB := Lib.hid (HB.out.trans (hb1.mono HB.out.size))
  clear hb1
  clear a0 a1 a2 c0 c1 c2 B
  go_wp2_with fail
  refine (first3 _ _ (withinE s.d 0 400000) (withinE s.h 0 20000) (withinE s.p 1 100) _ (by go_simp) (by go_simp) (by go_simp)).mono ?_
  rintro e w2 ⟨rfl, rfl⟩
  go_wp2
  go_ret
  exact ⟨rfl, HB.out.alloc HB.out.size _⟩
end Go.Proofs.YtmafmebcgmegeaaGreatDoor

namespace Go.Proofs.YtmafmebcgmegeaaGreatDoor
open Go.RowKit Go.Sort
/-- What the reference's When answers, by a letter. -/
theorem refWhen_let (b : Bool) (x : Int) (w : World) :
    Calls Tryz.prog 105 #[.bool b, .int .i64 x] w fun e w' => ∃ a : Int, e = .returned (.int .i64 a) ∧ Hid (a = if b then x else 0) ∧ w' = w :=
  (refWhen_any b x w).mono fun _ _ h => ⟨_, h.1, rfl, h.2.symm⟩
theorem refPower_st (x : Int) (w : World) : Calls Tryz.prog 22 #[.int .i64 x] w fun e w' => e = .returned (.int .i64 (withinE x 1 100)) ∧ w' = w := by
  go_enter Tryz.func22, Tryz.ntmps22
  go_wp2_with fail
  refine (refCheckRange_st _ _ _ _).mono ?_
  rintro e w' ⟨rfl, rfl⟩
  go_wp2
  go_ret
  exact ⟨rfl, rfl⟩
end Go.Proofs.YtmafmebcgmegeaaGreatDoor

namespace Go.Proofs.YtmafmebcgmegeaaGreatDoor
open Go.RowKit Go.Sort
/-- A slice of points in memory, empty perhaps. -/
def TrAt (w : World) (A : Option Addr) (n : Nat) (l : List Bell.Fx) : Prop := l.length = n ∧ (0 < n → ∃ b off, A = some ⟨b, off, none⟩ ∧ FixesAt w b off n l)
theorem TrAt.keep {w w' : World} {A : Option Addr} {n : Nat} {l : List Bell.Fx} (h : TrAt w A n l) (hb : Below w.heap.size w w') : TrAt w' A n l :=
  ⟨h.1, fun h0 => by obtain ⟨b, off, e, hf⟩ := h.2 h0; exact ⟨b, off, e, hf.keep hb⟩⟩
theorem refWhen_as {b : Bool} {x a : Int} (w : World) (ha : a = if b then x else 0) :
    Calls Tryz.prog 105 #[.bool b, .int .i64 x] w fun e w' => e = .returned (.int .i64 a) ∧ w' = w :=
  (refWhen_any b x w).mono fun _ _ h => ⟨by rw [h.1, ha], h.2.symm⟩
end Go.Proofs.YtmafmebcgmegeaaGreatDoor

namespace Go.Proofs.YtmafmebcgmegeaaGreatDoor
open Go.RowKit Go.Sort
/-- Settings in memory, none perhaps. -/
def SetsO (w : World) (A : Option Addr) (n : Nat) (s : Bell.Sets) : Prop := s.length = n ∧ (0 < n → ∃ b off, A = some ⟨b, off, none⟩ ∧ SetsAt w b off n s)
theorem SetsO.keep {w w' : World} {A : Option Addr} {n : Nat} {s : Bell.Sets} (h : SetsO w A n s) (hb : Below w.heap.size w w') : SetsO w' A n s :=
  ⟨h.1, fun h0 => by obtain ⟨b, off, e, hf⟩ := h.2 h0; exact ⟨b, off, e, hf.keep hb⟩⟩
/-- A type of the reference in memory, valid or not. -/
structure RTy (w : World) (cs : Array Value) (nm : ByteArray) (sh : List Int) (T : Bell.Ty) (sa : Option Addr) (sn sc : Nat) (qa : Option Addr) (qn qc : Nat) (ga : Option Addr) (gn gc : Nat) : Prop where
  cells : cs = tyV nm sa sn sc T qa qn qc ga gn gc
  shares : IntsAt w sa sn sh
  squares : IntsAt w qa qn T.squares
  sets : SetsO w ga gn T.sets
theorem RTy.keep {w w' : World} {cs : Array Value} {nm : ByteArray} {sh : List Int} {T : Bell.Ty} {sa : Option Addr} {sn sc : Nat} {qa : Option Addr} {qn qc : Nat} {ga : Option Addr} {gn gc : Nat} (h : RTy w cs nm sh T sa sn sc qa qn qc ga gn gc) (hb : Below w.heap.size w w') : RTy w' cs nm sh T sa sn sc qa qn qc ga gn gc :=
  ⟨h.cells, h.shares.keep hb, h.squares.keep hb, h.sets.keep hb⟩
theorem RTy.c0 {w : World} {cs : Array Value} {nm : ByteArray} {sh : List Int} {T : Bell.Ty} {sa : Option Addr} {sn sc : Nat} {qa : Option Addr} {qn qc : Nat} {ga : Option Addr} {gn gc : Nat} (h : RTy w cs nm sh T sa sn sc qa qn qc ga gn gc) : cs[0]? = some (.string nm) := by rw [h.cells]; rfl
theorem RTy.c1 {w : World} {cs : Array Value} {nm : ByteArray} {sh : List Int} {T : Bell.Ty} {sa : Option Addr} {sn sc : Nat} {qa : Option Addr} {qn qc : Nat} {ga : Option Addr} {gn gc : Nat} (h : RTy w cs nm sh T sa sn sc qa qn qc ga gn gc) : cs[1]? = some (.slice sa sn sc) := by rw [h.cells]; rfl
theorem RTy.c10 {w : World} {cs : Array Value} {nm : ByteArray} {sh : List Int} {T : Bell.Ty} {sa : Option Addr} {sn sc : Nat} {qa : Option Addr} {qn qc : Nat} {ga : Option Addr} {gn gc : Nat} (h : RTy w cs nm sh T sa sn sc qa qn qc ga gn gc) : cs[10]? = some (.int .i64 T.side) := by rw [h.cells]; rfl
theorem RTy.c11 {w : World} {cs : Array Value} {nm : ByteArray} {sh : List Int} {T : Bell.Ty} {sa : Option Addr} {sn sc : Nat} {qa : Option Addr} {qn qc : Nat} {ga : Option Addr} {gn gc : Nat} (h : RTy w cs nm sh T sa sn sc qa qn qc ga gn gc) : cs[11]? = some (.slice qa qn qc) := by rw [h.cells]; rfl
theorem RTy.c12 {w : World} {cs : Array Value} {nm : ByteArray} {sh : List Int} {T : Bell.Ty} {sa : Option Addr} {sn sc : Nat} {qa : Option Addr} {qn qc : Nat} {ga : Option Addr} {gn gc : Nat} (h : RTy w cs nm sh T sa sn sc qa qn qc ga gn gc) : cs[12]? = some (.slice ga gn gc) := by rw [h.cells]; rfl
end Go.Proofs.YtmafmebcgmegeaaGreatDoor

namespace Go.Proofs.YtmafmebcgmegeaaGreatDoor
open Go.RowKit Go.Sort
/-- What comes behind a region, once for all its ends. -/
theorem via3 {A B : World → Nat → Prop} {C : World → Prop} {G : Prop} (M : World → Nat → Nat → Prop) (h : (∀ (w2 : World) (a b : Nat), A w2 a → B w2 b → C w2 → M w2 a b) → G) (k : ∀ (w2 : World) (a b : Nat), A w2 a → B w2 b → C w2 → M w2 a b) : G := h k
end Go.Proofs.YtmafmebcgmegeaaGreatDoor
