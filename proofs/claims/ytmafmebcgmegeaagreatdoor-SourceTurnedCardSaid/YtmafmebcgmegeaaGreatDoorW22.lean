/- Texts Q1 of the proof. -/
import Derived.Test.YtmafmebcgmegeaaGreatDoorW21
namespace Go.Proofs.YtmafmebcgmegeaaGreatDoor
open Go.RowKit Go.Sort
theorem srcSpeed_st (x : Int) (w : World) : Calls Tryz.prog 118 #[.int .i64 x] w fun e w' => e = .returned (.int .i64 (withinE x 1 1000)) ∧ w' = w := by
  go_enter Tryz.func118, Tryz.ntmps118
  go_wp2_with fail
  refine (within_any _ _ _ _).mono ?_
  rintro e w' ⟨rfl, rfl⟩
  go_wp2
  go_ret
  exact ⟨rfl, rfl⟩
theorem srcAlong_st (x : Int) (w : World) : Calls Tryz.prog 183 #[.int .i64 x] w fun e w' => e = .returned (.int .i64 (withinE x 0 400000)) ∧ w' = w := by
  go_enter Tryz.func183, Tryz.ntmps183
  go_wp2_with fail
  refine (within_any _ _ _ _).mono ?_
  rintro e w' ⟨rfl, rfl⟩
  go_wp2
  go_ret
  exact ⟨rfl, rfl⟩
theorem atMost_pt (A : Option Addr) (n c : Nat) (limit : Int) (w : World) :
    Calls Tryz.prog 214 #[.slice A n c, .int .i64 limit] w fun e w' => e = .returned (.int .i64 (atMostE n limit)) ∧ w' = w := by
  by_cases h : limit < (n : Int)
  · have hr : atMostE n limit = 5 := by simp [atMostE, h]
    rw [hr]; clear hr
    go_enter Tryz.func214, Tryz.ntmps214
    go_wp2
    go_ret
    exact ⟨rfl, rfl⟩
  · have hr : atMostE n limit = 0 := by simp [atMostE, h]
    rw [hr]; clear hr
    go_enter Tryz.func214, Tryz.ntmps214
    go_wp2
    go_ret
    exact ⟨rfl, rfl⟩
theorem atMost_step (A : Option Addr) (n c : Nat) (limit : Int) (w : World) :
    Calls Tryz.prog 182 #[.slice A n c, .int .i64 limit] w fun e w' => e = .returned (.int .i64 (atMostE n limit)) ∧ w' = w := by
  by_cases h : limit < (n : Int)
  · have hr : atMostE n limit = 5 := by simp [atMostE, h]
    rw [hr]; clear hr
    go_enter Tryz.func182, Tryz.ntmps182
    go_wp2
    go_ret
    exact ⟨rfl, rfl⟩
  · have hr : atMostE n limit = 0 := by simp [atMostE, h]
    rw [hr]; clear hr
    go_enter Tryz.func182, Tryz.ntmps182
    go_wp2
    go_ret
    exact ⟨rfl, rfl⟩
theorem atMost_flight (A : Option Addr) (n c : Nat) (limit : Int) (w : World) :
    Calls Tryz.prog 217 #[.slice A n c, .int .i64 limit] w fun e w' => e = .returned (.int .i64 (atMostE n limit)) ∧ w' = w := by
  by_cases h : limit < (n : Int)
  · have hr : atMostE n limit = 5 := by simp [atMostE, h]
    rw [hr]; clear hr
    go_enter Tryz.func217, Tryz.ntmps217
    go_wp2
    go_ret
    exact ⟨rfl, rfl⟩
  · have hr : atMostE n limit = 0 := by simp [atMostE, h]
    rw [hr]; clear hr
    go_enter Tryz.func217, Tryz.ntmps217
    go_wp2
    go_ret
    exact ⟨rfl, rfl⟩
theorem atMost_type (A : Option Addr) (n c : Nat) (limit : Int) (w : World) :
    Calls Tryz.prog 190 #[.slice A n c, .int .i64 limit] w fun e w' => e = .returned (.int .i64 (atMostE n limit)) ∧ w' = w := by
  by_cases h : limit < (n : Int)
  · have hr : atMostE n limit = 5 := by simp [atMostE, h]
    rw [hr]; clear hr
    go_enter Tryz.func190, Tryz.ntmps190
    go_wp2
    go_ret
    exact ⟨rfl, rfl⟩
  · have hr : atMostE n limit = 0 := by simp [atMostE, h]
    rw [hr]; clear hr
    go_enter Tryz.func190, Tryz.ntmps190
    go_wp2
    go_ret
    exact ⟨rfl, rfl⟩
theorem atMost_fixE (A : Option Addr) (n c : Nat) (limit : Int) (w : World) :
    Calls Tryz.prog 122 #[.slice A n c, .int .i64 limit] w fun e w' => e = .returned (.int .i64 (atMostE n limit)) ∧ w' = w := by
  by_cases h : limit < (n : Int)
  · have hr : atMostE n limit = 5 := by simp [atMostE, h]
    rw [hr]; clear hr
    go_enter Tryz.func122, Tryz.ntmps122
    go_wp2
    go_ret
    exact ⟨rfl, rfl⟩
  · have hr : atMostE n limit = 0 := by simp [atMostE, h]
    rw [hr]; clear hr
    go_enter Tryz.func122, Tryz.ntmps122
    go_wp2
    go_ret
    exact ⟨rfl, rfl⟩
/-- The error of a list that must have from 2 on. -/
def lengthE (n : Nat) (limit : Int) : Int := if n < 2 then 16 else atMostE n limit
theorem length_pt (A : Option Addr) (n c : Nat) (limit : Int) (w : World) :
    Calls Tryz.prog 178 #[.slice A n c, .int .i64 limit] w fun e w' => e = .returned (.int .i64 (lengthE n limit)) ∧ w' = w := by
  by_cases h : n < 2
  · have hr : lengthE n limit = 16 := by simp [lengthE, h]
    have h2 : (n : Int) < 2 := by omega
    rw [hr]; clear hr h
    go_enter Tryz.func178, Tryz.ntmps178
    go_wp2
    go_ret
    exact ⟨rfl, rfl⟩
  · have hr : lengthE n limit = atMostE n limit := by simp [lengthE, h]
    have h2 : ¬ (n : Int) < 2 := by omega
    rw [hr]; clear hr h
    go_enter Tryz.func178, Tryz.ntmps178
    go_wp2_with fail
    refine (atMost_pt A n c limit _).mono ?_
    rintro e w' ⟨rfl, rfl⟩
    go_wp2
    go_ret
    exact ⟨rfl, rfl⟩
theorem length_step (A : Option Addr) (n c : Nat) (limit : Int) (w : World) :
    Calls Tryz.prog 132 #[.slice A n c, .int .i64 limit] w fun e w' => e = .returned (.int .i64 (lengthE n limit)) ∧ w' = w := by
  by_cases h : n < 2
  · have hr : lengthE n limit = 16 := by simp [lengthE, h]
    have h2 : (n : Int) < 2 := by omega
    rw [hr]; clear hr h
    go_enter Tryz.func132, Tryz.ntmps132
    go_wp2
    go_ret
    exact ⟨rfl, rfl⟩
  · have hr : lengthE n limit = atMostE n limit := by simp [lengthE, h]
    have h2 : ¬ (n : Int) < 2 := by omega
    rw [hr]; clear hr h
    go_enter Tryz.func132, Tryz.ntmps132
    go_wp2_with fail
    refine (atMost_step A n c limit _).mono ?_
    rintro e w' ⟨rfl, rfl⟩
    go_wp2
    go_ret
    exact ⟨rfl, rfl⟩
theorem length_fix (A : Option Addr) (n c : Nat) (limit : Int) (w : World) :
    Calls Tryz.prog 125 #[.slice A n c, .int .i64 limit] w fun e w' => e = .returned (.int .i64 (lengthE n limit)) ∧ w' = w := by
  by_cases h : n < 2
  · have hr : lengthE n limit = 16 := by simp [lengthE, h]
    have h2 : (n : Int) < 2 := by omega
    rw [hr]; clear hr h
    go_enter Tryz.func125, Tryz.ntmps125
    go_wp2
    go_ret
    exact ⟨rfl, rfl⟩
  · have hr : lengthE n limit = atMostE n limit := by simp [lengthE, h]
    have h2 : ¬ (n : Int) < 2 := by omega
    rw [hr]; clear hr h
    go_enter Tryz.func125, Tryz.ntmps125
    go_wp2_with fail
    refine (atMost_fixE A n c limit _).mono ?_
    rintro e w' ⟨rfl, rfl⟩
    go_wp2
    go_ret
    exact ⟨rfl, rfl⟩
theorem that_any (b : Bool) (x : Int) (w : World) :
    Calls Tryz.prog 193 #[.bool b, .int .i64 x] w fun e w' => e = .returned (.int .i64 (if b then 0 else x)) ∧ w' = w := by
  cases b
  · simp only [Bool.false_eq_true, if_false]
    go_enter Tryz.func193, Tryz.ntmps193
    go_wp2
    go_ret
    exact ⟨rfl, rfl⟩
  · simp only [if_true]
    go_enter Tryz.func193, Tryz.ntmps193
    go_wp2
    go_ret
    exact ⟨rfl, rfl⟩
theorem isNaN_int (x : Int) (w : World) : Calls Tryz.prog 216 #[.int .i64 x] w fun e w' => e = .returned (.bool false) ∧ w' = w := by
  go_enter Tryz.func216, Tryz.ntmps216
  go_wp2
  go_ret
  exact ⟨rfl, rfl⟩
/-- The order of two numbers. -/
def cmpI (a b : Int) : Int := if a < b then -1 else if b < a then 1 else 0
theorem compare_int (a b : Int) (w : World) : Calls Tryz.prog 189 #[.int .i64 a, .int .i64 b] w fun e w' => e = .returned (.int .i64 (cmpI a b)) ∧ w' = w := by
  have HR : Hid (cmpI a b = if a < b then -1 else if b < a then 1 else 0) := rfl
  rcases Int.lt_trichotomy a b with h | h | h
  · have hr : cmpI a b = -1 := by unfold cmpI; rw [if_pos h]
    rw [hr]; clear hr HR
    go_enter Tryz.func189, Tryz.ntmps189
    go_wp2_with fail
    refine (isNaN_int a _).mono ?_
    rintro e w1 ⟨rfl, rfl⟩
    go_wp2_with fail
    refine (isNaN_int b _).mono ?_
    rintro e w2 ⟨rfl, rfl⟩
    go_wp2
    go_ret
    exact ⟨rfl, rfl⟩
  · subst h
    have hr : cmpI a a = 0 := by unfold cmpI; rw [if_neg (by omega), if_neg (by omega)]
    have h1 : ¬ a < a := by omega
    rw [hr]; clear hr HR
    go_enter Tryz.func189, Tryz.ntmps189
    go_wp2_with fail
    refine (isNaN_int a _).mono ?_
    rintro e w1 ⟨rfl, rfl⟩
    go_wp2_with fail
    refine (isNaN_int a _).mono ?_
    rintro e w2 ⟨rfl, rfl⟩
    go_wp2
    go_ret
    exact ⟨rfl, rfl⟩
  · have hr : cmpI a b = 1 := by unfold cmpI; rw [if_neg (by omega), if_pos h]
    have h1 : ¬ a < b := by omega
    rw [hr]; clear hr HR
    go_enter Tryz.func189, Tryz.ntmps189
    go_wp2_with fail
    refine (isNaN_int a _).mono ?_
    rintro e w1 ⟨rfl, rfl⟩
    go_wp2_with fail
    refine (isNaN_int b _).mono ?_
    rintro e w2 ⟨rfl, rfl⟩
    go_wp2
    go_ret
    exact ⟨rfl, rfl⟩
theorem kind_any (n : Nat) (w : World) : Calls Tryz.prog 148 #[.int .i64 n] w fun e w' => e = .returned (.int .i64 (min n 4 : Nat)) ∧ w' = w := by
  rcases Nat.lt_or_ge 4 n with h | h
  · have hr : (min n 4 : Nat) = 4 := by omega
    have h1 : min (n : Int) 4 = 4 := by omega
    rw [hr]; clear hr
    go_enter Tryz.func148, Tryz.ntmps148
    go_wp2
    go_ret
    exact ⟨ret_int (by omega), rfl⟩
  · have hr : (min n 4 : Nat) = n := by omega
    have h1 : min (n : Int) 4 = n := by omega
    rw [hr]; clear hr
    go_enter Tryz.func148, Tryz.ntmps148
    go_wp2
    go_ret
    exact ⟨ret_int (by omega), rfl⟩
theorem clip_fix (b off n c : Nat) (w : World) (h : n ≤ c) (hc : c ≤ 9223372036854775807) : Calls Tryz.prog 120 #[.slice (some ⟨b, off, none⟩) n c] w fun e w' => e = .returned (.slice (some ⟨b, off, none⟩) n n) ∧ w' = w := by
  have h1 : (0 : Int) ≤ (n : Int) := by omega
  have h2 : (n : Int) ≤ (c : Int) := by omega
  go_enter Tryz.func120, Tryz.ntmps120
  go_wp2
  go_ret
  exact ⟨rfl, rfl⟩
/-- The error of a step of a procedure. -/
def stepE (s : Bell.Sp) : Int := firstE [withinE s.d 0 400000, withinE s.h 0 20000, withinE s.p 1 100]
def spV (s : Bell.Sp) : Array Value := #[.int .i64 s.d, .int .i64 s.h, .int .i64 s.p]
set_option maxHeartbeats 2000000 in
set_option maxRecDepth 100000 in
theorem stepCheck_any (s : Bell.Sp) (w : World) :
    Calls Tryz.prog 133 #[.agg (spV s)] w fun e w' => e = .returned (.int .i64 (stepE s)) ∧ Below w.heap.size w w' := by
  unfold spV
  go_enter Tryz.func133, Tryz.ntmps133
  go_wp2_with fail
  have HB : Hid (Below w.heap.size w w) := Below.refl _ _
  obtain ⟨w0, hw0⟩ : ∃ W, W = (w.alloc (.cells #[.int .i64 s.d, .int .i64 s.h, .int .i64 s.p] 166)) := ⟨_, rfl⟩
  rw [← hw0]
  have B : Hid (Blk w0 (w.heap.size) 166 #[.int .i64 s.d, .int .i64 s.h, .int .i64 s.p]) := by show Blk _ _ _ _; rw [hw0]; exact Blk.new _ _ _
  have hb0 : Below w.heap.size w w0 := by rw [hw0]; exact ((Below.refl _ _).alloc (Nat.le_refl _) _)
  obtain ⟨g, hg⟩ : ∃ g, g = w.heap.size := ⟨_, rfl⟩
  have HGw0 : Hid (g = w.heap.size) := hg
  rw [← hg] at B
  try rw [← hg]
  clear hw0 hg
  replace HB := Lib.hid (HB.out.trans (hb0.mono HB.out.size))
  clear hb0
  have a0 := fun d os => cell_regrown (B.out.cell 0) d os
  have a1 := fun d os => cell_regrown (B.out.cell 1) d os
  have a2 := fun d os => cell_regrown (B.out.cell 2) d os
  have c0 := fun nd ns => Calls.regrown_of (Calls.grow_same (srcAlong_st s.d (grow (redrawn w0 nd) ns)))
  have c1 := fun nd ns => Calls.regrown_of (Calls.grow_same (srcHeight_st s.h (grow (redrawn w0 nd) ns)))
  have c2 := fun nd ns => Calls.regrown_of (Calls.grow_same (srcPower_st s.p (grow (redrawn w0 nd) ns)))
  refine wp_region_below_tail 9 (by kernel_rfl) (by kernel_rfl) ?_
  simp only [List.take_succ_cons, List.take_zero, List.drop_succ_cons, List.drop_zero]
  iterate 2 (quiet_step (fail))
  quiet_step (exact c0 _ _)
  iterate 2 (quiet_step (fail))
  quiet_step (exact c1 _ _)
  iterate 2 (quiet_step (fail))
  quiet_step (exact c2 _ _)
  refine wpQuiet_nil ?_
  intro w1 hq1
  obtain ⟨⟨dq, osq⟩, hq2⟩ := hq1
  have hb1 := below_regrown w0 dq osq
  rw [← hq2] at hb1
  clear hq2
  replace HB := Lib.hid (HB.out.trans (hb1.mono HB.out.size))
  clear hb1
  clear a0 a1 a2 c0 c1 c2 B
  go_wp2_with fail
  refine (first3 _ _ (withinE s.d 0 400000) (withinE s.h 0 20000) (withinE s.p 1 100) _ (by go_simp) (by go_simp) (by go_simp)).mono ?_
  rintro e w2 ⟨rfl, rfl⟩
  go_wp2
  go_ret
  exact ⟨rfl, HB.out.alloc HB.out.size _⟩
end Go.Proofs.YtmafmebcgmegeaaGreatDoor
