/- Texts Q1 Io of the proof. -/
import Derived.Test.YtmafmebcgmegeaaGreatDoorZ17
namespace Go.Proofs.YtmafmebcgmegeaaGreatDoor
open Go.RowKit Go.Sort
theorem srcSpeed_st (x : Int) (w : World) : Calls Tryz.prog 118 #[.int .i64 x] w fun e w' => e = .returned (.int .i64 (withinE x 1 1000)) ∧ w' = w := by
  go_enter Tryz.func118, Tryz.ntmps118
  go_wp2_with fail
  refine (within_any _ _ _ _).mono ?_
  rintro e w' ⟨rfl, rfl⟩
  go_wp2
  go_ret
  exact ⟨rfl, rfl⟩
theorem srcAlong_st (x : Int) (w : World) : Calls Tryz.prog 183 #[.int .i64 x] w fun e w' => e = .returned (.int .i64 (withinE x 0 400000)) ∧ w' = w := by
  go_enter Tryz.func183, Tryz.ntmps183
  go_wp2_with fail
  refine (within_any _ _ _ _).mono ?_
  rintro e w' ⟨rfl, rfl⟩
  go_wp2
  go_ret
  exact ⟨rfl, rfl⟩
theorem atMost_pt (A : Option Addr) (n c : Nat) (limit : Int) (w : World) :
    Calls Tryz.prog 214 #[.slice A n c, .int .i64 limit] w fun e w' => e = .returned (.int .i64 (atMostE n limit)) ∧ w' = w := by
  by_cases h : limit < (n : Int)
  · have hr : atMostE n limit = 5 := by simp [atMostE, h]
    rw [hr]; clear hr
    go_enter Tryz.func214, Tryz.ntmps214
    go_wp2
    go_ret
    exact ⟨rfl, rfl⟩
  · have hr : atMostE n limit = 0 := by simp [atMostE, h]
    rw [hr]; clear hr
    go_enter Tryz.func214, Tryz.ntmps214
    go_wp2
    go_ret
    exact ⟨rfl, rfl⟩
theorem atMost_step (A : Option Addr) (n c : Nat) (limit : Int) (w : World) :
    Calls Tryz.prog 182 #[.slice A n c, .int .i64 limit] w fun e w' => e = .returned (.int .i64 (atMostE n limit)) ∧ w' = w := by
  by_cases h : limit < (n : Int)
  · have hr : atMostE n limit = 5 := by simp [atMostE, h]
    rw [hr]; clear hr
    go_enter Tryz.func182, Tryz.ntmps182
    go_wp2
    go_ret
    exact ⟨rfl, rfl⟩
  · have hr : atMostE n limit = 0 := by simp [atMostE, h]
    rw [hr]; clear hr
    go_enter Tryz.func182, Tryz.ntmps182
    go_wp2
    go_ret
    exact ⟨rfl, rfl⟩
theorem atMost_flight (A : Option Addr) (n c : Nat) (limit : Int) (w : World) :
    Calls Tryz.prog 217 #[.slice A n c, .int .i64 limit] w fun e w' => e = .returned (.int .i64 (atMostE n limit)) ∧ w' = w := by
  by_cases h : limit < (n : Int)
  · have hr : atMostE n limit = 5 := by simp [atMostE, h]
    rw [hr]; clear hr
    go_enter Tryz.func217, Tryz.ntmps217
    go_wp2
    go_ret
    exact ⟨rfl, rfl⟩
  · have hr : atMostE n limit = 0 := by simp [atMostE, h]
    rw [hr]; clear hr
    go_enter Tryz.func217, Tryz.ntmps217
    go_wp2
    go_ret
    exact ⟨rfl, rfl⟩
theorem atMost_type (A : Option Addr) (n c : Nat) (limit : Int) (w : World) :
    Calls Tryz.prog 190 #[.slice A n c, .int .i64 limit] w fun e w' => e = .returned (.int .i64 (atMostE n limit)) ∧ w' = w := by
  by_cases h : limit < (n : Int)
  · have hr : atMostE n limit = 5 := by simp [atMostE, h]
    rw [hr]; clear hr
    go_enter Tryz.func190, Tryz.ntmps190
    go_wp2
    go_ret
    exact ⟨rfl, rfl⟩
  · have hr : atMostE n limit = 0 := by simp [atMostE, h]
    rw [hr]; clear hr
    go_enter Tryz.func190, Tryz.ntmps190
    go_wp2
    go_ret
    exact ⟨rfl, rfl⟩
theorem atMost_fixE (A : Option Addr) (n c : Nat) (limit : Int) (w : World) :
    Calls Tryz.prog 122 #[.slice A n c, .int .i64 limit] w fun e w' => e = .returned (.int .i64 (atMostE n limit)) ∧ w' = w := by
  by_cases h : limit < (n : Int)
  · have hr : atMostE n limit = 5 := by simp [atMostE, h]
    rw [hr]; clear hr
    go_enter Tryz.func122, Tryz.ntmps122
    go_wp2
    go_ret
    exact ⟨rfl, rfl⟩
  · have hr : atMostE n limit = 0 := by simp [atMostE, h]
    rw [hr]; clear hr
    go_enter Tryz.func122, Tryz.ntmps122
    go_wp2
    go_ret
    exact ⟨rfl, rfl⟩
/-- The error of a list that must have from 2 on. -/
def lengthE (n : Nat) (limit : Int) : Int := if n < 2 then 16 else atMostE n limit
theorem length_pt (A : Option Addr) (n c : Nat) (limit : Int) (w : World) :
    Calls Tryz.prog 178 #[.slice A n c, .int .i64 limit] w fun e w' => e = .returned (.int .i64 (lengthE n limit)) ∧ w' = w := by
  by_cases h : n < 2
  · have hr : lengthE n limit = 16 := by simp [lengthE, h]
    have h2 : (n : Int) < 2 := by omega
    rw [hr]; clear hr h
    go_enter Tryz.func178, Tryz.ntmps178
    go_wp2
    go_ret
    exact ⟨rfl, rfl⟩
  · have hr : lengthE n limit = atMostE n limit := by simp [lengthE, h]
    have h2 : ¬ (n : Int) < 2 := by omega
    rw [hr]; clear hr h
    go_enter Tryz.func178, Tryz.ntmps178
    go_wp2_with fail
    refine (atMost_pt A n c limit _).mono ?_
    rintro e w' ⟨rfl, rfl⟩
    go_wp2
    go_ret
    exact ⟨rfl, rfl⟩
theorem length_step (A : Option Addr) (n c : Nat) (limit : Int) (w : World) :
    Calls Tryz.prog 132 #[.slice A n c, .int .i64 limit] w fun e w' => e = .returned (.int .i64 (lengthE n limit)) ∧ w' = w := by
  by_cases h : n < 2
  · have hr : lengthE n limit = 16 := by simp [lengthE, h]
    have h2 : (n : Int) < 2 := by omega
    rw [hr]; clear hr h
    go_enter Tryz.func132, Tryz.ntmps132
    go_wp2
    go_ret
    exact ⟨rfl, rfl⟩
  · have hr : lengthE n limit = atMostE n limit := by simp [lengthE, h]
    have h2 : ¬ (n : Int) < 2 := by omega
    rw [hr]; clear hr h
    go_enter Tryz.func132, Tryz.ntmps132
    go_wp2_with fail
    refine (atMost_step A n c limit _).mono ?_
    rintro e w' ⟨rfl, rfl⟩
    go_wp2
    go_ret
    exact ⟨rfl, rfl⟩
theorem length_fix (A : Option Addr) (n c : Nat) (limit : Int) (w : World) :
    Calls Tryz.prog 125 #[.slice A n c, .int .i64 limit] w fun e w' => e = .returned (.int .i64 (lengthE n limit)) ∧ w' = w := by
  by_cases h : n < 2
  · have hr : lengthE n limit = 16 := by simp [lengthE, h]
    have h2 : (n : Int) < 2 := by omega
    rw [hr]; clear hr h
    go_enter Tryz.func125, Tryz.ntmps125
    go_wp2
    go_ret
    exact ⟨rfl, rfl⟩
  · have hr : lengthE n limit = atMostE n limit := by simp [lengthE, h]
    have h2 : ¬ (n : Int) < 2 := by omega
    rw [hr]; clear hr h
    go_enter Tryz.func125, Tryz.ntmps125
    go_wp2_with fail
    refine (atMost_fixE A n c limit _).mono ?_
    rintro e w' ⟨rfl, rfl⟩
    go_wp2
    go_ret
    exact ⟨rfl, rfl⟩
theorem that_any (b : Bool) (x : Int) (w : World) :
    Calls Tryz.prog 193 #[.bool b, .int .i64 x] w fun e w' => e = .returned (.int .i64 (if b then 0 else x)) ∧ w' = w := by
  cases b
  · simp only [Bool.false_eq_true, if_false]
    go_enter Tryz.func193, Tryz.ntmps193
    go_wp2
    go_ret
    exact ⟨rfl, rfl⟩
  · simp only [if_true]
    go_enter Tryz.func193, Tryz.ntmps193
    go_wp2
    go_ret
    exact ⟨rfl, rfl⟩
theorem isNaN_int (x : Int) (w : World) : Calls Tryz.prog 216 #[.int .i64 x] w fun e w' => e = .returned (.bool false) ∧ w' = w := by
  go_enter Tryz.func216, Tryz.ntmps216
  go_wp2
  go_ret
  exact ⟨rfl, rfl⟩
/-- The order of two numbers. -/
def cmpI (a b : Int) : Int := if a < b then -1 else if b < a then 1 else 0
theorem compare_int (a b : Int) (w : World) : Calls Tryz.prog 189 #[.int .i64 a, .int .i64 b] w fun e w' => e = .returned (.int .i64 (cmpI a b)) ∧ w' = w := by
  have HR : Hid (cmpI a b = if a < b then -1 else if b < a then 1 else 0) := rfl
  rcases Int.lt_trichotomy a b with h | h | h
  · have hr : cmpI a b = -1 := by unfold cmpI; rw [if_pos h]
    rw [hr]; clear hr HR
    go_enter Tryz.func189, Tryz.ntmps189
    go_wp2_with fail
    refine (isNaN_int a _).mono ?_
    rintro e w1 ⟨rfl, rfl⟩
    go_wp2_with fail
    refine (isNaN_int b _).mono ?_
    rintro e w2 ⟨rfl, rfl⟩
    go_wp2
    go_ret
    exact ⟨rfl, rfl⟩
  · subst h
    have hr : cmpI a a = 0 := by unfold cmpI; rw [if_neg (by omega), if_neg (by omega)]
    have h1 : ¬ a < a := by omega
    rw [hr]; clear hr HR
    go_enter Tryz.func189, Tryz.ntmps189
    go_wp2_with fail
    refine (isNaN_int a _).mono ?_
    rintro e w1 ⟨rfl, rfl⟩
    go_wp2_with fail
    refine (isNaN_int a _).mono ?_
    rintro e w2 ⟨rfl, rfl⟩
    go_wp2
    go_ret
    exact ⟨rfl, rfl⟩
  · have hr : cmpI a b = 1 := by unfold cmpI; rw [if_neg (by omega), if_pos h]
    have h1 : ¬ a < b := by omega
    rw [hr]; clear hr HR
    go_enter Tryz.func189, Tryz.ntmps189
    go_wp2_with fail
    refine (isNaN_int a _).mono ?_
    rintro e w1 ⟨rfl, rfl⟩
    go_wp2_with fail
    refine (isNaN_int b _).mono ?_
    rintro e w2 ⟨rfl, rfl⟩
    go_wp2
    go_ret
    exact ⟨rfl, rfl⟩
theorem kind_any (n : Nat) (w : World) : Calls Tryz.prog 148 #[.int .i64 n] w fun e w' => e = .returned (.int .i64 (min n 4 : Nat)) ∧ w' = w := by
  rcases Nat.lt_or_ge 4 n with h | h
  · have hr : (min n 4 : Nat) = 4 := by omega
    have h1 : min (n : Int) 4 = 4 := by omega
    rw [hr]; clear hr
    go_enter Tryz.func148, Tryz.ntmps148
    go_wp2
    go_ret
    exact ⟨ret_int (by omega), rfl⟩
  · have hr : (min n 4 : Nat) = n := by omega
    have h1 : min (n : Int) 4 = n := by omega
    rw [hr]; clear hr
    go_enter Tryz.func148, Tryz.ntmps148
    go_wp2
    go_ret
    exact ⟨ret_int (by omega), rfl⟩
theorem clip_fix (b off n c : Nat) (w : World) (h : n ≤ c) (hc : c ≤ 9223372036854775807) : Calls Tryz.prog 120 #[.slice (some ⟨b, off, none⟩) n c] w fun e w' => e = .returned (.slice (some ⟨b, off, none⟩) n n) ∧ w' = w := by
  have h1 : (0 : Int) ≤ (n : Int) := by omega
  have h2 : (n : Int) ≤ (c : Int) := by omega
  go_enter Tryz.func120, Tryz.ntmps120
  go_wp2
  go_ret
  exact ⟨rfl, rfl⟩
/-- The error of a step of a procedure. -/
def stepE (s : Bell.Sp) : Int := firstE [withinE s.d 0 400000, withinE s.h 0 20000, withinE s.p 1 100]
def spV (s : Bell.Sp) : Array Value := #[.int .i64 s.d, .int .i64 s.h, .int .i64 s.p]
set_option maxHeartbeats 2000000 in
set_option maxRecDepth 100000 in
theorem stepCheck_any (s : Bell.Sp) (w : World) :
    Calls Tryz.prog 133 #[.agg (spV s)] w fun e w' => e = .returned (.int .i64 (stepE s)) ∧ Below w.heap.size w w' := by
  unfold spV
  go_enter Tryz.func133, Tryz.ntmps133
  go_wp2_with fail
  have HB : Hid (Below w.heap.size w w) := Below.refl _ _
  obtain ⟨w0, hw0⟩ : ∃ W, W = (w.alloc (.cells #[.int .i64 s.d, .int .i64 s.h, .int .i64 s.p] 166)) := ⟨_, rfl⟩
  rw [← hw0]
  have B : Hid (Blk w0 (w.heap.size) 166 #[.int .i64 s.d, .int .i64 s.h, .int .i64 s.p]) := by show Blk _ _ _ _; rw [hw0]; exact Blk.new _ _ _
  have hb0 : Below w.heap.size w w0 := by rw [hw0]; exact ((Below.refl _ _).alloc (Nat.le_refl _) _)
  obtain ⟨g, hg⟩ : ∃ g, g = w.heap.size := ⟨_, rfl⟩
  have HGw0 : Hid (g = w.heap.size) := hg
  rw [← hg] at B
  try rw [← hg]
  clear hw0 hg
  replace HB := Lib.hid (HB.out.trans (hb0.mono HB.out.size))
  clear hb0
  have a0 := fun d os => cell_regrown (B.out.cell 0) d os
  have a1 := fun d os => cell_regrown (B.out.cell 1) d os
  have a2 := fun d os => cell_regrown (B.out.cell 2) d os
  have c0 := fun nd ns => Calls.regrown_of (Calls.grow_same (srcAlong_st s.d (grow (redrawn w0 nd) ns)))
  have c1 := fun nd ns => Calls.regrown_of (Calls.grow_same (srcHeight_st s.h (grow (redrawn w0 nd) ns)))
  have c2 := fun nd ns => Calls.regrown_of (Calls.grow_same (srcPower_st s.p (grow (redrawn w0 nd) ns)))
  refine wp_region_below_tail 9 (by kernel_rfl) (by kernel_rfl) ?_
  simp only [List.take_succ_cons, List.take_zero, List.drop_succ_cons, List.drop_zero]
  iterate 2 (quiet_step (fail))
  quiet_step (exact c0 _ _)
  iterate 2 (quiet_step (fail))
  quiet_step (exact c1 _ _)
  iterate 2 (quiet_step (fail))
  quiet_step (exact c2 _ _)
  refine wpQuiet_nil ?_
  intro w1 hq1
  obtain ⟨⟨dq, osq⟩, hq2⟩ := hq1
  have hb1 := below_regrown w0 dq osq
  rw [← hq2] at hb1
  clear hq2
  replace HB := Lib.hid (HB.out.trans (hb1.mono HB.out.size))
  clear hb1
  clear a0 a1 a2 c0 c1 c2 B
  go_wp2_with fail
  refine (first3 _ _ (withinE s.d 0 400000) (withinE s.h 0 20000) (withinE s.p 1 100) _ (by go_simp) (by go_simp) (by go_simp)).mono ?_
  rintro e w2 ⟨rfl, rfl⟩
  go_wp2
  go_ret
  exact ⟨rfl, HB.out.alloc HB.out.size _⟩
end Go.Proofs.YtmafmebcgmegeaaGreatDoor

namespace Go.Proofs.YtmafmebcgmegeaaGreatDoor
open Go.RowKit Go.Sort
/-- What the reference's When answers, by a letter. -/
theorem refWhen_let (b : Bool) (x : Int) (w : World) :
    Calls Tryz.prog 105 #[.bool b, .int .i64 x] w fun e w' => ∃ a : Int, e = .returned (.int .i64 a) ∧ Hid (a = if b then x else 0) ∧ w' = w :=
  (refWhen_any b x w).mono fun _ _ h => ⟨_, h.1, rfl, h.2.symm⟩
theorem when_off {b : Bool} {x a : Int} (hx : x ≠ 0) (h : a = if b then x else 0) (h0 : a = 0) : b = false := by
  cases b
  · rfl
  · exact absurd (h.symm.trans h0) (by simpa using hx)
theorem firstE3_zero {a b c : Int} (h : firstE [a, b, c] = 0) : a = 0 ∧ b = 0 ∧ c = 0 := by
  by_cases h1 : a = 0 <;> by_cases h2 : b = 0 <;> by_cases h3 : c = 0 <;> simp_all [firstE]
theorem firstE4_zero {a b c d : Int} (h : firstE [a, b, c, d] = 0) : a = 0 ∧ b = 0 ∧ c = 0 ∧ d = 0 := by
  by_cases h1 : a = 0 <;> by_cases h2 : b = 0 <;> by_cases h3 : c = 0 <;> by_cases h4 : d = 0 <;> simp_all [firstE]
theorem refTick_st (x : Int) (w : World) : Calls Tryz.prog 52 #[.int .i64 x] w fun e w' => e = .returned (.int .i64 (withinE x 0 100000000)) ∧ w' = w := by
  go_enter Tryz.func52, Tryz.ntmps52
  go_wp2_with fail
  refine (refCheckRange_st _ _ _ _).mono ?_
  rintro e w' ⟨rfl, rfl⟩
  go_wp2
  go_ret
  exact ⟨rfl, rfl⟩
theorem refPower_st (x : Int) (w : World) : Calls Tryz.prog 22 #[.int .i64 x] w fun e w' => e = .returned (.int .i64 (withinE x 1 100)) ∧ w' = w := by
  go_enter Tryz.func22, Tryz.ntmps22
  go_wp2_with fail
  refine (refCheckRange_st _ _ _ _).mono ?_
  rintro e w' ⟨rfl, rfl⟩
  go_wp2
  go_ret
  exact ⟨rfl, rfl⟩
set_option maxHeartbeats 400000 in
set_option maxRecDepth 100000 in
theorem refPlace_any (x y z : Int) (w : World) :
    Calls Tryz.prog 26 #[.agg #[.int .i64 x, .int .i64 y, .int .i64 z]] w fun e w' => e = .returned (.int .i64 (placeE x y z)) ∧ Below w.heap.size w w' := by
  go_enter Tryz.func26, Tryz.ntmps26
  go_wp2_with fail
  refine wp_region_still_tail 9 (by kernel_rfl) (by kernel_rfl) ?_
  simp only [List.take_succ_cons, List.take_zero, List.drop_succ_cons, List.drop_zero]
  change wpStill _ _ (World.drew _) _ _ _
  repeat still_step
  still_call (refCheckRange_st _ _ _ _)
  repeat still_step
  still_call (refCheckRange_st _ _ _ _)
  repeat still_step
  still_call (refCheckRange_st _ _ _ _)
  repeat still_step
  refine wpStill_nil ?_
  change wpList _ _ _ _ _ (World.drew _)
  go_wp2_with fail
  refine (refFirst3 _ _ (withinE x (-100000) 100000) (withinE y (-100000) 100000) (withinE z 0 20000) _ (by go_simp) (by go_simp) (by go_simp)).mono ?_
  rintro e w1 ⟨rfl, rfl⟩
  go_wp2
  go_ret
  exact ⟨rfl, (((Below.refl _ _).alloc (Nat.le_refl _) _).drew).alloc (by simp) _⟩
theorem refName_any (s : ByteArray) (w : World) (hs : s.size ≤ 140737488351232) :
    Calls Tryz.prog 100 #[.string s] w fun e w' => ∃ a : Int, e = .returned (.int .i64 a) ∧ Hid (a = 0 → nameB s = true) ∧ w' = w := by
  have HN := Lib.hid (fun W => refIsName_any s W hs)
  cases hv : nameB s
  · rw [hv] at HN
    clear hv
    go_enter Tryz.func100, Tryz.ntmps100
    go_wp2_with fail
    refine (HN.out w).mono ?_
    rintro e w' ⟨rfl, rfl⟩
    go_wp2_with fail
    refine (refWhen_let _ _ _).mono ?_
    rintro e w' ⟨a, rfl, ha, rfl⟩
    go_wp2
    go_ret
    exact ⟨a, rfl, (fun h => by have := ha.out; simp at this; omega), rfl⟩
  · rw [hv] at HN
    clear hv
    go_enter Tryz.func100, Tryz.ntmps100
    go_wp2_with fail
    refine (HN.out w).mono ?_
    rintro e w' ⟨rfl, rfl⟩
    go_wp2_with fail
    refine (refWhen_let _ _ _).mono ?_
    rintro e w' ⟨a, rfl, ha, rfl⟩
    go_wp2
    go_ret
    exact ⟨a, rfl, (fun _ => by simp), rfl⟩
set_option maxHeartbeats 400000 in
set_option maxRecDepth 100000 in
theorem refRanges_any (A : Option Addr) (n c : Nat) (zs : List Int) (lo hi : Int) (w : World) (hn : n ≤ 140737488351232) (hz : IntsAt w A n zs) :
    Calls Tryz.prog 102 #[.slice A n c, .int .i64 lo, .int .i64 hi] w fun e w' => e = .returned (.int .i64 (firstInE (fun x => withinE x lo hi) zs)) ∧ w' = w := by
  obtain ⟨hl, hc⟩ := hz
  have HL := Lib.hid hl
  have HC := Lib.hid hc
  clear hl hc
  go_enter Tryz.func102, Tryz.ntmps102
  go_wp2
  go_loop [7, 8] (fun i _ => ∃ k : Nat, k ≤ n ∧ i = .int .i64 k ∧ Hid (∀ i, i < k → withinE (zs.getD i 0) lo hi = 0)) (fun i _ => n - (intOf i).toNat)
  case atStart => exact ⟨0, Nat.zero_le _, rfl, fun i hi => by omega⟩
  case round =>
    obtain ⟨k, hk, rfl, hz⟩ := hrel
    by_cases hlt : k < n
    · obtain ⟨b, off, rfl, hcc⟩ := HC.out (by omega)
      obtain ⟨x, hx⟩ : ∃ x, x = zs.getD k 0 := ⟨_, rfl⟩
      have h0 := hcc k hlt
      clear hcc
      rw [← hx] at h0
      have HX := Lib.hid hx
      clear hx
      go_wp2_with fail
      refine (refCheckRange_st x lo hi _).mono ?_
      rintro e w' ⟨rfl, rfl⟩
      obtain ⟨y, hy⟩ : ∃ y, y = withinE x lo hi := ⟨_, rfl⟩
      rw [← hy]
      have HY := Lib.hid hy
      clear hy
      by_cases he : y = 0
      · have h1 : (y != 0) = false := by simp [he]
        have HE := Lib.hid he
        clear he
        go_wp2
        go_round
        case rel =>
          refine ⟨k + 1, by omega, by go_num, fun i hi => ?_⟩
          by_cases hik : i < k
          · exact hz.out i hik
          · obtain rfl : i = k := by omega
            rw [← HX.out, ← HY.out]; exact HE.out
        case measure => simp [intOf]; omega
      · have h1 : (y != 0) = true := by simp [he]
        have HE := Lib.hid he
        clear he
        go_wp2
        go_ret
        exact ⟨ret_int (by rw [firstInE_hit (fun x => withinE x lo hi) zs k (by rw [HL.out]; exact hlt) hz.out (by rw [← HX.out, ← HY.out]; exact HE.out), ← HX.out]; exact HY.out), rfl⟩
    · go_wp2
      go_ret
      exact ⟨ret_int (firstInE_miss (fun x => withinE x lo hi) zs (fun i hi => hz.out i (by rw [HL.out] at hi; omega))).symm, rfl⟩
theorem firstIn_rng {lo hi : Int} {zs : List Int} (h : firstInE (fun x => withinE x lo hi) zs = 0) : ∀ x, x ∈ zs → lo ≤ x ∧ x ≤ hi := fun x hx => by
  obtain ⟨i, hi', rfl⟩ := List.getElem_of_mem hx
  have := firstInE_zero h i hi'
  rw [List.getD_eq_getElem?_getD, List.getElem?_eq_getElem hi', Option.getD_some] at this
  exact withinE_zero this
set_option maxHeartbeats 1000000 in
set_option maxRecDepth 100000 in
theorem refShares_any (A : Option Addr) (n c : Nat) (l : List Int) (w : World) (hl : IntsAt w A n l) (hn9 : n ≤ 9) :
    Calls Tryz.prog 101 #[.slice A n c] w fun e w' => ∃ E : Int, e = .returned (.int .i64 E) ∧ Hid (E = 0 → GoodSh l) ∧ Below w.heap.size w w' := by
  have HL := Lib.hid hl
  have HN := Lib.hid hl.1
  clear hl
  obtain ⟨R, hR⟩ : ∃ R, R = firstInE (fun x => withinE x 0 1000) l := ⟨_, rfl⟩
  have HR := Lib.hid hR
  clear hR
  go_enter Tryz.func101, Tryz.ntmps101
  go_wp2_with fail
  refine (refWhen_let _ _ _).mono ?_
  rintro e w1 ⟨a, rfl, ha, rfl⟩
  go_wp2_with fail
  refine (refWhen_let _ _ _).mono ?_
  rintro e w2 ⟨b, rfl, hb, rfl⟩
  go_wp2_with fail
  refine (refRanges_any A n c l 0 1000 w2 (by omega) HL.out).mono ?_
  rw [← HR.out]
  rintro e w3 ⟨rfl, rfl⟩
  go_wp2_with fail
  refine (refFirst3 _ _ a b R _ (by go_simp) (by go_simp) (by go_simp)).mono ?_
  obtain ⟨E, hE⟩ : ∃ E, E = firstE [a, b, R] := ⟨_, rfl⟩
  rw [← hE]
  have HE := Lib.hid hE
  clear hE
  rintro e w4 ⟨rfl, rfl⟩
  obtain ⟨w5, hw5⟩ : ∃ W, W = w3.alloc (.cells #[.int .i64 a, .int .i64 b, .int .i64 R] 3) := ⟨_, rfl⟩
  rw [← hw5]
  have hbl : Below w3.heap.size w3 w5 := by rw [hw5]; exact (Below.refl _ _).alloc (Nat.le_refl _) _
  have H5 := Lib.hid (HL.out.keep hbl)
  have HB := Lib.hid hbl
  clear hw5 hbl
  by_cases he : E = 0
  · have h1 : (E != 0) = false := by simp [he]
    obtain ⟨z1, z2, z3⟩ := firstE3_zero (HE.out.symm.trans he)
    have y1 := when_off (by omega) ha.out z1
    have y2 := when_off (by omega) hb.out z2
    have n0 : 0 < n := by
      have : ¬ (n : Int) = 0 := by simpa using y1
      omega
    have n8 : n ≤ 8 := by have := of_decide_eq_false y2; omega
    have HG := Lib.hid (firstIn_rng (HR.out.symm.trans z3))
    obtain ⟨bb, off, rfl, hc⟩ := H5.out.2 n0
    have HC := Lib.hid hc
    clear hc he z1 z2 z3 y1 y2 ha hb HE HR HL
    go_wp2
    go_loop [4, 5] (fun s k => ∃ j : Nat, j ≤ n ∧ k = .int .i64 j ∧ s = .int .i64 (sumL (l.take j))) (fun _ k => n - (intOf k).toNat)
    case atStart => exact ⟨0, Nat.zero_le _, rfl, rfl⟩
    case round =>
      obtain ⟨j, hj, rfl, rfl⟩ := hrel
      have hv : ∀ i, i < l.length → 0 ≤ l.getD i 0 ∧ l.getD i 0 ≤ 100000000000000 := fun i hi => by have := HG.out _ (Bell.getD_mem hi); omega
      by_cases hlt : j < n
      · have h0 := HC.out j hlt
        have b1 := sumL_bd l hv j (by rw [HN.out]; omega)
        have HS := Lib.hid (sumL_succ l j (by rw [HN.out]; exact hlt))
        have b4 := hv j (by rw [HN.out]; exact hlt)
        obtain ⟨x, hx⟩ : ∃ x, x = l.getD j 0 := ⟨_, rfl⟩
        obtain ⟨s, hs⟩ : ∃ s, s = sumL (l.take j) := ⟨_, rfl⟩
        rw [← hx] at h0 b4 HS
        rw [← hs] at b1 HS ⊢
        obtain ⟨b1, b2⟩ := b1
        have b5 : s ≤ 1000000000000000 := by omega
        clear hx hs hv b2
        go_wp2
        go_round
        case rel => exact ⟨j + 1, by omega, by go_num, by rw [HS.out]⟩
        case measure => simp [intOf]; omega
      · obtain ⟨s, hs⟩ : ∃ s, s = sumL (l.take j) := ⟨_, rfl⟩
        have HS : Hid (s = sumL l) := by
          show _ = _
          rw [hs, List.take_of_length_le (by rw [HN.out]; omega)]
        rw [← hs]
        clear hs hv
        go_wp2_with fail
        refine (refWhen_let _ _ _).mono ?_
        rintro e w6 ⟨d, rfl, hd, rfl⟩
        go_wp2
        go_ret
        exact ⟨d, rfl, fun h0 => ⟨by rw [HN.out]; exact ⟨n0, n8⟩, HG.out, by
          have := when_off (by omega) hd.out h0
          rw [← HS.out]; simpa using this⟩, HB.out⟩
  · have h1 : (E != 0) = true := by simp [he]
    go_wp2
    go_ret
    exact ⟨E, rfl, fun h => absurd h he, HB.out⟩
theorem lt_steps (l : List Int) (h : ∀ i, i + 1 < l.length → l.getD i 0 < l.getD (i + 1) 0) (i k : Nat) (hik : i < k) (hk : k < l.length) : l.getD i 0 < l.getD k 0 := by
  induction k with
  | zero => omega
  | succ k ih =>
    have h1 := h k hk
    by_cases e : i = k
    · rw [e]; exact h1
    · have := ih (by omega) (by omega); omega
set_option maxHeartbeats 1000000 in
set_option maxRecDepth 100000 in
theorem refSquares_any (A : Option Addr) (n c : Nat) (l : List Int) (w : World) (hl : IntsAt w A n l) (hn9 : n ≤ 9) :
    Calls Tryz.prog 104 #[.slice A n c] w fun e w' => ∃ E : Int, e = .returned (.int .i64 E) ∧ Hid (E = 0 → Bell.GoodSq l ∧ l.length ≤ 8 ∧ ∀ x, x ∈ l → 0 ≤ x ∧ x ≤ 100000000000) ∧ Below w.heap.size w w' := by
  have HL := Lib.hid hl
  have HN := Lib.hid hl.1
  clear hl
  obtain ⟨R, hR⟩ : ∃ R, R = firstInE (fun x => withinE x 0 100000000000) l := ⟨_, rfl⟩
  have HR := Lib.hid hR
  clear hR
  go_enter Tryz.func104, Tryz.ntmps104
  go_wp2_with fail
  refine (refWhen_let _ _ _).mono ?_
  rintro e w1 ⟨a, rfl, ha, rfl⟩
  go_wp2_with fail
  refine (refWhen_let _ _ _).mono ?_
  rintro e w2 ⟨b, rfl, hb, rfl⟩
  go_wp2_with fail
  refine (refRanges_any A n c l 0 100000000000 w2 (by omega) HL.out).mono ?_
  rw [← HR.out]
  rintro e w3 ⟨rfl, rfl⟩
  go_wp2_with fail
  refine (refFirst3 _ _ a b R _ (by go_simp) (by go_simp) (by go_simp)).mono ?_
  obtain ⟨E, hE⟩ : ∃ E, E = firstE [a, b, R] := ⟨_, rfl⟩
  rw [← hE]
  have HE := Lib.hid hE
  clear hE
  rintro e w4 ⟨rfl, rfl⟩
  obtain ⟨w5, hw5⟩ : ∃ W, W = w3.alloc (.cells #[.int .i64 a, .int .i64 b, .int .i64 R] 3) := ⟨_, rfl⟩
  rw [← hw5]
  have hbl : Below w3.heap.size w3 w5 := by rw [hw5]; exact (Below.refl _ _).alloc (Nat.le_refl _) _
  have H5 := Lib.hid (HL.out.keep hbl)
  have HB := Lib.hid hbl
  clear hw5 hbl
  by_cases he : E = 0
  · have h1 : (E != 0) = false := by simp [he]
    obtain ⟨z1, z2, z3⟩ := firstE3_zero (HE.out.symm.trans he)
    have y1 := when_off (by omega) ha.out z1
    have y2 := when_off (by omega) hb.out z2
    have n0 : 0 < n := by
      have : ¬ (n : Int) = 0 := by simpa using y1
      omega
    have n8 : n ≤ 8 := by have := of_decide_eq_false y2; omega
    have HG := Lib.hid (firstIn_rng (HR.out.symm.trans z3))
    obtain ⟨bb, off, rfl, hc⟩ := H5.out.2 n0
    have HC := Lib.hid hc
    clear hc he z1 z2 z3 y1 y2 ha hb HE HR HL
    go_wp2
    go_loopw [2, 4] (fun _ k wr => ∃ j : Nat, j ≤ n ∧ k = .int .i64 j ∧ Hid (0 < j → l.getD 0 0 = 0) ∧ Hid (∀ i, i + 1 < j → l.getD i 0 < l.getD (i + 1) 0) ∧ ∃ q, wr = w5.drewN q) (fun _ k _ => n - (intOf k).toNat)
    case atStart => exact ⟨0, Nat.zero_le _, rfl, fun h => absurd h (by omega), (fun i hi => by omega), 0, rfl⟩
    case round =>
      obtain ⟨j, hj, rfl, hz, hu, q, rfl⟩ := hrel
      by_cases hlt : j < n
      · have h0 := HC.out j hlt
        obtain ⟨x, hx⟩ : ∃ x, x = l.getD j 0 := ⟨_, rfl⟩
        rw [← hx] at h0
        have HX := Lib.hid hx
        clear hx
        rcases Nat.eq_zero_or_pos j with rfl | hp
        · rw [Nat.add_zero] at h0
          have pl : (0 : Int) < (n : Int) := by omega
          by_cases hx0 : x = 0
          · have t1 : (x != 0) = false := by simp [hx0]
            have HX0 := Lib.hid hx0
            clear hx0
            go_wp2
            go_quiet (fail)
            go_wp2
            go_roundw
            case rel => exact ⟨1, by omega, rfl, (fun _ => by rw [← HX.out]; exact HX0.out), (fun i hi => by omega), _, rfl⟩
            case measure => simp [intOf]; omega
          · have t1 : (x != 0) = true := by simp [hx0]
            clear hx0
            go_wp2
            go_quiet (fail)
            go_wp2
            go_ret
            exact ⟨11, rfl, (fun h => absurd h (by omega)), below_drewN' (below_drewN' HB.out _) _⟩
        · have g0 : ((j : Int) == 0) = false := by simp; omega
          have g1 : decide (0 < j) = true := decide_eq_true (by omega)
          obtain ⟨p, hpj⟩ : ∃ p, p + 1 = j := ⟨j - 1, by omega⟩
          have h1 := HC.out p (by omega)
          obtain ⟨y, hy⟩ : ∃ y, y = l.getD p 0 := ⟨_, rfl⟩
          rw [← hy] at h1
          have HY := Lib.hid hy
          have hmx : ∀ ts t W, (Builtin.max_ ts t #[.int .i64 0, .int .i64 ((j : Int) - 1)]).run Tryz.prog W = .ok (.int .i64 (p : Int)) W := fun ts t W => by
            rw [run_max2']; congr 2; omega
          have pl : (p : Int) < (n : Int) := by omega
          have pl2 : (j : Int) < (n : Int) := by omega
          have wj : IntKind.i64.wrap ((j : Int) - 1) = (j : Int) - 1 := IntWalk.i64_in _ (by omega)
          have HPJ := Lib.hid hpj
          clear hy hp hpj
          by_cases hxy : x ≤ y
          · have t1 : decide (x ≤ y) = true := decide_eq_true hxy
            clear hxy
            go_wp2
            go_quiet (fail)
            go_wp2
            go_ret
            exact ⟨11, rfl, (fun h => absurd h (by omega)), below_drewN' (below_drewN' HB.out _) _⟩
          · have t1 : decide (x ≤ y) = false := decide_eq_false hxy
            have HXY := Lib.hid hxy
            clear hxy
            go_wp2
            go_quiet (fail)
            go_wp2
            go_roundw
            case rel =>
              have hpj := HPJ.out
              refine ⟨j + 1, by omega, by go_num, (fun _ => hz.out (by omega)), (fun i hi => ?_), _, rfl⟩
              by_cases hip : i + 1 < j
              · exact hu.out i hip
              · obtain rfl : i = p := by omega
                rw [hpj]
                have := HXY.out
                rw [← HX.out, ← HY.out]; omega
            case measure => simp [intOf]; omega
      · obtain rfl : j = n := by omega
        go_wp2
        go_ret
        exact ⟨0, rfl, (fun _ => ⟨⟨by rw [HN.out]; exact n0, hz.out n0, fun i k hik hk => lt_steps l (fun i hi => hu.out i (by rw [← HN.out]; exact hi)) i k hik hk⟩, by rw [HN.out]; exact n8, HG.out⟩), below_drewN' HB.out _⟩
  · have h1 : (E != 0) = true := by simp [he]
    go_wp2
    go_ret
    exact ⟨E, rfl, fun h => absurd h he, HB.out⟩
end Go.Proofs.YtmafmebcgmegeaaGreatDoor
