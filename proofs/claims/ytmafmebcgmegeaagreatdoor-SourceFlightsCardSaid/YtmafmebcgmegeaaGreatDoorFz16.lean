/- Texts Q1 Io Ip Iq Ir Is of the proof. -/
import Derived.Test.YtmafmebcgmegeaaGreatDoorFz15
import Derived.BigQuiet
import Derived.RangeFuncBox
import Derived.WalkMore
namespace Go.Proofs.YtmafmebcgmegeaaGreatDoor
open Go.RowKit Go.Sort
theorem srcSpeed_st (x : Int) (w : World) : Calls Tryz.prog 118 #[.int .i64 x] w fun e w' => e = .returned (.int .i64 (withinE x 1 1000)) ∧ w' = w := by
  go_enter Tryz.func118, Tryz.ntmps118
  go_wp2_with fail
  refine (within_any _ _ _ _).mono ?_; rintro e w' ⟨rfl, rfl⟩; go_wp2; go_ret; exact ⟨rfl, rfl⟩
theorem srcAlong_st (x : Int) (w : World) : Calls Tryz.prog 183 #[.int .i64 x] w fun e w' => e = .returned (.int .i64 (withinE x 0 400000)) ∧ w' = w := by
  go_enter Tryz.func183, Tryz.ntmps183
  go_wp2_with fail
  refine (within_any _ _ _ _).mono ?_; rintro e w' ⟨rfl, rfl⟩; go_wp2; go_ret; exact ⟨rfl, rfl⟩
theorem atMost_pt (A : Option Addr) (n c : Nat) (limit : Int) (w : World) :
    Calls Tryz.prog 214 #[.slice A n c, .int .i64 limit] w fun e w' => e = .returned (.int .i64 (atMostE n limit)) ∧ w' = w := by
  by_cases h : limit < (n : Int)
  · have hr : atMostE n limit = 5 := by simp [atMostE, h]
    rw [hr]; clear hr
    go_enter Tryz.func214, Tryz.ntmps214
    go_wp2
    go_ret
    exact ⟨rfl, rfl⟩
  · have hr : atMostE n limit = 0 := by simp [atMostE, h]
    rw [hr]; clear hr
    go_enter Tryz.func214, Tryz.ntmps214
    go_wp2
    go_ret
    exact ⟨rfl, rfl⟩
theorem atMost_step (A : Option Addr) (n c : Nat) (limit : Int) (w : World) :
    Calls Tryz.prog 182 #[.slice A n c, .int .i64 limit] w fun e w' => e = .returned (.int .i64 (atMostE n limit)) ∧ w' = w := by
  by_cases h : limit < (n : Int)
  · have hr : atMostE n limit = 5 := by simp [atMostE, h]
    rw [hr]; clear hr
    go_enter Tryz.func182, Tryz.ntmps182
    go_wp2
    go_ret
    exact ⟨rfl, rfl⟩
  · have hr : atMostE n limit = 0 := by simp [atMostE, h]
    rw [hr]; clear hr
    go_enter Tryz.func182, Tryz.ntmps182
    go_wp2
    go_ret
    exact ⟨rfl, rfl⟩
theorem atMost_flight (A : Option Addr) (n c : Nat) (limit : Int) (w : World) :
    Calls Tryz.prog 217 #[.slice A n c, .int .i64 limit] w fun e w' => e = .returned (.int .i64 (atMostE n limit)) ∧ w' = w := by
  by_cases h : limit < (n : Int)
  · have hr : atMostE n limit = 5 := by simp [atMostE, h]
    rw [hr]; clear hr
    go_enter Tryz.func217, Tryz.ntmps217
    go_wp2
    go_ret
    exact ⟨rfl, rfl⟩
  · have hr : atMostE n limit = 0 := by simp [atMostE, h]
    rw [hr]; clear hr
    go_enter Tryz.func217, Tryz.ntmps217
    go_wp2
    go_ret
    exact ⟨rfl, rfl⟩
theorem atMost_type (A : Option Addr) (n c : Nat) (limit : Int) (w : World) :
    Calls Tryz.prog 190 #[.slice A n c, .int .i64 limit] w fun e w' => e = .returned (.int .i64 (atMostE n limit)) ∧ w' = w := by
  by_cases h : limit < (n : Int)
  · have hr : atMostE n limit = 5 := by simp [atMostE, h]
    rw [hr]; clear hr
    go_enter Tryz.func190, Tryz.ntmps190
    go_wp2
    go_ret
    exact ⟨rfl, rfl⟩
  · have hr : atMostE n limit = 0 := by simp [atMostE, h]
    rw [hr]; clear hr
    go_enter Tryz.func190, Tryz.ntmps190
    go_wp2
    go_ret
    exact ⟨rfl, rfl⟩
theorem atMost_fixE (A : Option Addr) (n c : Nat) (limit : Int) (w : World) :
    Calls Tryz.prog 122 #[.slice A n c, .int .i64 limit] w fun e w' => e = .returned (.int .i64 (atMostE n limit)) ∧ w' = w := by
  by_cases h : limit < (n : Int)
  · have hr : atMostE n limit = 5 := by simp [atMostE, h]
    rw [hr]; clear hr
    go_enter Tryz.func122, Tryz.ntmps122
    go_wp2
    go_ret
    exact ⟨rfl, rfl⟩
  · have hr : atMostE n limit = 0 := by simp [atMostE, h]
    rw [hr]; clear hr
    go_enter Tryz.func122, Tryz.ntmps122
    go_wp2
    go_ret
    exact ⟨rfl, rfl⟩
def lengthE (n : Nat) (limit : Int) : Int := if n < 2 then 16 else atMostE n limit
theorem length_pt (A : Option Addr) (n c : Nat) (limit : Int) (w : World) :
    Calls Tryz.prog 178 #[.slice A n c, .int .i64 limit] w fun e w' => e = .returned (.int .i64 (lengthE n limit)) ∧ w' = w := by
  by_cases h : n < 2
  · have hr : lengthE n limit = 16 := by simp [lengthE, h]
    have h2 : (n : Int) < 2 := by omega
    rw [hr]; clear hr h
    go_enter Tryz.func178, Tryz.ntmps178
    go_wp2
    go_ret
    exact ⟨rfl, rfl⟩
  · have hr : lengthE n limit = atMostE n limit := by simp [lengthE, h]
    have h2 : ¬ (n : Int) < 2 := by omega
    rw [hr]; clear hr h
    go_enter Tryz.func178, Tryz.ntmps178
    go_wp2_with fail
    refine (atMost_pt A n c limit _).mono ?_; rintro e w' ⟨rfl, rfl⟩; go_wp2; go_ret; exact ⟨rfl, rfl⟩
theorem length_step (A : Option Addr) (n c : Nat) (limit : Int) (w : World) :
    Calls Tryz.prog 132 #[.slice A n c, .int .i64 limit] w fun e w' => e = .returned (.int .i64 (lengthE n limit)) ∧ w' = w := by
  by_cases h : n < 2
  · have hr : lengthE n limit = 16 := by simp [lengthE, h]
    have h2 : (n : Int) < 2 := by omega
    rw [hr]; clear hr h
    go_enter Tryz.func132, Tryz.ntmps132
    go_wp2
    go_ret
    exact ⟨rfl, rfl⟩
  · have hr : lengthE n limit = atMostE n limit := by simp [lengthE, h]
    have h2 : ¬ (n : Int) < 2 := by omega
    rw [hr]; clear hr h
    go_enter Tryz.func132, Tryz.ntmps132
    go_wp2_with fail
    refine (atMost_step A n c limit _).mono ?_; rintro e w' ⟨rfl, rfl⟩; go_wp2; go_ret; exact ⟨rfl, rfl⟩
theorem length_fix (A : Option Addr) (n c : Nat) (limit : Int) (w : World) :
    Calls Tryz.prog 125 #[.slice A n c, .int .i64 limit] w fun e w' => e = .returned (.int .i64 (lengthE n limit)) ∧ w' = w := by
  by_cases h : n < 2
  · have hr : lengthE n limit = 16 := by simp [lengthE, h]
    have h2 : (n : Int) < 2 := by omega
    rw [hr]; clear hr h
    go_enter Tryz.func125, Tryz.ntmps125
    go_wp2
    go_ret
    exact ⟨rfl, rfl⟩
  · have hr : lengthE n limit = atMostE n limit := by simp [lengthE, h]
    have h2 : ¬ (n : Int) < 2 := by omega
    rw [hr]; clear hr h
    go_enter Tryz.func125, Tryz.ntmps125
    go_wp2_with fail
    refine (atMost_fixE A n c limit _).mono ?_; rintro e w' ⟨rfl, rfl⟩; go_wp2; go_ret; exact ⟨rfl, rfl⟩
theorem that_any (b : Bool) (x : Int) (w : World) :
    Calls Tryz.prog 193 #[.bool b, .int .i64 x] w fun e w' => e = .returned (.int .i64 (if b then 0 else x)) ∧ w' = w := by
  cases b
  · simp only [Bool.false_eq_true, if_false]
    go_enter Tryz.func193, Tryz.ntmps193
    go_wp2
    go_ret
    exact ⟨rfl, rfl⟩
  · simp only [if_true]
    go_enter Tryz.func193, Tryz.ntmps193
    go_wp2
    go_ret
    exact ⟨rfl, rfl⟩
theorem isNaN_int (x : Int) (w : World) : Calls Tryz.prog 216 #[.int .i64 x] w fun e w' => e = .returned (.bool false) ∧ w' = w := by
  go_enter Tryz.func216, Tryz.ntmps216
  go_wp2
  go_ret
  exact ⟨rfl, rfl⟩
def cmpI (a b : Int) : Int := if a < b then -1 else if b < a then 1 else 0
theorem compare_int (a b : Int) (w : World) : Calls Tryz.prog 189 #[.int .i64 a, .int .i64 b] w fun e w' => e = .returned (.int .i64 (cmpI a b)) ∧ w' = w := by
  have HR : Hid (cmpI a b = if a < b then -1 else if b < a then 1 else 0) := rfl; rcases Int.lt_trichotomy a b with h | h | h
  · have hr : cmpI a b = -1 := by unfold cmpI; rw [if_pos h]
    rw [hr]; clear hr HR
    go_enter Tryz.func189, Tryz.ntmps189
    go_wp2_with fail
    refine (isNaN_int a _).mono ?_; rintro e w1 ⟨rfl, rfl⟩
    go_wp2_with fail
    refine (isNaN_int b _).mono ?_; rintro e w2 ⟨rfl, rfl⟩; go_wp2; go_ret; exact ⟨rfl, rfl⟩
  · subst h; have hr : cmpI a a = 0 := by unfold cmpI; rw [if_neg (by omega), if_neg (by omega)]
    have h1 : ¬ a < a := by omega
    rw [hr]; clear hr HR
    go_enter Tryz.func189, Tryz.ntmps189
    go_wp2_with fail
    refine (isNaN_int a _).mono ?_; rintro e w1 ⟨rfl, rfl⟩
    go_wp2_with fail
    refine (isNaN_int a _).mono ?_; rintro e w2 ⟨rfl, rfl⟩; go_wp2; go_ret; exact ⟨rfl, rfl⟩
  · have hr : cmpI a b = 1 := by unfold cmpI; rw [if_neg (by omega), if_pos h]
    have h1 : ¬ a < b := by omega
    rw [hr]; clear hr HR
    go_enter Tryz.func189, Tryz.ntmps189
    go_wp2_with fail
    refine (isNaN_int a _).mono ?_; rintro e w1 ⟨rfl, rfl⟩
    go_wp2_with fail
    refine (isNaN_int b _).mono ?_; rintro e w2 ⟨rfl, rfl⟩; go_wp2; go_ret; exact ⟨rfl, rfl⟩
theorem kind_any (n : Nat) (w : World) : Calls Tryz.prog 148 #[.int .i64 n] w fun e w' => e = .returned (.int .i64 (min n 4 : Nat)) ∧ w' = w := by
  rcases Nat.lt_or_ge 4 n with h | h
  · have hr : (min n 4 : Nat) = 4 := by omega
    have h1 : min (n : Int) 4 = 4 := by omega
    rw [hr]; clear hr
    go_enter Tryz.func148, Tryz.ntmps148
    go_wp2
    go_ret
    exact ⟨ret_int (by omega), rfl⟩
  · have hr : (min n 4 : Nat) = n := by omega
    have h1 : min (n : Int) 4 = n := by omega
    rw [hr]; clear hr
    go_enter Tryz.func148, Tryz.ntmps148
    go_wp2
    go_ret
    exact ⟨ret_int (by omega), rfl⟩
theorem clip_fix (b off n c : Nat) (w : World) (h : n ≤ c) (hc : c ≤ 9223372036854775807) : Calls Tryz.prog 120 #[.slice (some ⟨b, off, none⟩) n c] w fun e w' => e = .returned (.slice (some ⟨b, off, none⟩) n n) ∧ w' = w := by
  have h1 : (0 : Int) ≤ (n : Int) := by omega
  have h2 : (n : Int) ≤ (c : Int) := by omega
  go_enter Tryz.func120, Tryz.ntmps120
  go_wp2
  go_ret
  exact ⟨rfl, rfl⟩
def stepE (s : Bell.Sp) : Int := firstE [withinE s.d 0 400000, withinE s.h 0 20000, withinE s.p 1 100]
def spV (s : Bell.Sp) : Array Value := #[.int .i64 s.d, .int .i64 s.h, .int .i64 s.p]
set_option maxHeartbeats 2000000 in
set_option maxRecDepth 100000 in
theorem stepCheck_any (s : Bell.Sp) (w : World) :
    Calls Tryz.prog 133 #[.agg (spV s)] w fun e w' => e = .returned (.int .i64 (stepE s)) ∧ Below w.heap.size w w' := by
  unfold spV
  go_enter Tryz.func133, Tryz.ntmps133
  go_wp2_with fail
  have HB : Hid (Below w.heap.size w w) := Below.refl _ _; obtain ⟨w0, hw0⟩ : ∃ W, W = (w.alloc (.cells #[.int .i64 s.d, .int .i64 s.h, .int .i64 s.p] 166)) := ⟨_, rfl⟩; rw [← hw0]; have B : Hid (Blk w0 (w.heap.size) 166 #[.int .i64 s.d, .int .i64 s.h, .int .i64 s.p]) := by show Blk _ _ _ _; rw [hw0]; exact Blk.new _ _ _
  have hb0 : Below w.heap.size w w0 := by rw [hw0]; exact ((Below.refl _ _).alloc (Nat.le_refl _) _)
  obtain ⟨g, hg⟩ : ∃ g, g = w.heap.size := ⟨_, rfl⟩; have HGw0 : Hid (g = w.heap.size) := hg; rw [← hg] at B
  try rw [← hg]
  clear hw0 hg; replace HB := Lib.hid (HB.out.trans (hb0.mono HB.out.size)); clear hb0; have a0 := fun d os => cell_regrown (B.out.cell 0) d os
  have a1 := fun d os => cell_regrown (B.out.cell 1) d os
  have a2 := fun d os => cell_regrown (B.out.cell 2) d os
  have c0 := fun nd ns => Calls.regrown_of (Calls.grow_same (srcAlong_st s.d (grow (redrawn w0 nd) ns)))
  have c1 := fun nd ns => Calls.regrown_of (Calls.grow_same (srcHeight_st s.h (grow (redrawn w0 nd) ns)))
  have c2 := fun nd ns => Calls.regrown_of (Calls.grow_same (srcPower_st s.p (grow (redrawn w0 nd) ns)))
  refine wp_region_below_tail 9 (by kernel_rfl) (by kernel_rfl) ?_; simp only [List.take_succ_cons, List.take_zero, List.drop_succ_cons, List.drop_zero]
  iterate 2 (quiet_step (fail))
  quiet_step (exact c0 _ _)
  iterate 2 (quiet_step (fail))
  quiet_step (exact c1 _ _)
  iterate 2 (quiet_step (fail))
  quiet_step (exact c2 _ _)
  refine wpQuiet_nil ?_; intro w1 hq1; obtain ⟨⟨dq, osq⟩, hq2⟩ := hq1; have hb1 := below_regrown w0 dq osq; rw [← hq2] at hb1; clear hq2; replace HB := Lib.hid (HB.out.trans (hb1.mono HB.out.size)); clear hb1; clear a0 a1 a2 c0 c1 c2 B
  go_wp2_with fail
  refine (first3 _ _ (withinE s.d 0 400000) (withinE s.h 0 20000) (withinE s.p 1 100) _ (by go_simp) (by go_simp) (by go_simp)).mono ?_; rintro e w2 ⟨rfl, rfl⟩; go_wp2; go_ret; exact ⟨rfl, HB.out.alloc HB.out.size _⟩
end Go.Proofs.YtmafmebcgmegeaaGreatDoor

namespace Go.Proofs.YtmafmebcgmegeaaGreatDoor
open Go.RowKit Go.Sort
theorem refWhen_let (b : Bool) (x : Int) (w : World) :
    Calls Tryz.prog 105 #[.bool b, .int .i64 x] w fun e w' => ∃ a : Int, e = .returned (.int .i64 a) ∧ Hid (a = if b then x else 0) ∧ w' = w :=
  (refWhen_any b x w).mono fun _ _ h => ⟨_, h.1, rfl, h.2.symm⟩
theorem when_off {b : Bool} {x a : Int} (hx : x ≠ 0) (h : a = if b then x else 0) (h0 : a = 0) : b = false := by
  cases b
  · rfl
  · exact absurd (h.symm.trans h0) (by simpa using hx)
theorem firstE3_zero {a b c : Int} (h : firstE [a, b, c] = 0) : a = 0 ∧ b = 0 ∧ c = 0 := by
  by_cases h1 : a = 0 <;> by_cases h2 : b = 0 <;> by_cases h3 : c = 0 <;> simp_all [firstE]
theorem firstE4_zero {a b c d : Int} (h : firstE [a, b, c, d] = 0) : a = 0 ∧ b = 0 ∧ c = 0 ∧ d = 0 := by
  by_cases h1 : a = 0 <;> by_cases h2 : b = 0 <;> by_cases h3 : c = 0 <;> by_cases h4 : d = 0 <;> simp_all [firstE]
theorem refTick_st (x : Int) (w : World) : Calls Tryz.prog 52 #[.int .i64 x] w fun e w' => e = .returned (.int .i64 (withinE x 0 100000000)) ∧ w' = w := by
  go_enter Tryz.func52, Tryz.ntmps52
  go_wp2_with fail
  refine (refCheckRange_st _ _ _ _).mono ?_; rintro e w' ⟨rfl, rfl⟩; go_wp2; go_ret; exact ⟨rfl, rfl⟩
theorem refPower_st (x : Int) (w : World) : Calls Tryz.prog 22 #[.int .i64 x] w fun e w' => e = .returned (.int .i64 (withinE x 1 100)) ∧ w' = w := by
  go_enter Tryz.func22, Tryz.ntmps22
  go_wp2_with fail
  refine (refCheckRange_st _ _ _ _).mono ?_; rintro e w' ⟨rfl, rfl⟩; go_wp2; go_ret; exact ⟨rfl, rfl⟩
set_option maxHeartbeats 400000 in
set_option maxRecDepth 100000 in
theorem refPlace_any (x y z : Int) (w : World) :
    Calls Tryz.prog 26 #[.agg #[.int .i64 x, .int .i64 y, .int .i64 z]] w fun e w' => e = .returned (.int .i64 (placeE x y z)) ∧ Below w.heap.size w w' := by
  go_enter Tryz.func26, Tryz.ntmps26
  go_wp2_with fail
  refine wp_region_still_tail 9 (by kernel_rfl) (by kernel_rfl) ?_; simp only [List.take_succ_cons, List.take_zero, List.drop_succ_cons, List.drop_zero]
  change wpStill _ _ (World.drew _) _ _ _
  repeat still_step
  still_call (refCheckRange_st _ _ _ _)
  repeat still_step
  still_call (refCheckRange_st _ _ _ _)
  repeat still_step
  still_call (refCheckRange_st _ _ _ _)
  repeat still_step
  refine wpStill_nil ?_
  change wpList _ _ _ _ _ (World.drew _)
  go_wp2_with fail
  refine (refFirst3 _ _ (withinE x (-100000) 100000) (withinE y (-100000) 100000) (withinE z 0 20000) _ (by go_simp) (by go_simp) (by go_simp)).mono ?_; rintro e w1 ⟨rfl, rfl⟩; go_wp2; go_ret; exact ⟨rfl, (((Below.refl _ _).alloc (Nat.le_refl _) _).drew).alloc (by simp) _⟩
set_option maxHeartbeats 400000 in
set_option maxRecDepth 100000 in
theorem refRanges_any (A : Option Addr) (n c : Nat) (zs : List Int) (lo hi : Int) (w : World) (hn : n ≤ 140737488351232) (hz : IntsAt w A n zs) :
    Calls Tryz.prog 102 #[.slice A n c, .int .i64 lo, .int .i64 hi] w fun e w' => e = .returned (.int .i64 (firstInE (fun x => withinE x lo hi) zs)) ∧ w' = w := by
  obtain ⟨hl, hc⟩ := hz; have HL := Lib.hid hl; have HC := Lib.hid hc; clear hl hc
  go_enter Tryz.func102, Tryz.ntmps102
  go_wp2
  go_loop [7, 8] (fun i _ => ∃ k : Nat, k ≤ n ∧ i = .int .i64 k ∧ Hid (∀ i, i < k → withinE (zs.getD i 0) lo hi = 0)) (fun i _ => n - (intOf i).toNat)
  case atStart => exact ⟨0, Nat.zero_le _, rfl, fun i hi => by omega⟩
  case round =>
    obtain ⟨k, hk, rfl, hz⟩ := hrel
    by_cases hlt : k < n
    · obtain ⟨b, off, rfl, hcc⟩ := HC.out (by omega); obtain ⟨x, hx⟩ : ∃ x, x = zs.getD k 0 := ⟨_, rfl⟩; have h0 := hcc k hlt; clear hcc; rw [← hx] at h0; have HX := Lib.hid hx; clear hx
      go_wp2_with fail
      refine (refCheckRange_st x lo hi _).mono ?_; rintro e w' ⟨rfl, rfl⟩; obtain ⟨y, hy⟩ : ∃ y, y = withinE x lo hi := ⟨_, rfl⟩; rw [← hy]; have HY := Lib.hid hy; clear hy
      by_cases he : y = 0
      · have h1 : (y != 0) = false := by simp [he]
        have HE := Lib.hid he; clear he; go_wp2
        go_round
        case rel =>
          refine ⟨k + 1, by omega, by go_num, fun i hi => ?_⟩
          by_cases hik : i < k
          · exact hz.out i hik
          · obtain rfl : i = k := by omega
            rw [← HX.out, ← HY.out]; exact HE.out
        case measure => simp [intOf]; omega
      · have h1 : (y != 0) = true := by simp [he]
        have HE := Lib.hid he; clear he; go_wp2; go_ret; exact ⟨ret_int (by rw [firstInE_hit (fun x => withinE x lo hi) zs k (by rw [HL.out]; exact hlt) hz.out (by rw [← HX.out, ← HY.out]; exact HE.out), ← HX.out]; exact HY.out), rfl⟩
    · go_wp2
      go_ret
      exact ⟨ret_int (firstInE_miss (fun x => withinE x lo hi) zs (fun i hi => hz.out i (by rw [HL.out] at hi; omega))).symm, rfl⟩
theorem firstIn_rng {lo hi : Int} {zs : List Int} (h : firstInE (fun x => withinE x lo hi) zs = 0) : ∀ x, x ∈ zs → lo ≤ x ∧ x ≤ hi := fun x hx => by
  obtain ⟨i, hi', rfl⟩ := List.getElem_of_mem hx; have := firstInE_zero h i hi'; rw [List.getD_eq_getElem?_getD, List.getElem?_eq_getElem hi', Option.getD_some] at this; exact withinE_zero this
end Go.Proofs.YtmafmebcgmegeaaGreatDoor

namespace Go.Proofs.YtmafmebcgmegeaaGreatDoor
open Go.RowKit Go.Sort
def TrAt (w : World) (A : Option Addr) (n : Nat) (l : List Bell.Fx) : Prop := l.length = n ∧ (0 < n → ∃ b off, A = some ⟨b, off, none⟩ ∧ FixesAt w b off n l)
theorem TrAt.keep {w w' : World} {A : Option Addr} {n : Nat} {l : List Bell.Fx} (h : TrAt w A n l) (hb : Below w.heap.size w w') : TrAt w' A n l :=
  ⟨h.1, fun h0 => by obtain ⟨b, off, e, hf⟩ := h.2 h0; exact ⟨b, off, e, hf.keep hb⟩⟩
theorem refWhen_as {b : Bool} {x a : Int} (w : World) (ha : a = if b then x else 0) :
    Calls Tryz.prog 105 #[.bool b, .int .i64 x] w fun e w' => e = .returned (.int .i64 a) ∧ w' = w :=
  (refWhen_any b x w).mono fun _ _ h => ⟨by rw [h.1, ha], h.2.symm⟩
theorem placeE_zero {x y z : Int} (h : placeE x y z = 0) : (-100000 ≤ x ∧ x ≤ 100000) ∧ (-100000 ≤ y ∧ y ≤ 100000) ∧ 0 ≤ z ∧ z ≤ 20000 := by
  unfold placeE at h; obtain ⟨h1, h2, h3⟩ := firstE3_zero h; exact ⟨withinE_zero h1, withinE_zero h2, withinE_zero h3⟩
end Go.Proofs.YtmafmebcgmegeaaGreatDoor

namespace Go.Proofs.YtmafmebcgmegeaaGreatDoor
open Go.RowKit Go.Sort
def SetsO (w : World) (A : Option Addr) (n : Nat) (s : Bell.Sets) : Prop := s.length = n ∧ (0 < n → ∃ b off, A = some ⟨b, off, none⟩ ∧ SetsAt w b off n s)
theorem SetsO.keep {w w' : World} {A : Option Addr} {n : Nat} {s : Bell.Sets} (h : SetsO w A n s) (hb : Below w.heap.size w w') : SetsO w' A n s :=
  ⟨h.1, fun h0 => by obtain ⟨b, off, e, hf⟩ := h.2 h0; exact ⟨b, off, e, hf.keep hb⟩⟩
structure RTy (w : World) (cs : Array Value) (nm : ByteArray) (sh : List Int) (T : Bell.Ty) (sa : Option Addr) (sn sc : Nat) (qa : Option Addr) (qn qc : Nat) (ga : Option Addr) (gn gc : Nat) : Prop where
  cells : cs = tyV nm sa sn sc T qa qn qc ga gn gc
  shares : IntsAt w sa sn sh
  squares : IntsAt w qa qn T.squares
  sets : SetsO w ga gn T.sets
theorem RTy.keep {w w' : World} {cs : Array Value} {nm : ByteArray} {sh : List Int} {T : Bell.Ty} {sa : Option Addr} {sn sc : Nat} {qa : Option Addr} {qn qc : Nat} {ga : Option Addr} {gn gc : Nat} (h : RTy w cs nm sh T sa sn sc qa qn qc ga gn gc) (hb : Below w.heap.size w w') : RTy w' cs nm sh T sa sn sc qa qn qc ga gn gc :=
  ⟨h.cells, h.shares.keep hb, h.squares.keep hb, h.sets.keep hb⟩
theorem RTy.c0 {w : World} {cs : Array Value} {nm : ByteArray} {sh : List Int} {T : Bell.Ty} {sa : Option Addr} {sn sc : Nat} {qa : Option Addr} {qn qc : Nat} {ga : Option Addr} {gn gc : Nat} (h : RTy w cs nm sh T sa sn sc qa qn qc ga gn gc) : cs[0]? = some (.string nm) := by rw [h.cells]; rfl
theorem RTy.c1 {w : World} {cs : Array Value} {nm : ByteArray} {sh : List Int} {T : Bell.Ty} {sa : Option Addr} {sn sc : Nat} {qa : Option Addr} {qn qc : Nat} {ga : Option Addr} {gn gc : Nat} (h : RTy w cs nm sh T sa sn sc qa qn qc ga gn gc) : cs[1]? = some (.slice sa sn sc) := by rw [h.cells]; rfl
theorem RTy.c10 {w : World} {cs : Array Value} {nm : ByteArray} {sh : List Int} {T : Bell.Ty} {sa : Option Addr} {sn sc : Nat} {qa : Option Addr} {qn qc : Nat} {ga : Option Addr} {gn gc : Nat} (h : RTy w cs nm sh T sa sn sc qa qn qc ga gn gc) : cs[10]? = some (.int .i64 T.side) := by rw [h.cells]; rfl
theorem RTy.c11 {w : World} {cs : Array Value} {nm : ByteArray} {sh : List Int} {T : Bell.Ty} {sa : Option Addr} {sn sc : Nat} {qa : Option Addr} {qn qc : Nat} {ga : Option Addr} {gn gc : Nat} (h : RTy w cs nm sh T sa sn sc qa qn qc ga gn gc) : cs[11]? = some (.slice qa qn qc) := by rw [h.cells]; rfl
theorem RTy.c12 {w : World} {cs : Array Value} {nm : ByteArray} {sh : List Int} {T : Bell.Ty} {sa : Option Addr} {sn sc : Nat} {qa : Option Addr} {qn qc : Nat} {ga : Option Addr} {gn gc : Nat} (h : RTy w cs nm sh T sa sn sc qa qn qc ga gn gc) : cs[12]? = some (.slice ga gn gc) := by rw [h.cells]; rfl
structure ShortT (nm : ByteArray) (sn qn gn : Nat) (s : Bell.Sets) : Prop where
  name : nm.size ≤ 40
  shares : sn ≤ 9
  squares : qn ≤ 9
  sets : gn ≤ 7
  each : ∀ k, k < gn → ((s.getD k (0, [])).2).length ≤ 9
def ShortPost (nm : ByteArray) (sn qn gn : Nat) (s : Bell.Sets) (e : Ending) : Prop := ∃ b : Bool, e = .returned (.bool b) ∧ (b = true → ShortT nm sn qn gn s)
theorem shortPost_no {nm : ByteArray} {sn qn gn : Nat} {s : Bell.Sets} : ShortPost nm sn qn gn s (.returned (.bool false)) := ⟨false, rfl, fun h => by cases h⟩
set_option maxHeartbeats 4000000 in
set_option maxRecDepth 100000 in
theorem refShortTy_any {nm : ByteArray} {sh : List Int} {T : Bell.Ty} {sa : Option Addr} {sn sc : Nat} {qa : Option Addr} {qn qc : Nat} {ga : Option Addr} {gn gc : Nat} {cs : Array Value} (w : World) (hT : RTy w cs nm sh T sa sn sc qa qn qc ga gn gc) (hm : gn ≤ 140737488351232) :
    Calls Tryz.prog 13 #[.agg cs] w fun e w' => ShortPost nm sn qn gn T.sets e ∧ Below w.heap.size w w' := by
  have HS := Lib.hid hT.sets; have q0 := hT.c0; have q1 := hT.c1; have q11 := hT.c11; have q12 := hT.c12; clear hT
  go_enter Tryz.func13, Tryz.ntmps13
  go_upto_region 1 with fail
  obtain ⟨w1, hw1⟩ : ∃ W, W = w.alloc (.cells cs 26) := ⟨_, rfl⟩; rw [← hw1]; have T1 : Hid (Blk w1 w.heap.size 26 cs) := by show Blk _ _ _ _; rw [hw1]; exact Blk.new _ _ _
  have HB1 : Hid (Below w.heap.size w w1) := by show Below _ _ _; rw [hw1]; exact (Below.refl _ _).alloc (Nat.le_refl _) _
  have HS1 := Lib.hid (HS.out.keep HB1.out); obtain ⟨g, hg⟩ : ∃ g, g = w.heap.size := ⟨_, rfl⟩; rw [← hg] at T1 ⊢; clear hw1 hg HS; have t0 := (T1.out.cell 0).trans q0; have t1 := (T1.out.cell 1).trans q1; have t11 := (T1.out.cell 11).trans q11; have t12 := (T1.out.cell 12).trans q12; clear q0 q1 q11 q12; go_wp2
  go_loop [2, 3] (fun _ k => ∃ j : Nat, j ≤ gn ∧ k = .int .i64 j ∧ Hid (∀ i, i < j → ((T.sets.getD i (0, [])).2).length ≤ 9)) (fun _ k => gn - (intOf k).toNat)
  case atStart => exact ⟨0, Nat.zero_le _, rfl, fun i hi => by omega⟩
  case round =>
    obtain ⟨j, hj, rfl, hz⟩ := hrel
    by_cases hlt : j < gn
    · obtain ⟨bb, off, rfl, hl⟩ := HS1.out.2 (by omega); obtain ⟨ea, en, ec, k1, k2, k3⟩ := hl.2 j hlt; have HE := Lib.hid k3.1; clear k1 k3 hl
      by_cases h9 : 9 < en
      · have d1 : decide ((9 : Int) < (en : Int)) = true := decide_eq_true (by omega); clear h9; go_wp2; go_ret; exact ⟨shortPost_no, HB1.out⟩
      · have d1 : decide ((9 : Int) < (en : Int)) = false := decide_eq_false (by omega); have H9 := Lib.hid h9; clear h9; go_wp2
        go_round
        case rel =>
          refine ⟨j + 1, by omega, by go_num, fun i hi => ?_⟩
          by_cases hij : i < j
          · exact hz.out i hij
          · obtain rfl : i = j := by omega
            have := H9.out; rw [HE.out]; omega
        case measure => simp [intOf]; omega
    · obtain rfl : j = gn := by omega
      clear hlt
      by_cases n1 : (nm.size : Int) ≤ 40
      rotate_left
      · have dn1 : decide ((nm.size : Int) ≤ 40) = false := decide_eq_false n1; go_wp2; go_ret; exact ⟨shortPost_no, HB1.out⟩
      have dn1 : decide ((nm.size : Int) ≤ 40) = true := decide_eq_true n1
      by_cases n2 : (sn : Int) ≤ 9
      rotate_left
      · have dn2 : decide ((sn : Int) ≤ 9) = false := decide_eq_false n2; go_wp2; go_ret; exact ⟨shortPost_no, HB1.out⟩
      have dn2 : decide ((sn : Int) ≤ 9) = true := decide_eq_true n2
      by_cases n3 : (qn : Int) ≤ 9
      rotate_left
      · have dn3 : decide ((qn : Int) ≤ 9) = false := decide_eq_false n3; go_wp2; go_ret; exact ⟨shortPost_no, HB1.out⟩
      have dn3 : decide ((qn : Int) ≤ 9) = true := decide_eq_true n3
      by_cases n4 : (j : Int) ≤ 7
      rotate_left
      · have dn4 : decide ((j : Int) ≤ 7) = false := decide_eq_false n4; go_wp2; go_ret; exact ⟨shortPost_no, HB1.out⟩
      have dn4 : decide ((j : Int) ≤ 7) = true := decide_eq_true n4; go_wp2; go_ret; exact ⟨⟨true, rfl, fun _ => ⟨by omega, by omega, by omega, by omega, hz.out⟩⟩, HB1.out⟩
end Go.Proofs.YtmafmebcgmegeaaGreatDoor

namespace Go.Proofs.YtmafmebcgmegeaaGreatDoor
open Go.RowKit Go.Sort
def SetAt (w : World) (b o : Nat) (p : Int) (ea : Option Addr) (en ec : Nat) : Prop := w.cell? ⟨b, o, none⟩ = some (.int .i64 p) ∧ w.cell? ⟨b, o + 1, none⟩ = some (.slice ea en ec)
theorem via3 {A B : World → Nat → Prop} {C : World → Prop} {G : Prop} (M : World → Nat → Nat → Prop) (h : (∀ (w2 : World) (a b : Nat), A w2 a → B w2 b → C w2 → M w2 a b) → G) (k : ∀ (w2 : World) (a b : Nat), A w2 a → B w2 b → C w2 → M w2 a b) : G := h k
end Go.Proofs.YtmafmebcgmegeaaGreatDoor

namespace Go.Proofs.YtmafmebcgmegeaaGreatDoor
open Go.RowKit
def fxCells (l : List Bell.Fx) : List Value := l.flatMap fun p => [.int .i64 p.t, .int .i64 p.x, .int .i64 p.y, .int .i64 p.z, .int .i64 p.p]
theorem fxCells_len (l : List Bell.Fx) : (fxCells l).length = l.length * 5 := by
  induction l with
  | nil => rfl
  | cons p l ih => simp only [fxCells, List.flatMap_cons, List.length_append, List.length_cons, List.length_nil] at *; omega
theorem fxCells_snoc (l : List Bell.Fx) (p : Bell.Fx) : fxCells (l ++ [p]) = fxCells l ++ [.int .i64 p.t, .int .i64 p.x, .int .i64 p.y, .int .i64 p.z, .int .i64 p.p] := by simp [fxCells]
theorem fxCells_at (l : List Bell.Fx) (i : Nat) (hi : i < l.length) : (fxCells l)[i * 5]? = some (.int .i64 (Bell.fxAt l i).t) ∧ (fxCells l)[i * 5 + 1]? = some (.int .i64 (Bell.fxAt l i).x) ∧ (fxCells l)[i * 5 + 2]? = some (.int .i64 (Bell.fxAt l i).y) ∧ (fxCells l)[i * 5 + 3]? = some (.int .i64 (Bell.fxAt l i).z) ∧ (fxCells l)[i * 5 + 4]? = some (.int .i64 (Bell.fxAt l i).p) := by
  induction l generalizing i with
  | nil => simp at hi
  | cons p l ih =>
    cases i with
    | zero => exact ⟨rfl, rfl, rfl, rfl, rfl⟩
    | succ i =>
      have := ih i (by simpa using hi); have e : fxCells (p :: l) = Value.int .i64 p.t :: Value.int .i64 p.x :: Value.int .i64 p.y :: Value.int .i64 p.z :: Value.int .i64 p.p :: fxCells l := rfl; have ef : Bell.fxAt (p :: l) (i + 1) = Bell.fxAt l i := rfl; rw [e, ef, show (i + 1) * 5 = i * 5 + 1 + 1 + 1 + 1 + 1 by omega]
      simpa using this
def OwnT (w : World) (base : Nat) (v : Value) (l : List Bell.Fx) : Prop := w.ownsRow base 152 5 v l.length (fxCells l)
theorem OwnT.at_ {w : World} {base : Nat} {v : Value} {l : List Bell.Fx} (h : OwnT w base v l) : ∃ A c, v = .slice A l.length c ∧ TrAt w A l.length l ∧ l.length ≤ c ∧ c ≤ 9223372036854775807 := by
  have h0 := h; rcases h.2 with ⟨hv, hn⟩ | ⟨g, cap, cur, hv, hb, hg, hnc, hm, hs', ht⟩
  · exact ⟨none, 0, by rw [hv, hn], ⟨rfl, fun h => by omega⟩, by omega, by omega⟩
  · subst hv; refine ⟨_, _, rfl, ⟨rfl, fun _ => ⟨g, 0, rfl, rfl, fun i hi => ?_⟩⟩, hnc, by unfold maxLen at hm; omega⟩; obtain ⟨p0, p1, p2, p3, p4⟩ := fxCells_at l i hi; unfold FixAt; simp only [Nat.zero_add]; refine ⟨?_, ?_, ?_, ?_, ?_⟩
    · rw [World.ownsRow.cellAt h0 (i * 5) (by omega)]; exact p0
    · rw [World.ownsRow.cellAt h0 (i * 5 + 1) (by omega)]; exact p1
    · rw [World.ownsRow.cellAt h0 (i * 5 + 2) (by omega)]; exact p2
    · rw [World.ownsRow.cellAt h0 (i * 5 + 3) (by omega)]; exact p3
    · rw [World.ownsRow.cellAt h0 (i * 5 + 4) (by omega)]; exact p4
theorem infoFix : (Tryz.prog.info? 152).map (fun i => (i.zero, i.size, i.bytes)) = some (some (.agg #[.int .i64 0, .int .i64 0, .int .i64 0, .int .i64 0, .int .i64 0]), 5, 40) := by kernel_rfl
theorem addAddr (b off j : Nat) : (⟨b, off, none⟩ : Addr).add j = ⟨b, off + j, none⟩ := by unfold Addr.add; split <;> simp_all
theorem cells_five_at (w : World) (t : TypeId) (a b c d e : Value) : ∀ (j : Nat) (u : Value), [a, b, c, d, e][j]? = some u → (w.alloc (.cells #[a, b, c, d, e] t)).cell? ((⟨w.heap.size, 0, none⟩ : Addr).add j) = some u := fun j u h => by
  rw [addAddr, Nat.zero_add, (Blk.new w t #[a, b, c, d, e]).cell j]
  simpa using h
end Go.Proofs.YtmafmebcgmegeaaGreatDoor
