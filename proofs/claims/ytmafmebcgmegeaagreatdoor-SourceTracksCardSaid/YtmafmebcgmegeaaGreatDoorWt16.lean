/- Texts Q1 Io Ip Iq Ir Is Q2 of the proof. -/
import Derived.Test.YtmafmebcgmegeaaGreatDoorWt15
import Derived.BigQuiet
import Derived.RangeFuncBox
import Derived.WalkMore
import Derived.Deep.MidRow
import Derived.Laws.CopyOwn
import Derived.OwnWalk
namespace Go.Proofs.YtmafmebcgmegeaaGreatDoor
open Go.RowKit Go.Sort
theorem srcSpeed_st (x : Int) (w : World) : Calls Tryz.prog 118 #[.int .i64 x] w fun e w' => e = .returned (.int .i64 (withinE x 1 1000)) ∧ w' = w := by
  go_enter Tryz.func118, Tryz.ntmps118
  go_wp2_with fail
  refine (within_any _ _ _ _).mono ?_
  rintro e w' ⟨rfl, rfl⟩
  go_wp2
  go_ret
  exact ⟨rfl, rfl⟩
theorem srcAlong_st (x : Int) (w : World) : Calls Tryz.prog 183 #[.int .i64 x] w fun e w' => e = .returned (.int .i64 (withinE x 0 400000)) ∧ w' = w := by
  go_enter Tryz.func183, Tryz.ntmps183
  go_wp2_with fail
  refine (within_any _ _ _ _).mono ?_
  rintro e w' ⟨rfl, rfl⟩
  go_wp2
  go_ret
  exact ⟨rfl, rfl⟩
theorem atMost_pt (A : Option Addr) (n c : Nat) (limit : Int) (w : World) :
    Calls Tryz.prog 214 #[.slice A n c, .int .i64 limit] w fun e w' => e = .returned (.int .i64 (atMostE n limit)) ∧ w' = w := by
  by_cases h : limit < (n : Int)
  · have hr : atMostE n limit = 5 := by simp [atMostE, h]
    rw [hr]; clear hr
    go_enter Tryz.func214, Tryz.ntmps214
    go_wp2
    go_ret
    exact ⟨rfl, rfl⟩
  · have hr : atMostE n limit = 0 := by simp [atMostE, h]
    rw [hr]; clear hr
    go_enter Tryz.func214, Tryz.ntmps214
    go_wp2
    go_ret
    exact ⟨rfl, rfl⟩
theorem atMost_step (A : Option Addr) (n c : Nat) (limit : Int) (w : World) :
    Calls Tryz.prog 182 #[.slice A n c, .int .i64 limit] w fun e w' => e = .returned (.int .i64 (atMostE n limit)) ∧ w' = w := by
  by_cases h : limit < (n : Int)
  · have hr : atMostE n limit = 5 := by simp [atMostE, h]
    rw [hr]; clear hr
    go_enter Tryz.func182, Tryz.ntmps182
    go_wp2
    go_ret
    exact ⟨rfl, rfl⟩
  · have hr : atMostE n limit = 0 := by simp [atMostE, h]
    rw [hr]; clear hr
    go_enter Tryz.func182, Tryz.ntmps182
    go_wp2
    go_ret
    exact ⟨rfl, rfl⟩
theorem atMost_flight (A : Option Addr) (n c : Nat) (limit : Int) (w : World) :
    Calls Tryz.prog 217 #[.slice A n c, .int .i64 limit] w fun e w' => e = .returned (.int .i64 (atMostE n limit)) ∧ w' = w := by
  by_cases h : limit < (n : Int)
  · have hr : atMostE n limit = 5 := by simp [atMostE, h]
    rw [hr]; clear hr
    go_enter Tryz.func217, Tryz.ntmps217
    go_wp2
    go_ret
    exact ⟨rfl, rfl⟩
  · have hr : atMostE n limit = 0 := by simp [atMostE, h]
    rw [hr]; clear hr
    go_enter Tryz.func217, Tryz.ntmps217
    go_wp2
    go_ret
    exact ⟨rfl, rfl⟩
theorem atMost_type (A : Option Addr) (n c : Nat) (limit : Int) (w : World) :
    Calls Tryz.prog 190 #[.slice A n c, .int .i64 limit] w fun e w' => e = .returned (.int .i64 (atMostE n limit)) ∧ w' = w := by
  by_cases h : limit < (n : Int)
  · have hr : atMostE n limit = 5 := by simp [atMostE, h]
    rw [hr]; clear hr
    go_enter Tryz.func190, Tryz.ntmps190
    go_wp2
    go_ret
    exact ⟨rfl, rfl⟩
  · have hr : atMostE n limit = 0 := by simp [atMostE, h]
    rw [hr]; clear hr
    go_enter Tryz.func190, Tryz.ntmps190
    go_wp2
    go_ret
    exact ⟨rfl, rfl⟩
theorem atMost_fixE (A : Option Addr) (n c : Nat) (limit : Int) (w : World) :
    Calls Tryz.prog 122 #[.slice A n c, .int .i64 limit] w fun e w' => e = .returned (.int .i64 (atMostE n limit)) ∧ w' = w := by
  by_cases h : limit < (n : Int)
  · have hr : atMostE n limit = 5 := by simp [atMostE, h]
    rw [hr]; clear hr
    go_enter Tryz.func122, Tryz.ntmps122
    go_wp2
    go_ret
    exact ⟨rfl, rfl⟩
  · have hr : atMostE n limit = 0 := by simp [atMostE, h]
    rw [hr]; clear hr
    go_enter Tryz.func122, Tryz.ntmps122
    go_wp2
    go_ret
    exact ⟨rfl, rfl⟩
/-- The error of a list that must have from 2 on. -/
def lengthE (n : Nat) (limit : Int) : Int := if n < 2 then 16 else atMostE n limit
theorem length_pt (A : Option Addr) (n c : Nat) (limit : Int) (w : World) :
    Calls Tryz.prog 178 #[.slice A n c, .int .i64 limit] w fun e w' => e = .returned (.int .i64 (lengthE n limit)) ∧ w' = w := by
  by_cases h : n < 2
  · have hr : lengthE n limit = 16 := by simp [lengthE, h]
    have h2 : (n : Int) < 2 := by omega
    rw [hr]; clear hr h
    go_enter Tryz.func178, Tryz.ntmps178
    go_wp2
    go_ret
    exact ⟨rfl, rfl⟩
  · have hr : lengthE n limit = atMostE n limit := by simp [lengthE, h]
    have h2 : ¬ (n : Int) < 2 := by omega
    rw [hr]; clear hr h
    go_enter Tryz.func178, Tryz.ntmps178
    go_wp2_with fail
    refine (atMost_pt A n c limit _).mono ?_
    rintro e w' ⟨rfl, rfl⟩
    go_wp2
    go_ret
    exact ⟨rfl, rfl⟩
theorem length_step (A : Option Addr) (n c : Nat) (limit : Int) (w : World) :
    Calls Tryz.prog 132 #[.slice A n c, .int .i64 limit] w fun e w' => e = .returned (.int .i64 (lengthE n limit)) ∧ w' = w := by
  by_cases h : n < 2
  · have hr : lengthE n limit = 16 := by simp [lengthE, h]
    have h2 : (n : Int) < 2 := by omega
    rw [hr]; clear hr h
    go_enter Tryz.func132, Tryz.ntmps132
    go_wp2
    go_ret
    exact ⟨rfl, rfl⟩
  · have hr : lengthE n limit = atMostE n limit := by simp [lengthE, h]
    have h2 : ¬ (n : Int) < 2 := by omega
    rw [hr]; clear hr h
    go_enter Tryz.func132, Tryz.ntmps132
    go_wp2_with fail
    refine (atMost_step A n c limit _).mono ?_
    rintro e w' ⟨rfl, rfl⟩
    go_wp2
    go_ret
    exact ⟨rfl, rfl⟩
theorem length_fix (A : Option Addr) (n c : Nat) (limit : Int) (w : World) :
    Calls Tryz.prog 125 #[.slice A n c, .int .i64 limit] w fun e w' => e = .returned (.int .i64 (lengthE n limit)) ∧ w' = w := by
  by_cases h : n < 2
  · have hr : lengthE n limit = 16 := by simp [lengthE, h]
    have h2 : (n : Int) < 2 := by omega
    rw [hr]; clear hr h
    go_enter Tryz.func125, Tryz.ntmps125
    go_wp2
    go_ret
    exact ⟨rfl, rfl⟩
  · have hr : lengthE n limit = atMostE n limit := by simp [lengthE, h]
    have h2 : ¬ (n : Int) < 2 := by omega
    rw [hr]; clear hr h
    go_enter Tryz.func125, Tryz.ntmps125
    go_wp2_with fail
    refine (atMost_fixE A n c limit _).mono ?_
    rintro e w' ⟨rfl, rfl⟩
    go_wp2
    go_ret
    exact ⟨rfl, rfl⟩
theorem that_any (b : Bool) (x : Int) (w : World) :
    Calls Tryz.prog 193 #[.bool b, .int .i64 x] w fun e w' => e = .returned (.int .i64 (if b then 0 else x)) ∧ w' = w := by
  cases b
  · simp only [Bool.false_eq_true, if_false]
    go_enter Tryz.func193, Tryz.ntmps193
    go_wp2
    go_ret
    exact ⟨rfl, rfl⟩
  · simp only [if_true]
    go_enter Tryz.func193, Tryz.ntmps193
    go_wp2
    go_ret
    exact ⟨rfl, rfl⟩
theorem isNaN_int (x : Int) (w : World) : Calls Tryz.prog 216 #[.int .i64 x] w fun e w' => e = .returned (.bool false) ∧ w' = w := by
  go_enter Tryz.func216, Tryz.ntmps216
  go_wp2
  go_ret
  exact ⟨rfl, rfl⟩
/-- The order of two numbers. -/
def cmpI (a b : Int) : Int := if a < b then -1 else if b < a then 1 else 0
theorem compare_int (a b : Int) (w : World) : Calls Tryz.prog 189 #[.int .i64 a, .int .i64 b] w fun e w' => e = .returned (.int .i64 (cmpI a b)) ∧ w' = w := by
  have HR : Hid (cmpI a b = if a < b then -1 else if b < a then 1 else 0) := rfl
  rcases Int.lt_trichotomy a b with h | h | h
  · have hr : cmpI a b = -1 := by unfold cmpI; rw [if_pos h]
    rw [hr]; clear hr HR
    go_enter Tryz.func189, Tryz.ntmps189
    go_wp2_with fail
    refine (isNaN_int a _).mono ?_
    rintro e w1 ⟨rfl, rfl⟩
    go_wp2_with fail
    refine (isNaN_int b _).mono ?_
    rintro e w2 ⟨rfl, rfl⟩
    go_wp2
    go_ret
    exact ⟨rfl, rfl⟩
  · subst h
    have hr : cmpI a a = 0 := by unfold cmpI; rw [if_neg (by omega), if_neg (by omega)]
    have h1 : ¬ a < a := by omega
    rw [hr]; clear hr HR
    go_enter Tryz.func189, Tryz.ntmps189
    go_wp2_with fail
    refine (isNaN_int a _).mono ?_
    rintro e w1 ⟨rfl, rfl⟩
    go_wp2_with fail
    refine (isNaN_int a _).mono ?_
    rintro e w2 ⟨rfl, rfl⟩
    go_wp2
    go_ret
    exact ⟨rfl, rfl⟩
  · have hr : cmpI a b = 1 := by unfold cmpI; rw [if_neg (by omega), if_pos h]
    have h1 : ¬ a < b := by omega
    rw [hr]; clear hr HR
    go_enter Tryz.func189, Tryz.ntmps189
    go_wp2_with fail
    refine (isNaN_int a _).mono ?_
    rintro e w1 ⟨rfl, rfl⟩
    go_wp2_with fail
    refine (isNaN_int b _).mono ?_
    rintro e w2 ⟨rfl, rfl⟩
    go_wp2
    go_ret
    exact ⟨rfl, rfl⟩
theorem kind_any (n : Nat) (w : World) : Calls Tryz.prog 148 #[.int .i64 n] w fun e w' => e = .returned (.int .i64 (min n 4 : Nat)) ∧ w' = w := by
  rcases Nat.lt_or_ge 4 n with h | h
  · have hr : (min n 4 : Nat) = 4 := by omega
    have h1 : min (n : Int) 4 = 4 := by omega
    rw [hr]; clear hr
    go_enter Tryz.func148, Tryz.ntmps148
    go_wp2
    go_ret
    exact ⟨ret_int (by omega), rfl⟩
  · have hr : (min n 4 : Nat) = n := by omega
    have h1 : min (n : Int) 4 = n := by omega
    rw [hr]; clear hr
    go_enter Tryz.func148, Tryz.ntmps148
    go_wp2
    go_ret
    exact ⟨ret_int (by omega), rfl⟩
theorem clip_fix (b off n c : Nat) (w : World) (h : n ≤ c) (hc : c ≤ 9223372036854775807) : Calls Tryz.prog 120 #[.slice (some ⟨b, off, none⟩) n c] w fun e w' => e = .returned (.slice (some ⟨b, off, none⟩) n n) ∧ w' = w := by
  have h1 : (0 : Int) ≤ (n : Int) := by omega
  have h2 : (n : Int) ≤ (c : Int) := by omega
  go_enter Tryz.func120, Tryz.ntmps120
  go_wp2
  go_ret
  exact ⟨rfl, rfl⟩
/-- The error of a step of a procedure. -/
def stepE (s : Bell.Sp) : Int := firstE [withinE s.d 0 400000, withinE s.h 0 20000, withinE s.p 1 100]
def spV (s : Bell.Sp) : Array Value := #[.int .i64 s.d, .int .i64 s.h, .int .i64 s.p]
set_option maxHeartbeats 2000000 in
set_option maxRecDepth 100000 in
theorem stepCheck_any (s : Bell.Sp) (w : World) :
    Calls Tryz.prog 133 #[.agg (spV s)] w fun e w' => e = .returned (.int .i64 (stepE s)) ∧ Below w.heap.size w w' := by
  unfold spV
  go_enter Tryz.func133, Tryz.ntmps133
  go_wp2_with fail
  have HB : Hid (Below w.heap.size w w) := Below.refl _ _
  obtain ⟨w0, hw0⟩ : ∃ W, W = (w.alloc (.cells #[.int .i64 s.d, .int .i64 s.h, .int .i64 s.p] 166)) := ⟨_, rfl⟩
  rw [← hw0]
  have B : Hid (Blk w0 (w.heap.size) 166 #[.int .i64 s.d, .int .i64 s.h, .int .i64 s.p]) := by show Blk _ _ _ _; rw [hw0]; exact Blk.new _ _ _
  have hb0 : Below w.heap.size w w0 := by rw [hw0]; exact ((Below.refl _ _).alloc (Nat.le_refl _) _)
  obtain ⟨g, hg⟩ : ∃ g, g = w.heap.size := ⟨_, rfl⟩
  have HGw0 : Hid (g = w.heap.size) := hg
  rw [← hg] at B
  try rw [← hg]
  clear hw0 hg
  replace HB := Lib.hid (HB.out.trans (hb0.mono HB.out.size))
  clear hb0
  have a0 := fun d os => cell_regrown (B.out.cell 0) d os
  have a1 := fun d os => cell_regrown (B.out.cell 1) d os
  have a2 := fun d os => cell_regrown (B.out.cell 2) d os
  have c0 := fun nd ns => Calls.regrown_of (Calls.grow_same (srcAlong_st s.d (grow (redrawn w0 nd) ns)))
  have c1 := fun nd ns => Calls.regrown_of (Calls.grow_same (srcHeight_st s.h (grow (redrawn w0 nd) ns)))
  have c2 := fun nd ns => Calls.regrown_of (Calls.grow_same (srcPower_st s.p (grow (redrawn w0 nd) ns)))
  refine wp_region_below_tail 9 (by kernel_rfl) (by kernel_rfl) ?_
  simp only [List.take_succ_cons, List.take_zero, List.drop_succ_cons, List.drop_zero]
  iterate 2 (quiet_step (fail))
  quiet_step (exact c0 _ _)
  iterate 2 (quiet_step (fail))
  quiet_step (exact c1 _ _)
  iterate 2 (quiet_step (fail))
  quiet_step (exact c2 _ _)
  refine wpQuiet_nil ?_
  intro w1 hq1
  obtain ⟨⟨dq, osq⟩, hq2⟩ := hq1
  have hb1 := below_regrown w0 dq osq
  rw [← hq2] at hb1
  clear hq2
  replace HB := Lib.hid (HB.out.trans (hb1.mono HB.out.size))
  clear hb1
  clear a0 a1 a2 c0 c1 c2 B
  go_wp2_with fail
  refine (first3 _ _ (withinE s.d 0 400000) (withinE s.h 0 20000) (withinE s.p 1 100) _ (by go_simp) (by go_simp) (by go_simp)).mono ?_
  rintro e w2 ⟨rfl, rfl⟩
  go_wp2
  go_ret
  exact ⟨rfl, HB.out.alloc HB.out.size _⟩
end Go.Proofs.YtmafmebcgmegeaaGreatDoor

namespace Go.Proofs.YtmafmebcgmegeaaGreatDoor
open Go.RowKit Go.Sort
/-- What the reference's When answers, by a letter. -/
theorem refWhen_let (b : Bool) (x : Int) (w : World) :
    Calls Tryz.prog 105 #[.bool b, .int .i64 x] w fun e w' => ∃ a : Int, e = .returned (.int .i64 a) ∧ Hid (a = if b then x else 0) ∧ w' = w :=
  (refWhen_any b x w).mono fun _ _ h => ⟨_, h.1, rfl, h.2.symm⟩
theorem refTick_st (x : Int) (w : World) : Calls Tryz.prog 52 #[.int .i64 x] w fun e w' => e = .returned (.int .i64 (withinE x 0 100000000)) ∧ w' = w := by
  go_enter Tryz.func52, Tryz.ntmps52
  go_wp2_with fail
  refine (refCheckRange_st _ _ _ _).mono ?_
  rintro e w' ⟨rfl, rfl⟩
  go_wp2
  go_ret
  exact ⟨rfl, rfl⟩
theorem refPower_st (x : Int) (w : World) : Calls Tryz.prog 22 #[.int .i64 x] w fun e w' => e = .returned (.int .i64 (withinE x 1 100)) ∧ w' = w := by
  go_enter Tryz.func22, Tryz.ntmps22
  go_wp2_with fail
  refine (refCheckRange_st _ _ _ _).mono ?_
  rintro e w' ⟨rfl, rfl⟩
  go_wp2
  go_ret
  exact ⟨rfl, rfl⟩
set_option maxHeartbeats 400000 in
set_option maxRecDepth 100000 in
theorem refPlace_any (x y z : Int) (w : World) :
    Calls Tryz.prog 26 #[.agg #[.int .i64 x, .int .i64 y, .int .i64 z]] w fun e w' => e = .returned (.int .i64 (placeE x y z)) ∧ Below w.heap.size w w' := by
  go_enter Tryz.func26, Tryz.ntmps26
  go_wp2_with fail
  refine wp_region_still_tail 9 (by kernel_rfl) (by kernel_rfl) ?_
  simp only [List.take_succ_cons, List.take_zero, List.drop_succ_cons, List.drop_zero]
  change wpStill _ _ (World.drew _) _ _ _
  repeat still_step
  still_call (refCheckRange_st _ _ _ _)
  repeat still_step
  still_call (refCheckRange_st _ _ _ _)
  repeat still_step
  still_call (refCheckRange_st _ _ _ _)
  repeat still_step
  refine wpStill_nil ?_
  change wpList _ _ _ _ _ (World.drew _)
  go_wp2_with fail
  refine (refFirst3 _ _ (withinE x (-100000) 100000) (withinE y (-100000) 100000) (withinE z 0 20000) _ (by go_simp) (by go_simp) (by go_simp)).mono ?_
  rintro e w1 ⟨rfl, rfl⟩
  go_wp2
  go_ret
  exact ⟨rfl, (((Below.refl _ _).alloc (Nat.le_refl _) _).drew).alloc (by simp) _⟩
end Go.Proofs.YtmafmebcgmegeaaGreatDoor

namespace Go.Proofs.YtmafmebcgmegeaaGreatDoor
open Go.RowKit Go.Sort
/-- A slice of points in memory, empty perhaps. -/
def TrAt (w : World) (A : Option Addr) (n : Nat) (l : List Bell.Fx) : Prop := l.length = n ∧ (0 < n → ∃ b off, A = some ⟨b, off, none⟩ ∧ FixesAt w b off n l)
theorem TrAt.keep {w w' : World} {A : Option Addr} {n : Nat} {l : List Bell.Fx} (h : TrAt w A n l) (hb : Below w.heap.size w w') : TrAt w' A n l :=
  ⟨h.1, fun h0 => by obtain ⟨b, off, e, hf⟩ := h.2 h0; exact ⟨b, off, e, hf.keep hb⟩⟩
theorem refWhen_as {b : Bool} {x a : Int} (w : World) (ha : a = if b then x else 0) :
    Calls Tryz.prog 105 #[.bool b, .int .i64 x] w fun e w' => e = .returned (.int .i64 a) ∧ w' = w :=
  (refWhen_any b x w).mono fun _ _ h => ⟨by rw [h.1, ha], h.2.symm⟩
end Go.Proofs.YtmafmebcgmegeaaGreatDoor

namespace Go.Proofs.YtmafmebcgmegeaaGreatDoor
open Go.RowKit Go.Sort
/-- Settings in memory, none perhaps. -/
def SetsO (w : World) (A : Option Addr) (n : Nat) (s : Bell.Sets) : Prop := s.length = n ∧ (0 < n → ∃ b off, A = some ⟨b, off, none⟩ ∧ SetsAt w b off n s)
theorem SetsO.keep {w w' : World} {A : Option Addr} {n : Nat} {s : Bell.Sets} (h : SetsO w A n s) (hb : Below w.heap.size w w') : SetsO w' A n s :=
  ⟨h.1, fun h0 => by obtain ⟨b, off, e, hf⟩ := h.2 h0; exact ⟨b, off, e, hf.keep hb⟩⟩
/-- A type of the reference in memory, valid or not. -/
structure RTy (w : World) (cs : Array Value) (nm : ByteArray) (sh : List Int) (T : Bell.Ty) (sa : Option Addr) (sn sc : Nat) (qa : Option Addr) (qn qc : Nat) (ga : Option Addr) (gn gc : Nat) : Prop where
  cells : cs = tyV nm sa sn sc T qa qn qc ga gn gc
  shares : IntsAt w sa sn sh
  squares : IntsAt w qa qn T.squares
  sets : SetsO w ga gn T.sets
theorem RTy.keep {w w' : World} {cs : Array Value} {nm : ByteArray} {sh : List Int} {T : Bell.Ty} {sa : Option Addr} {sn sc : Nat} {qa : Option Addr} {qn qc : Nat} {ga : Option Addr} {gn gc : Nat} (h : RTy w cs nm sh T sa sn sc qa qn qc ga gn gc) (hb : Below w.heap.size w w') : RTy w' cs nm sh T sa sn sc qa qn qc ga gn gc :=
  ⟨h.cells, h.shares.keep hb, h.squares.keep hb, h.sets.keep hb⟩
theorem RTy.c0 {w : World} {cs : Array Value} {nm : ByteArray} {sh : List Int} {T : Bell.Ty} {sa : Option Addr} {sn sc : Nat} {qa : Option Addr} {qn qc : Nat} {ga : Option Addr} {gn gc : Nat} (h : RTy w cs nm sh T sa sn sc qa qn qc ga gn gc) : cs[0]? = some (.string nm) := by rw [h.cells]; rfl
theorem RTy.c1 {w : World} {cs : Array Value} {nm : ByteArray} {sh : List Int} {T : Bell.Ty} {sa : Option Addr} {sn sc : Nat} {qa : Option Addr} {qn qc : Nat} {ga : Option Addr} {gn gc : Nat} (h : RTy w cs nm sh T sa sn sc qa qn qc ga gn gc) : cs[1]? = some (.slice sa sn sc) := by rw [h.cells]; rfl
theorem RTy.c10 {w : World} {cs : Array Value} {nm : ByteArray} {sh : List Int} {T : Bell.Ty} {sa : Option Addr} {sn sc : Nat} {qa : Option Addr} {qn qc : Nat} {ga : Option Addr} {gn gc : Nat} (h : RTy w cs nm sh T sa sn sc qa qn qc ga gn gc) : cs[10]? = some (.int .i64 T.side) := by rw [h.cells]; rfl
theorem RTy.c11 {w : World} {cs : Array Value} {nm : ByteArray} {sh : List Int} {T : Bell.Ty} {sa : Option Addr} {sn sc : Nat} {qa : Option Addr} {qn qc : Nat} {ga : Option Addr} {gn gc : Nat} (h : RTy w cs nm sh T sa sn sc qa qn qc ga gn gc) : cs[11]? = some (.slice qa qn qc) := by rw [h.cells]; rfl
theorem RTy.c12 {w : World} {cs : Array Value} {nm : ByteArray} {sh : List Int} {T : Bell.Ty} {sa : Option Addr} {sn sc : Nat} {qa : Option Addr} {qn qc : Nat} {ga : Option Addr} {gn gc : Nat} (h : RTy w cs nm sh T sa sn sc qa qn qc ga gn gc) : cs[12]? = some (.slice ga gn gc) := by rw [h.cells]; rfl
end Go.Proofs.YtmafmebcgmegeaaGreatDoor

namespace Go.Proofs.YtmafmebcgmegeaaGreatDoor
open Go.RowKit Go.Sort
/-- What comes behind a region, once for all its ends. -/
theorem via3 {A B : World → Nat → Prop} {C : World → Prop} {G : Prop} (M : World → Nat → Nat → Prop) (h : (∀ (w2 : World) (a b : Nat), A w2 a → B w2 b → C w2 → M w2 a b) → G) (k : ∀ (w2 : World) (a b : Nat), A w2 a → B w2 b → C w2 → M w2 a b) : G := h k
end Go.Proofs.YtmafmebcgmegeaaGreatDoor

namespace Go.Proofs.YtmafmebcgmegeaaGreatDoor
open Go.RowKit
def fxCells (l : List Bell.Fx) : List Value := l.flatMap fun p => [.int .i64 p.t, .int .i64 p.x, .int .i64 p.y, .int .i64 p.z, .int .i64 p.p]
theorem fxCells_len (l : List Bell.Fx) : (fxCells l).length = l.length * 5 := by
  induction l with
  | nil => rfl
  | cons p l ih => simp only [fxCells, List.flatMap_cons, List.length_append, List.length_cons, List.length_nil] at *; omega
theorem fxCells_snoc (l : List Bell.Fx) (p : Bell.Fx) : fxCells (l ++ [p]) = fxCells l ++ [.int .i64 p.t, .int .i64 p.x, .int .i64 p.y, .int .i64 p.z, .int .i64 p.p] := by simp [fxCells]
theorem fxCells_at (l : List Bell.Fx) (i : Nat) (hi : i < l.length) : (fxCells l)[i * 5]? = some (.int .i64 (Bell.fxAt l i).t) ∧ (fxCells l)[i * 5 + 1]? = some (.int .i64 (Bell.fxAt l i).x) ∧ (fxCells l)[i * 5 + 2]? = some (.int .i64 (Bell.fxAt l i).y) ∧ (fxCells l)[i * 5 + 3]? = some (.int .i64 (Bell.fxAt l i).z) ∧ (fxCells l)[i * 5 + 4]? = some (.int .i64 (Bell.fxAt l i).p) := by
  induction l generalizing i with
  | nil => simp at hi
  | cons p l ih =>
    cases i with
    | zero => exact ⟨rfl, rfl, rfl, rfl, rfl⟩
    | succ i =>
      have := ih i (by simpa using hi)
      have e : fxCells (p :: l) = Value.int .i64 p.t :: Value.int .i64 p.x :: Value.int .i64 p.y :: Value.int .i64 p.z :: Value.int .i64 p.p :: fxCells l := rfl
      have ef : Bell.fxAt (p :: l) (i + 1) = Bell.fxAt l i := rfl
      rw [e, ef, show (i + 1) * 5 = i * 5 + 1 + 1 + 1 + 1 + 1 by omega]
      simpa using this
/-- A track of the call's own. -/
def OwnT (w : World) (base : Nat) (v : Value) (l : List Bell.Fx) : Prop := w.ownsRow base 152 5 v l.length (fxCells l)
theorem OwnT.at_ {w : World} {base : Nat} {v : Value} {l : List Bell.Fx} (h : OwnT w base v l) : ∃ A c, v = .slice A l.length c ∧ TrAt w A l.length l ∧ l.length ≤ c ∧ c ≤ 9223372036854775807 := by
  have h0 := h
  rcases h.2 with ⟨hv, hn⟩ | ⟨g, cap, cur, hv, hb, hg, hnc, hm, hs', ht⟩
  · exact ⟨none, 0, by rw [hv, hn], ⟨rfl, fun h => by omega⟩, by omega, by omega⟩
  · subst hv
    refine ⟨_, _, rfl, ⟨rfl, fun _ => ⟨g, 0, rfl, rfl, fun i hi => ?_⟩⟩, hnc, by unfold maxLen at hm; omega⟩
    obtain ⟨p0, p1, p2, p3, p4⟩ := fxCells_at l i hi
    unfold FixAt
    simp only [Nat.zero_add]
    refine ⟨?_, ?_, ?_, ?_, ?_⟩
    · rw [World.ownsRow.cellAt h0 (i * 5) (by omega)]; exact p0
    · rw [World.ownsRow.cellAt h0 (i * 5 + 1) (by omega)]; exact p1
    · rw [World.ownsRow.cellAt h0 (i * 5 + 2) (by omega)]; exact p2
    · rw [World.ownsRow.cellAt h0 (i * 5 + 3) (by omega)]; exact p3
    · rw [World.ownsRow.cellAt h0 (i * 5 + 4) (by omega)]; exact p4
theorem infoFix : (Tryz.prog.info? 152).map (fun i => (i.zero, i.size, i.bytes)) = some (some (.agg #[.int .i64 0, .int .i64 0, .int .i64 0, .int .i64 0, .int .i64 0]), 5, 40) := by kernel_rfl
theorem addAddr (b off j : Nat) : (⟨b, off, none⟩ : Addr).add j = ⟨b, off + j, none⟩ := by unfold Addr.add; split <;> simp_all
theorem cells_five_at (w : World) (t : TypeId) (a b c d e : Value) : ∀ (j : Nat) (u : Value), [a, b, c, d, e][j]? = some u → (w.alloc (.cells #[a, b, c, d, e] t)).cell? ((⟨w.heap.size, 0, none⟩ : Addr).add j) = some u := fun j u h => by
  rw [addAddr, Nat.zero_add, (Blk.new w t #[a, b, c, d, e]).cell j]
  simpa using h
end Go.Proofs.YtmafmebcgmegeaaGreatDoor

namespace Go.Proofs.YtmafmebcgmegeaaGreatDoor
open Go.RowKit Go.Sort
theorem run_copy_rows {P : Program} (w : World) (dT sT ty elem : TypeId) (g o n dCap : Nat) (a : Addr) (sCap s : Nat) (cur : Array Value) (t : TypeId) (cs : List Value)
    (hu : P.underlying dT = some (.slice elem)) (hs : (P.info? elem).map (·.size) = some s)
    (hg : w.heap[g]? = some (.cells cur t (0, 0))) (hn : cs.length = n * s)
    (hsrc : ∀ j v, cs[j]? = some v → w.cell? (a.add j) = some v) (hfit : o + cs.length ≤ cur.size) (h1 : ∀ v ∈ cs, v.oneCell' = true) :
    (Builtin.copy_ #[dT, sT] ty #[.slice (some ⟨g, o, none⟩) n dCap, .slice (some a) n sCap]).run P w =
      .ok (goInt n) (w.setRow g (cur.toList.take o ++ cs ++ cur.toList.drop (o + cs.length)).toArray) := by
  have hl := run_loadCells_list (P := P) w a cs hsrc
  have hst := run_storeCells_at P g o t cs 0 cur w hg (by simpa using hfit) h1
  have hmin : Nat.min n n = n := Nat.min_self n
  cases hq : P.info? elem with
  | none => simp [hq] at hs
  | some i =>
    have hi : i.size = s := by simpa [hq] using hs
    simp [Builtin.copy_, run_underlying hu, Builtin.lenOf, Builtin.firstCells, sizeOf, typeInfo, hq, hi, hmin, ← hn, hl, hst]
theorem own_full {w : World} {base size g n : Nat} {e : TypeId} {xs : List Value} (h : w.ownsRow base e size (.slice (some ⟨g, 0, none⟩) n n) n xs) : ∃ cur : Array Value, Blk w g e cur ∧ cur.size = n * size ∧ base ≤ g ∧ cur.toList = xs := by
  obtain ⟨hx, h⟩ := h
  rcases h with ⟨h, _⟩ | ⟨g', cap, cur, hv, hb, hg, hn, hm, hs, ht⟩
  · cases h
  · injection hv with h1 h2 h3
    injection h1 with h1
    injection h1 with h1
    subst h1 h3
    refine ⟨cur, hg, hs, hb, ?_⟩
    rw [← ht, List.take_of_length_le (by simp [hs])]
theorem firstE_02 (x : Int) : firstE [0, x] = x := by
  unfold firstE
  rw [if_pos rfl]
  unfold firstE
  split
  · rename_i h; rw [h]; rfl
  · rfl
set_option maxHeartbeats 1000000 in
set_option maxRecDepth 100000 in
theorem flyable_any (a b : Bell.Fx) (v : Int) (w : World) (ha : Bell.GoodFx a) (hb : Bell.GoodFx b) (h0 : 0 ≤ b.t - a.t) (h1 : b.t - a.t ≤ 1000) (v0 : 1 ≤ v) (v1 : v ≤ 1000) :
    Calls Tryz.prog 119 #[.agg (fxV a), .agg (fxV b), .int .i64 v] w fun e w' => e = .returned (.bool (decide (Bell.flies v a b))) ∧ Below w.heap.size w w' := by
  obtain ⟨at0, at1, ax0, ax1, ay0, ay1, az0, az1, ap0, ap1⟩ := ha
  obtain ⟨bt0, bt1, bx0, bx1, by0, by1, bz0, bz1, bp0, bp1⟩ := hb
  have m1 := mul_in (a := v) (b := b.t - a.t) (m := 1000) (n := 1000) (by omega) (by omega) (by omega) (by omega)
  have w1' : IntKind.i64.wrap (b.t - a.t) = b.t - a.t := IntWalk.i64_in _ (by omega)
  have w2' : IntKind.i64.wrap (v * (b.t - a.t)) = v * (b.t - a.t) := IntWalk.i64_in _ (by omega)
  obtain ⟨W, hW⟩ : ∃ W, W = v * (b.t - a.t) := ⟨_, rfl⟩
  have m2 := sq_in (a := W) (m := 1000000) (by omega) (by omega)
  have w3' : IntKind.i64.wrap (W * W) = W * W := IntWalk.i64_in _ (by omega)
  have HR : Hid (decide (Bell.flies v a b) = decide ((b.x - a.x) * (b.x - a.x) + (b.y - a.y) * (b.y - a.y) + (b.z - a.z) * (b.z - a.z) ≤ W * W)) := by show _ = _; rw [hW]; rfl
  rw [← hW] at w2'
  have w4' : v * (b.t - a.t) = W := hW.symm
  have HM := Lib.hid (fun X => minus_any b.x b.y b.z a.x a.y a.z X (by omega) (by omega) (by omega) (by omega) (by omega) (by omega))
  have HS := Lib.hid (fun X => square_any (b.x - a.x) (b.y - a.y) (b.z - a.z) X (by omega) (by omega) (by omega))
  clear hW m1 m2
  unfold fxV
  go_enter Tryz.func119, Tryz.ntmps119
  go_upto_region 1 with fail
  have HB : Hid (Below w.heap.size w w) := Below.refl _ _
  obtain ⟨wa, hwa⟩ : ∃ W, W = ((w.alloc (.cells #[.int .i64 a.t, .int .i64 a.x, .int .i64 a.y, .int .i64 a.z, .int .i64 a.p] 152)).alloc (.cells #[.int .i64 b.t, .int .i64 b.x, .int .i64 b.y, .int .i64 b.z, .int .i64 b.p] 152)) := ⟨_, rfl⟩
  rw [← hwa]
  have A : Hid (Blk wa (w.heap.size) 152 #[.int .i64 a.t, .int .i64 a.x, .int .i64 a.y, .int .i64 a.z, .int .i64 a.p]) := by show Blk _ _ _ _; rw [hwa]; exact (Blk.new _ _ _).alloc _
  have B : Hid (Blk wa (w.heap.size + 1) 152 #[.int .i64 b.t, .int .i64 b.x, .int .i64 b.y, .int .i64 b.z, .int .i64 b.p]) := by show Blk _ _ _ _; rw [hwa]; exact Blk.at_size _ _ (by simp)
  have hb1 : Below w.heap.size w wa := by rw [hwa]; exact (((Below.refl _ _).alloc (Nat.le_refl _) _).alloc (by simp) _)
  obtain ⟨g1, hg1⟩ : ∃ g, g = w.heap.size := ⟨_, rfl⟩
  obtain ⟨g2, hg2⟩ : ∃ g, g = w.heap.size + 1 := ⟨_, rfl⟩
  have HGwa : Hid (g1 = w.heap.size ∧ g2 = w.heap.size + 1) := ⟨hg1, hg2⟩
  rw [← hg2] at B
  try rw [← hg2]
  rw [← hg1] at A
  try rw [← hg1]
  clear hwa hg1 hg2
  replace HB := Lib.hid (HB.out.trans (hb1.mono HB.out.size))
  clear hb1
  have AA := A.out
  have BB := B.out
  have ac0 := AA.cell 0; have af0 := AA.frozen 0; have ac1 := AA.cell 1; have af1 := AA.frozen 1; have ac2 := AA.cell 2; have af2 := AA.frozen 2; have ac3 := AA.cell 3; have af3 := AA.frozen 3; have ac4 := AA.cell 4; have af4 := AA.frozen 4
  simp only [List.getElem?_toArray, List.getElem?_cons_zero, List.getElem?_cons_succ] at ac0 ac1 ac2 ac3 ac4
  clear AA
  have bc0 := BB.cell 0; have bf0 := BB.frozen 0; have bc1 := BB.cell 1; have bf1 := BB.frozen 1; have bc2 := BB.cell 2; have bf2 := BB.frozen 2; have bc3 := BB.cell 3; have bf3 := BB.frozen 3; have bc4 := BB.cell 4; have bf4 := BB.frozen 4
  simp only [List.getElem?_toArray, List.getElem?_cons_zero, List.getElem?_cons_succ] at bc0 bc1 bc2 bc3 bc4
  clear BB
  clear A B
  go_wp2_with fail
  refine (HM.out _).mono ?_
  rintro e wb ⟨rfl, hb2⟩
  replace HB := Lib.hid (HB.out.trans (hb2.mono HB.out.size))
  clear hb2
  go_wp2_with fail
  refine (HS.out _).mono ?_
  rintro e wc ⟨rfl, hb3⟩
  replace HB := Lib.hid (HB.out.trans (hb3.mono HB.out.size))
  clear hb3
  go_wp2_with fail
  refine (ascending_any _ _ _).mono ?_
  rintro e wd ⟨rfl, hb4⟩
  replace HB := Lib.hid (HB.out.trans (hb4.mono HB.out.size))
  clear hb4
  go_wp2
  go_ret
  exact ⟨ret_bool HR.out.symm, HB.out⟩
/-! The points that are kept, one after the other. -/
theorem keep_snoc (v : Int) (p : Bell.Fx) : ∀ (l : List Bell.Fx) (a : Bell.Fx), Bell.keep v a (l ++ [p]) = if Bell.flies v (Bell.fxAt (a :: Bell.keep v a l) (Bell.keep v a l).length) p then Bell.keep v a l ++ [p] else Bell.keep v a l
  | [], a => by simp [Bell.keep, Bell.fxAt]
  | b :: l, a => by
    by_cases h : Bell.flies v a b
    · have ih := keep_snoc v p l b
      simp only [List.cons_append, Bell.keep, if_pos h, ih]
      have e : Bell.fxAt (a :: b :: Bell.keep v b l) (b :: Bell.keep v b l).length = Bell.fxAt (b :: Bell.keep v b l) (Bell.keep v b l).length := rfl
      rw [e]
      split <;> rfl
    · simp only [List.cons_append, Bell.keep, if_neg h, keep_snoc v p l a]
theorem repair_step {v : Int} {l : List Bell.Fx} {j : Nat} (h : j + 1 < l.length) : Bell.repair v (l.take (j + 2)) = if Bell.flies v (Bell.fxAt (Bell.repair v (l.take (j + 1))) ((Bell.repair v (l.take (j + 1))).length - 1)) (Bell.fxAt l (j + 1)) then Bell.repair v (l.take (j + 1)) ++ [Bell.fxAt l (j + 1)] else Bell.repair v (l.take (j + 1)) := by
  cases l with
  | nil => simp at h
  | cons a t =>
    have ht : j < t.length := by simpa using h
    have e1 : (a :: t).take (j + 1) = a :: t.take j := rfl
    have e2 : (a :: t).take (j + 2) = a :: (t.take j ++ [Bell.fxAt t j]) := by
      show a :: t.take (j + 1) = _
      have : t[j]? = some (Bell.fxAt t j) := by simp [Bell.fxAt, ht]
      rw [List.take_add_one, this]
      rfl
    have e3 : Bell.fxAt (a :: t) (j + 1) = Bell.fxAt t j := rfl
    have e4 : (Bell.repair v (a :: t.take j)).length - 1 = (Bell.keep v a (t.take j)).length := by simp [Bell.repair]
    rw [e1, e2, e3, e4]
    have e5 : Bell.repair v (a :: (t.take j ++ [Bell.fxAt t j])) = a :: Bell.keep v a (t.take j ++ [Bell.fxAt t j]) := rfl
    have e6 : Bell.repair v (a :: t.take j) = a :: Bell.keep v a (t.take j) := rfl
    rw [e5, e6, keep_snoc]
    split <;> rfl
theorem fxAt_mem {l : List Bell.Fx} {i : Nat} (h : i < l.length) : Bell.fxAt l i ∈ l := by simp [Bell.fxAt, h]
theorem mem_fxAt {l : List Bell.Fx} {p : Bell.Fx} (h : p ∈ l) : ∃ i, i < l.length ∧ Bell.fxAt l i = p := by
  obtain ⟨i, hi, e⟩ := List.getElem_of_mem h
  exact ⟨i, hi, by simp [Bell.fxAt, hi, e]⟩
theorem mem_take_fxAt {l : List Bell.Fx} {k : Nat} {p : Bell.Fx} (h : p ∈ l.take k) : ∃ i, i < k ∧ i < l.length ∧ Bell.fxAt l i = p := by
  obtain ⟨i, hi, e⟩ := mem_fxAt h
  have h1 : i < k ∧ i < l.length := by simpa [Nat.lt_min] using hi
  refine ⟨i, h1.1, h1.2, ?_⟩
  rw [← e]
  simp [Bell.fxAt, List.getElem?_take, h1.1]
theorem repair_len (v : Int) (l : List Bell.Fx) : (Bell.repair v l).length ≤ l.length := (Bell.repair_sub v l).length_le
theorem repair_pos (v : Int) {l : List Bell.Fx} (h : 0 < l.length) : 0 < (Bell.repair v l).length := by
  cases l with
  | nil => simp at h
  | cons a l => simp [Bell.repair]
theorem fxAt_app1 {l : List Bell.Fx} {p : Bell.Fx} {i : Nat} (h : i < l.length) : Bell.fxAt (l ++ [p]) i = Bell.fxAt l i := by simp [Bell.fxAt, List.getElem?_append_left h]
theorem fxAt_app2 {l : List Bell.Fx} {p : Bell.Fx} : Bell.fxAt (l ++ [p]) l.length = p := by simp [Bell.fxAt]
/-- What Repaired answers for a track without a fault. -/
def RepPost (l : List Bell.Fx) (v : Int) (e : Ending) (w' : World) : Prop :=
  (withinE v 1 1000 ≠ 0 → e = .returned (.tuple #[.slice none 0 0, .int .i64 (withinE v 1 1000)])) ∧
  (withinE v 1 1000 = 0 → ((Bell.repair v l).length < 2 → e = .returned (.tuple #[.slice none 0 0, .int .i64 16])) ∧
    (2 ≤ (Bell.repair v l).length → ∃ g, e = .returned (.tuple #[.slice (some ⟨g, 0, none⟩) (Bell.repair v l).length (Bell.repair v l).length, .int .i64 0]) ∧ FixesAt w' g 0 (Bell.repair v l).length (Bell.repair v l)))
theorem fixes_keepB {w w' : World} {b off n : Nat} {l : List Bell.Fx} (h : FixesAt w b off n l) (hb : w'.heap[b]? = w.heap[b]?) : FixesAt w' b off n l := by
  have k : ∀ j, w'.cell? ⟨b, j, none⟩ = w.cell? ⟨b, j, none⟩ := fun j => cell_same (p := ⟨b, j, none⟩) hb
  refine ⟨h.1, fun i hi => ?_⟩
  obtain ⟨h0, h1, h2, h3, h4⟩ := h.2 i hi
  exact ⟨(k _).trans h0, (k _).trans h1, (k _).trans h2, (k _).trans h3, (k _).trans h4⟩
theorem fixes_snoc {w : World} {g : Nat} {cs : Array Value} {l : List Bell.Fx} {p : Bell.Fx} (hB : Blk w g 152 cs) (h1 : ∀ i, i < l.length → ∀ k, k < 5 → cs[i * 5 + k]? = (fxV (Bell.fxAt l i))[k]?) (h2 : ∀ k, k < 5 → cs[l.length * 5 + k]? = (fxV p)[k]?) : FixesAt w g 0 (l.length + 1) (l ++ [p]) := by
  refine ⟨by simp, fun i hi => ?_⟩
  have hk : ∀ k, k < 5 → w.cell? ⟨g, i * 5 + k, none⟩ = (fxV (Bell.fxAt (l ++ [p]) i))[k]? := fun k hk => by
    rw [hB.cell]
    by_cases h : i < l.length
    · rw [fxAt_app1 h]; exact h1 i h k hk
    · obtain rfl : i = l.length := by omega
      rw [fxAt_app2]; exact h2 k hk
  rw [Nat.zero_add]
  exact ⟨hk 0 (by omega), hk 1 (by omega), hk 2 (by omega), hk 3 (by omega), hk 4 (by omega)⟩
theorem fixes_cells {w : World} {g : Nat} {cs : Array Value} {n : Nat} {l : List Bell.Fx} (hB : Blk w g 152 cs) (h : FixesAt w g 0 n l) : ∀ i, i < l.length → ∀ k, k < 5 → cs[i * 5 + k]? = (fxV (Bell.fxAt l i))[k]? := fun i hi k hk => by
  obtain ⟨h0, h1, h2, h3, h4⟩ := h.2 i (by rw [← h.1]; exact hi)
  rw [Nat.zero_add] at h0 h1 h2 h3 h4
  rw [hB.cell] at h0 h1 h2 h3 h4
  match k, hk with
  | 0, _ => exact h0
  | 1, _ => exact h1
  | 2, _ => exact h2
  | 3, _ => exact h3
  | 4, _ => exact h4
end Go.Proofs.YtmafmebcgmegeaaGreatDoor
