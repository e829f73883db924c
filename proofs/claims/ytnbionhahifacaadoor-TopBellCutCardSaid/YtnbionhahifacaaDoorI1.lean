/- The smallest functions of package source: ranges, places, directions. -/
import Derived.Test.YtnbionhahifacaaDoorI0
import Derived.StillTailTactics
import Derived.Test.YtnbionhahifacaaDoorIb5
namespace Go.Proofs.YtnbionhahifacaaDoor
open Go.RowKit

theorem srcFar_st (x : Int) (w : World) : Calls Tryd.prog 62 #[.int .i64 x] w fun e w' => e = .returned (.int .i64 (withinE x (-100000) 100000)) ∧ w' = w := by
  go_enter Tryd.func62, Tryd.ntmps62
  go_wp2_with fail
  refine (within_any _ _ _ _).mono ?_
  rintro e w' ⟨rfl, rfl⟩
  go_wp2
  go_ret
  exact ⟨rfl, rfl⟩
theorem srcHeight_st (x : Int) (w : World) : Calls Tryd.prog 63 #[.int .i64 x] w fun e w' => e = .returned (.int .i64 (withinE x 0 20000)) ∧ w' = w := by
  go_enter Tryd.func63, Tryd.ntmps63
  go_wp2_with fail
  refine (within_any _ _ _ _).mono ?_
  rintro e w' ⟨rfl, rfl⟩
  go_wp2
  go_ret
  exact ⟨rfl, rfl⟩
theorem srcPower_st (x : Int) (w : World) : Calls Tryd.prog 81 #[.int .i64 x] w fun e w' => e = .returned (.int .i64 (withinE x 1 100)) ∧ w' = w := by
  go_enter Tryd.func81, Tryd.ntmps81
  go_wp2_with fail
  refine (within_any _ _ _ _).mono ?_
  rintro e w' ⟨rfl, rfl⟩
  go_wp2
  go_ret
  exact ⟨rfl, rfl⟩
theorem srcTick_st (x : Int) (w : World) : Calls Tryd.prog 88 #[.int .i64 x] w fun e w' => e = .returned (.int .i64 (withinE x 0 100000000)) ∧ w' = w := by
  go_enter Tryd.func88, Tryd.ntmps88
  go_wp2_with fail
  refine (within_any _ _ _ _).mono ?_
  rintro e w' ⟨rfl, rfl⟩
  go_wp2
  go_ret
  exact ⟨rfl, rfl⟩
theorem srcFactor_st (x : Int) (w : World) : Calls Tryd.prog 55 #[.int .i64 x] w fun e w' => e = .returned (.int .i64 (withinE x 0 1000)) ∧ w' = w := by
  go_enter Tryd.func55, Tryd.ntmps55
  go_wp2_with fail
  refine (within_any _ _ _ _).mono ?_
  rintro e w' ⟨rfl, rfl⟩
  go_wp2
  go_ret
  exact ⟨rfl, rfl⟩
theorem srcDirect_st (x : Int) (w : World) : Calls Tryd.prog 54 #[.int .i64 x] w fun e w' => e = .returned (.int .i64 (withinE x 0 2000)) ∧ w' = w := by
  go_enter Tryd.func54, Tryd.ntmps54
  go_wp2_with fail
  refine (within_any _ _ _ _).mono ?_
  rintro e w' ⟨rfl, rfl⟩
  go_wp2
  go_ret
  exact ⟨rfl, rfl⟩
theorem srcSquare_st (x : Int) (w : World) : Calls Tryd.prog 84 #[.int .i64 x] w fun e w' => e = .returned (.int .i64 (withinE x 0 100000000000)) ∧ w' = w := by
  go_enter Tryd.func84, Tryd.ntmps84
  go_wp2_with fail
  refine (within_any _ _ _ _).mono ?_
  rintro e w' ⟨rfl, rfl⟩
  go_wp2
  go_ret
  exact ⟨rfl, rfl⟩
theorem srcEmission_st (x : Int) (w : World) : Calls Tryd.prog 86 #[.int .i64 x] w fun e w' => e = .returned (.int .i64 (withinE x 0 100000000)) ∧ w' = w := by
  go_enter Tryd.func86, Tryd.ntmps86
  go_wp2_with fail
  refine (within_any _ _ _ _).mono ?_
  rintro e w' ⟨rfl, rfl⟩
  go_wp2
  go_ret
  exact ⟨rfl, rfl⟩

theorem enters_srcFactor (args : Array Value) (W : World) : (callFunc 55 args).run Tryd.prog W = .ok (.enter 55 args) W := by kernel_rfl
theorem enters_srcDirect (args : Array Value) (W : World) : (callFunc 54 args).run Tryd.prog W = .ok (.enter 54 args) W := by kernel_rfl
theorem enters_srcSquare (args : Array Value) (W : World) : (callFunc 84 args).run Tryd.prog W = .ok (.enter 84 args) W := by kernel_rfl
theorem enters_srcEmission (args : Array Value) (W : World) : (callFunc 86 args).run Tryd.prog W = .ok (.enter 86 args) W := by kernel_rfl

/-- The error of a place. -/
def placeE (x y z : Int) : Int := firstE [withinE x (-100000) 100000, withinE y (-100000) 100000, withinE z 0 20000]
def dirE (x y : Int) : Int := firstE [withinE x (-200000) 200000, withinE y (-200000) 200000]

set_option maxHeartbeats 400000 in
set_option maxRecDepth 100000 in
theorem checkPlace_any (x y z : Int) (w : World) :
    Calls Tryd.prog 26 #[.agg #[.int .i64 x, .int .i64 y, .int .i64 z]] w fun e w' => e = .returned (.int .i64 (placeE x y z)) ∧ Below w.heap.size w w' := by
  go_enter Tryd.func26, Tryd.ntmps26
  go_wp2_with fail
  refine wp_region_still_tail 9 (by kernel_rfl) (by kernel_rfl) ?_
  simp only [List.take_succ_cons, List.take_zero, List.drop_succ_cons, List.drop_zero]
  change wpStill _ _ (World.drew _) _ _ _
  repeat still_step
  still_call (srcFar_st _ _)
  repeat still_step
  still_call (srcFar_st _ _)
  repeat still_step
  still_call (srcHeight_st _ _)
  repeat still_step
  refine wpStill_nil ?_
  change wpList _ _ _ _ _ (World.drew _)
  go_wp2_with fail
  refine (first3 _ _ (withinE x (-100000) 100000) (withinE y (-100000) 100000) (withinE z 0 20000) _ (by go_simp) (by go_simp) (by go_simp)).mono ?_
  rintro e w1 ⟨rfl, rfl⟩
  go_wp2
  go_ret
  exact ⟨rfl, (((Below.refl _ _).alloc (Nat.le_refl _) _).drew).alloc (by simp) _⟩

set_option maxHeartbeats 400000 in
set_option maxRecDepth 100000 in
theorem checkDirection_any (x y : Int) (w : World) :
    Calls Tryd.prog 80 #[.agg #[.int .i64 x, .int .i64 y]] w fun e w' => e = .returned (.int .i64 (dirE x y)) ∧ Below w.heap.size w w' := by
  go_enter Tryd.func80, Tryd.ntmps80
  go_wp2_with fail
  refine wp_region_still_tail 6 (by kernel_rfl) (by kernel_rfl) ?_
  simp only [List.take_succ_cons, List.take_zero, List.drop_succ_cons, List.drop_zero]
  change wpStill _ _ (World.drew _) _ _ _
  repeat still_step
  still_call (within_st _ _ _ _)
  repeat still_step
  still_call (within_st _ _ _ _)
  repeat still_step
  refine wpStill_nil ?_
  change wpList _ _ _ _ _ (World.drew _)
  go_wp2_with fail
  refine (first2 _ _ (withinE x (-200000) 200000) (withinE y (-200000) 200000) _ (by go_simp) (by go_simp)).mono ?_
  rintro e w1 ⟨rfl, rfl⟩
  go_wp2
  go_ret
  exact ⟨rfl, (((Below.refl _ _).alloc (Nat.le_refl _) _).drew).alloc (by simp) _⟩

/-- The four numbers of a point of a track. -/
def fixE (t x y z p : Int) : Int := firstE [withinE t 0 100000000, placeE x y z, withinE p 1 100]

/-! Arithmetic. -/
theorem floor_st (n d : Int) (w : World) (h1 : -9000000000000000000 ≤ n) (h2 : n ≤ 9000000000000000000) (h3 : 1 ≤ d) (h4 : d ≤ 1000000000) :
    Calls Tryd.prog 93 #[.int .i64 n, .int .i64 d] w fun e w' => e = .returned (.int .i64 (n / d)) ∧ w' = w := by
  have hf := Bell.floor_is (n := n) (d := d) (by omega)
  have k1 : (n.tdiv d).natAbs ≤ n.natAbs := by rw [Int.natAbs_tdiv]; exact Nat.div_le_self _ _
  have k2 : (n.tmod d).natAbs < d.natAbs := by rw [Int.natAbs_tmod]; exact Nat.mod_lt _ (by omega)
  have q1 : -9000000000000000000 ≤ n.tdiv d := by omega
  have q2 : n.tdiv d ≤ 9000000000000000000 := by omega
  have q3 : -9000000000000000000 ≤ n.tmod d := by omega
  have q4 : n.tmod d ≤ 9000000000000000000 := by omega
  have HF := Lib.hid hf
  clear hf k1 k2
  by_cases hneg : n.tmod d < 0
  · have hs : Hid (n / d = n.tdiv d - 1) := by show _ = _; rw [← HF.out, if_pos hneg]
    go_enter Tryd.func93, Tryd.ntmps93
    go_wp2
    go_ret
    exact ⟨ret_int hs.out.symm, rfl⟩
  · have hs : Hid (n / d = n.tdiv d) := by show _ = _; rw [← HF.out, if_neg hneg]
    go_enter Tryd.func93, Tryd.ntmps93
    go_wp2
    go_ret
    exact ⟨ret_int hs.out.symm, rfl⟩

end Go.Proofs.YtnbionhahifacaaDoor
