/- What the examples of a law call, with their fixed arguments: the first half. What the examples of a law call, with their fixed arguments: the second half (made by wip/tools/gen_n2.py). Lost, where not too much is lost. -/
import Derived.Test.YtoipafnlcchmbaaGreatDoorQB
import Derived.Test.YtoipafnlcchmbaaGreatDoorQC
import Derived.Test.YtoipafnlcchmbaaGreatDoorQD
import Derived.Test.YtoipafnlcchmbaaGreatDoorQE
import Derived.Test.YtoipafnlcchmbaaGreatDoorQEx
import Derived.Test.YtoipafnlcchmbaaGreatDoorQJx
import Derived.Test.YtoipafnlcchmbaaGreatDoorQLx
import Derived.Test.YtoipafnlcchmbaaGreatDoorQM
import Derived.Test.YtoipafnlcchmbaaGreatDoorQK
import Derived.Test.YtoipafnlcchmbaaGreatDoorQKy
import Derived.Test.YtoipafnlcchmbaaGreatDoorQH
import Derived.WalkMore
import Derived.RangeFuncBox
namespace Go.Proofs.YtoipafnlcchmbaaGreatDoor
open Go.RowKit

theorem intsAt_blk {w : World} {g : Nat} {t : TypeId} (zs : List Int) (h : Blk w g t (zs.map (Value.int .i64)).toArray) : IntsAt w (some ⟨g, 0, none⟩) zs.length zs := by
  refine ⟨rfl, fun _ => ⟨g, 0, rfl, fun i hi => ?_⟩⟩
  rw [Nat.zero_add, h.cell i]
  simp [List.getD_eq_getElem?_getD, List.getElem?_eq_getElem hi]

theorem aw_draw (w : World) : Calls Tryz.prog 18 #[.int .i64 0, .int .i64 3] w fun e w' => ∃ g cap, e = .returned (.tuple #[.slice (some ⟨g, 0, none⟩) 3 cap, .int .i64 0]) ∧ IntsAt w' (some ⟨g, 0, none⟩) 3 [2, 0, 1] ∧ Below w.heap.size w w' := by
  refine (draw_good 0 3 w (by omega) (by omega) (by omega)).mono ?_
  rintro e w' ⟨v, rfl, hO, hb⟩
  have hd : drawL 0 3 = [2, 0, 1] := by kernel_rfl
  rw [hd] at hO
  rcases hO.form with ⟨_, h⟩ | ⟨g, cap, rfl, _, _, _, hc, _⟩
  · cases h
  · exact ⟨g, cap, rfl, ⟨rfl, fun _ => ⟨g, 0, rfl, fun i hi => by rw [Nat.zero_add]; exact hc i hi⟩⟩, hb⟩
theorem aw_thr (w : World) (hs : Steps w) : Calls Tryz.prog 33 #[.int .i64 120] w fun e w' => e = .returned (.tuple #[.int .i64 10000000000000, .int .i64 0]) ∧ w = w' := by
  have h := Threshold_any 120 w hs
  rw [show thresholdR 120 = 10000000000000 by kernel_rfl, show withinE 120 0 120 = 0 by kernel_rfl] at h
  exact h
theorem aw_level9 (w : World) (hs : Steps w) : Calls Tryz.prog 32 #[.int .i64 9] w fun e w' => e = .returned (.tuple #[.int .i64 (-1), .int .i64 0]) ∧ Below w.heap.size w w' := by
  have h := Level_any 9 w hs
  rw [show levelR 9 = -1 by kernel_rfl, show checkEnergyE 9 = 0 by kernel_rfl] at h
  exact h
theorem aw_level99 (w : World) (hs : Steps w) : Calls Tryz.prog 32 #[.int .i64 99] w fun e w' => e = .returned (.tuple #[.int .i64 9, .int .i64 0]) ∧ Below w.heap.size w w' := by
  have h := Level_any 99 w hs
  rw [show levelR 99 = 9 by kernel_rfl, show checkEnergyE 99 = 0 by kernel_rfl] at h
  exact h
theorem aw_range (w : World) (hs : Steps w) : Calls Tryz.prog 34 #[.int .i64 3] w fun e w' => e = .returned (.tuple #[.agg #[.int .i64 20, .int .i64 24], .int .i64 0]) ∧ Below w.heap.size w w' := by
  have h := Range_any 3 w hs
  rw [show rangeR 3 = .agg #[.int .i64 20, .int .i64 24] by kernel_rfl, show withinE 3 (-1) 120 = 0 by kernel_rfl] at h
  exact h
theorem aw_average (w : World) (g h : Nat) (hx : Blk w g 3 #[.int .i64 100, .int .i64 40]) (ht : Blk w h 3 #[.int .i64 3, .int .i64 1]) :
    Calls Tryz.prog 45 #[.slice (some ⟨g, 0, none⟩) 2 2, .slice (some ⟨h, 0, none⟩) 2 2] w fun e w' => e = .returned (.tuple #[.int .i64 85, .int .i64 0]) ∧ Below w.heap.size w w' := by
  have H := Average_any (some ⟨g, 0, none⟩) (some ⟨h, 0, none⟩) 2 2 2 2 [100, 40] [3, 1] w (by omega) (by omega) (intsAt_blk [100, 40] hx) (intsAt_blk [3, 1] ht)
  rw [show avgVal [100, 40] [3, 1] = 85 by kernel_rfl, show avgErr [100, 40] [3, 1] = 0 by kernel_rfl] at H
  exact H
theorem aw_penalized (w : World) (g : Nat) (hx : Blk w g 158 #[.int .i64 25199, .int .i64 5, .int .i64 25200, .int .i64 7, .int .i64 82799, .int .i64 2]) :
    Calls Tryz.prog 52 #[.slice (some ⟨g, 0, none⟩) 3 3] w fun e w' => e = .returned (.tuple #[.int .i64 63, .int .i64 0]) ∧ Below w.heap.size w w' := by
  have hz : HeardAt w (some ⟨g, 0, none⟩) 3 [(25199, 5), (25200, 7), (82799, 2)] := ⟨rfl, fun _ => ⟨g, 0, rfl, fun i hi => by
    match i, hi with
    | 0, _ => exact ⟨hx.cell 0, hx.cell 1⟩
    | 1, _ => exact ⟨hx.cell 2, hx.cell 3⟩
    | 2, _ => exact ⟨hx.cell 4, hx.cell 5⟩⟩⟩
  have H := Penalized_any (some ⟨g, 0, none⟩) 3 3 [(25199, 5), (25200, 7), (82799, 2)] w (by omega) hz
  rw [show penVal [(25199, 5), (25200, 7), (82799, 2)] = 63 by kernel_rfl, show penErr [(25199, 5), (25200, 7), (82799, 2)] = 0 by kernel_rfl] at H
  exact H
theorem aw_maximum (w : World) (g : Nat) (hx : Blk w g 3 #[.int .i64 5, .int .i64 200, .int .i64 40, .int .i64 200]) :
    Calls Tryz.prog 54 #[.slice (some ⟨g, 0, none⟩) 4 4] w fun e w' => e = .returned (.tuple #[.int .i64 200, .int .i64 1, .int .i64 0]) ∧ Below w.heap.size w w' := by
  have H := Maximum_any (some ⟨g, 0, none⟩) 4 4 [5, 200, 40, 200] w (intsAt_blk [5, 200, 40, 200] hx) (by omega)
  rw [show maxVal [5, 200, 40, 200] = 200 by kernel_rfl, show maxIdx [5, 200, 40, 200] = 1 by kernel_rfl, show maxErr [5, 200, 40, 200] = 0 by kernel_rfl] at H
  exact H
theorem aw_above (w : World) (g : Nat) (hs : Steps w) (hx : Blk w g 3 #[.int .i64 5, .int .i64 200, .int .i64 40, .int .i64 200]) :
    Calls Tryz.prog 55 #[.slice (some ⟨g, 0, none⟩) 4 4, .int .i64 10] w fun e w' => e = .returned (.tuple #[.int .i64 2, .int .i64 0]) ∧ Below w.heap.size w w' := by
  have H := Above_any (some ⟨g, 0, none⟩) 4 4 [5, 200, 40, 200] 10 w (intsAt_blk [5, 200, 40, 200] hx) (by omega) hs
  rw [show aboveVal [5, 200, 40, 200] 10 = 2 by kernel_rfl, show aboveErr [5, 200, 40, 200] 10 = 0 by kernel_rfl] at H
  exact H
theorem aw_weighted (w : World) : Calls Tryz.prog 60 #[.agg #[.int .i64 5, .int .i64 0, .int .i64 0, .int .i64 0, .int .i64 0, .int .i64 0, .int .i64 0, .int .i64 0], .agg #[.int .i64 500, .int .i64 0, .int .i64 0, .int .i64 0, .int .i64 0, .int .i64 0, .int .i64 0, .int .i64 0]] w fun e w' => e = .returned (.tuple #[.agg #[.int .i64 3, .int .i64 0, .int .i64 0, .int .i64 0, .int .i64 0, .int .i64 0, .int .i64 0, .int .i64 0], .int .i64 0]) ∧ Below w.heap.size w w' := by
  have H := Weighted_good 5 0 0 0 0 0 0 0 500 0 0 0 0 0 0 0 w (by kernel_rfl)
  rw [show wgt 5 500 = 3 by kernel_rfl, show wgt 0 0 = 0 by kernel_rfl] at H
  exact H
theorem aw_through (w : World) : Calls Tryz.prog 61 #[.agg #[.int .i64 10, .int .i64 20], .agg #[.int .i64 333, .int .i64 500]] w fun e w' => e = .returned (.tuple #[.agg #[.int .i64 3, .int .i64 10], .int .i64 0]) ∧ Below w.heap.size w w' := by
  have H := Through_any 10 20 333 500 w
  rw [show throughLow 10 20 333 500 = 3 by kernel_rfl, show throughHigh 10 20 333 500 = 10 by kernel_rfl, show throughErr 10 20 333 500 = 0 by kernel_rfl] at H
  exact H
end Go.Proofs.YtoipafnlcchmbaaGreatDoor
namespace Go.Proofs.YtoipafnlcchmbaaGreatDoor
open Go.RowKit

set_option maxRecDepth 100000 in
theorem aw_t0 (w : World) : Calls Tryz.prog 166 #[.agg #[.complex .f32 1065353216 0, .complex .f32 1073741824 0, .complex .f32 1077936128 0, .complex .f32 1082130432 0], .complex .f32 0 3212836864, .int .i64 0] w fun e w' => e = .returned (.complex .f32 1092616192 0) ∧ Below w.heap.size w w' :=
  turned_of (fun n => ([(1065353216, 0), (1073741824, 0), (1077936128, 0), (1082130432, 0)] : List (Nat × Nat)).getD n (0, 0)) (fun n => ([(1065353216, 0)] : List (Nat × Nat)).getD n (0, 0)) (fun n => ([(1065353216, 0), (1065353216, 0), (1065353216, 0), (1065353216, 0), (1065353216, 0)] : List (Nat × Nat)).getD n (0, 0)) (fun n => ([(1065353216, 0), (1073741824, 0), (1077936128, 0), (1082130432, 0)] : List (Nat × Nat)).getD n (0, 0)) (fun n => ([(0, 0), (1065353216, 0), (1077936128, 0), (1086324736, 0), (1092616192, 0)] : List (Nat × Nat)).getD n (0, 0)) (0, 3212836864) 0 (by omega) rfl
    (fun j hj => absurd hj (by omega)) rfl
    (fun n hn w => by
      match n, hn with
      | 0, _ => (show _ = _; kernel_rfl)
      | 1, _ => (show _ = _; kernel_rfl)
      | 2, _ => (show _ = _; kernel_rfl)
      | 3, _ => (show _ = _; kernel_rfl))
    (fun n hn w => by
      match n, hn with
      | 0, _ => (show _ = _; kernel_rfl)
      | 1, _ => (show _ = _; kernel_rfl)
      | 2, _ => (show _ = _; kernel_rfl)
      | 3, _ => (show _ = _; kernel_rfl)) rfl
    (fun n hn w => by
      match n, hn with
      | 0, _ => (show _ = _; kernel_rfl)
      | 1, _ => (show _ = _; kernel_rfl)
      | 2, _ => (show _ = _; kernel_rfl)
      | 3, _ => (show _ = _; kernel_rfl)) w

set_option maxRecDepth 100000 in
theorem aw_t1 (w : World) : Calls Tryz.prog 166 #[.agg #[.complex .f32 1065353216 0, .complex .f32 1073741824 0, .complex .f32 1077936128 0, .complex .f32 1082130432 0], .complex .f32 0 3212836864, .int .i64 1] w fun e w' => e = .returned (.complex .f32 3221225472 1073741824) ∧ Below w.heap.size w w' :=
  turned_of (fun n => ([(1065353216, 0), (1073741824, 0), (1077936128, 0), (1082130432, 0)] : List (Nat × Nat)).getD n (0, 0)) (fun n => ([(1065353216, 0), (0, 3212836864)] : List (Nat × Nat)).getD n (0, 0)) (fun n => ([(1065353216, 0), (0, 3212836864), (3212836864, 2147483648), (2147483648, 1065353216), (1065353216, 0)] : List (Nat × Nat)).getD n (0, 0)) (fun n => ([(1065353216, 0), (0, 3221225472), (3225419776, 2147483648), (2147483648, 1082130432)] : List (Nat × Nat)).getD n (0, 0)) (fun n => ([(0, 0), (1065353216, 0), (1065353216, 3221225472), (3221225472, 3221225472), (3221225472, 1073741824)] : List (Nat × Nat)).getD n (0, 0)) (0, 3212836864) 1 (by omega) rfl
    (fun j hj w => by
      match j, hj with
      | 0, _ => (show _ = _; kernel_rfl)) rfl
    (fun n hn w => by
      match n, hn with
      | 0, _ => (show _ = _; kernel_rfl)
      | 1, _ => (show _ = _; kernel_rfl)
      | 2, _ => (show _ = _; kernel_rfl)
      | 3, _ => (show _ = _; kernel_rfl))
    (fun n hn w => by
      match n, hn with
      | 0, _ => (show _ = _; kernel_rfl)
      | 1, _ => (show _ = _; kernel_rfl)
      | 2, _ => (show _ = _; kernel_rfl)
      | 3, _ => (show _ = _; kernel_rfl)) rfl
    (fun n hn w => by
      match n, hn with
      | 0, _ => (show _ = _; kernel_rfl)
      | 1, _ => (show _ = _; kernel_rfl)
      | 2, _ => (show _ = _; kernel_rfl)
      | 3, _ => (show _ = _; kernel_rfl)) w

set_option maxRecDepth 100000 in
theorem aw_t2 (w : World) : Calls Tryz.prog 166 #[.agg #[.complex .f32 1065353216 0, .complex .f32 1073741824 0, .complex .f32 1077936128 0, .complex .f32 1082130432 0], .complex .f32 0 3212836864, .int .i64 2] w fun e w' => e = .returned (.complex .f32 3221225472 0) ∧ Below w.heap.size w w' :=
  turned_of (fun n => ([(1065353216, 0), (1073741824, 0), (1077936128, 0), (1082130432, 0)] : List (Nat × Nat)).getD n (0, 0)) (fun n => ([(1065353216, 0), (0, 3212836864), (3212836864, 2147483648)] : List (Nat × Nat)).getD n (0, 0)) (fun n => ([(1065353216, 0), (3212836864, 2147483648), (1065353216, 0), (3212836864, 2147483648), (1065353216, 0)] : List (Nat × Nat)).getD n (0, 0)) (fun n => ([(1065353216, 0), (3221225472, 2147483648), (1077936128, 0), (3229614080, 2147483648)] : List (Nat × Nat)).getD n (0, 0)) (fun n => ([(0, 0), (1065353216, 0), (3212836864, 0), (1073741824, 0), (3221225472, 0)] : List (Nat × Nat)).getD n (0, 0)) (0, 3212836864) 2 (by omega) rfl
    (fun j hj w => by
      match j, hj with
      | 0, _ => (show _ = _; kernel_rfl)
      | 1, _ => (show _ = _; kernel_rfl)) rfl
    (fun n hn w => by
      match n, hn with
      | 0, _ => (show _ = _; kernel_rfl)
      | 1, _ => (show _ = _; kernel_rfl)
      | 2, _ => (show _ = _; kernel_rfl)
      | 3, _ => (show _ = _; kernel_rfl))
    (fun n hn w => by
      match n, hn with
      | 0, _ => (show _ = _; kernel_rfl)
      | 1, _ => (show _ = _; kernel_rfl)
      | 2, _ => (show _ = _; kernel_rfl)
      | 3, _ => (show _ = _; kernel_rfl)) rfl
    (fun n hn w => by
      match n, hn with
      | 0, _ => (show _ = _; kernel_rfl)
      | 1, _ => (show _ = _; kernel_rfl)
      | 2, _ => (show _ = _; kernel_rfl)
      | 3, _ => (show _ = _; kernel_rfl)) w

set_option maxRecDepth 100000 in
theorem aw_t3 (w : World) : Calls Tryz.prog 166 #[.agg #[.complex .f32 1065353216 0, .complex .f32 1073741824 0, .complex .f32 1077936128 0, .complex .f32 1082130432 0], .complex .f32 0 3212836864, .int .i64 3] w fun e w' => e = .returned (.complex .f32 3221225472 3221225472) ∧ Below w.heap.size w w' :=
  turned_of (fun n => ([(1065353216, 0), (1073741824, 0), (1077936128, 0), (1082130432, 0)] : List (Nat × Nat)).getD n (0, 0)) (fun n => ([(1065353216, 0), (0, 3212836864), (3212836864, 2147483648), (2147483648, 1065353216)] : List (Nat × Nat)).getD n (0, 0)) (fun n => ([(1065353216, 0), (2147483648, 1065353216), (3212836864, 2147483648), (0, 3212836864), (1065353216, 0)] : List (Nat × Nat)).getD n (0, 0)) (fun n => ([(1065353216, 0), (2147483648, 1073741824), (3225419776, 2147483648), (0, 3229614080)] : List (Nat × Nat)).getD n (0, 0)) (fun n => ([(0, 0), (1065353216, 0), (1065353216, 1073741824), (3221225472, 1073741824), (3221225472, 3221225472)] : List (Nat × Nat)).getD n (0, 0)) (0, 3212836864) 3 (by omega) rfl
    (fun j hj w => by
      match j, hj with
      | 0, _ => (show _ = _; kernel_rfl)
      | 1, _ => (show _ = _; kernel_rfl)
      | 2, _ => (show _ = _; kernel_rfl)) rfl
    (fun n hn w => by
      match n, hn with
      | 0, _ => (show _ = _; kernel_rfl)
      | 1, _ => (show _ = _; kernel_rfl)
      | 2, _ => (show _ = _; kernel_rfl)
      | 3, _ => (show _ = _; kernel_rfl))
    (fun n hn w => by
      match n, hn with
      | 0, _ => (show _ = _; kernel_rfl)
      | 1, _ => (show _ = _; kernel_rfl)
      | 2, _ => (show _ = _; kernel_rfl)
      | 3, _ => (show _ = _; kernel_rfl)) rfl
    (fun n hn w => by
      match n, hn with
      | 0, _ => (show _ = _; kernel_rfl)
      | 1, _ => (show _ = _; kernel_rfl)
      | 2, _ => (show _ = _; kernel_rfl)
      | 3, _ => (show _ = _; kernel_rfl)) w

theorem aw_four (w : World) : Calls Tryz.prog 97 #[.agg #[.float .f32 1065353216, .float .f32 1073741824, .float .f32 1077936128, .float .f32 1082130432]] w fun e w' => e = .returned (.tuple #[.agg #[.complex .f32 1092616192 0, .complex .f32 3221225472 1073741824, .complex .f32 3221225472 0, .complex .f32 3221225472 3221225472], .int .i64 0]) ∧ Below w.heap.size w w' :=
  Four_of (fun n => ([1065353216, 1073741824, 1077936128, 1082130432] : List Nat).getD n 0) (fun n => ([(1092616192, 0), (3221225472, 1073741824), (3221225472, 0), (3221225472, 3221225472)] : List (Nat × Nat)).getD n (0, 0)) (fun i hi => by
    match i, hi with
    | 0, _ => exact good_1
    | 1, _ => exact good_2
    | 2, _ => exact good_3
    | 3, _ => exact good_4) (fun k hk W => by
    match k, hk with
    | 0, _ => exact aw_t0 W
    | 1, _ => exact aw_t1 W
    | 2, _ => exact aw_t2 W
    | 3, _ => exact aw_t3 W) w

set_option maxRecDepth 100000 in
theorem aw_u0 (w : World) : Calls Tryz.prog 166 #[.agg #[.complex .f32 1092616192 0, .complex .f32 3221225472 1073741824, .complex .f32 3221225472 0, .complex .f32 3221225472 3221225472], .complex .f32 0 1065353216, .int .i64 0] w fun e w' => e = .returned (.complex .f32 1082130432 0) ∧ Below w.heap.size w w' :=
  turned_of (fun n => ([(1092616192, 0), (3221225472, 1073741824), (3221225472, 0), (3221225472, 3221225472)] : List (Nat × Nat)).getD n (0, 0)) (fun n => ([(1065353216, 0)] : List (Nat × Nat)).getD n (0, 0)) (fun n => ([(1065353216, 0), (1065353216, 0), (1065353216, 0), (1065353216, 0), (1065353216, 0)] : List (Nat × Nat)).getD n (0, 0)) (fun n => ([(1092616192, 0), (3221225472, 1073741824), (3221225472, 0), (3221225472, 3221225472)] : List (Nat × Nat)).getD n (0, 0)) (fun n => ([(0, 0), (1092616192, 0), (1090519040, 1073741824), (1086324736, 1073741824), (1082130432, 0)] : List (Nat × Nat)).getD n (0, 0)) (0, 1065353216) 0 (by omega) rfl
    (fun j hj => absurd hj (by omega)) rfl
    (fun n hn w => by
      match n, hn with
      | 0, _ => (show _ = _; kernel_rfl)
      | 1, _ => (show _ = _; kernel_rfl)
      | 2, _ => (show _ = _; kernel_rfl)
      | 3, _ => (show _ = _; kernel_rfl))
    (fun n hn w => by
      match n, hn with
      | 0, _ => (show _ = _; kernel_rfl)
      | 1, _ => (show _ = _; kernel_rfl)
      | 2, _ => (show _ = _; kernel_rfl)
      | 3, _ => (show _ = _; kernel_rfl)) rfl
    (fun n hn w => by
      match n, hn with
      | 0, _ => (show _ = _; kernel_rfl)
      | 1, _ => (show _ = _; kernel_rfl)
      | 2, _ => (show _ = _; kernel_rfl)
      | 3, _ => (show _ = _; kernel_rfl)) w

set_option maxRecDepth 100000 in
theorem aw_u1 (w : World) : Calls Tryz.prog 166 #[.agg #[.complex .f32 1092616192 0, .complex .f32 3221225472 1073741824, .complex .f32 3221225472 0, .complex .f32 3221225472 3221225472], .complex .f32 0 1065353216, .int .i64 1] w fun e w' => e = .returned (.complex .f32 1090519040 0) ∧ Below w.heap.size w w' :=
  turned_of (fun n => ([(1092616192, 0), (3221225472, 1073741824), (3221225472, 0), (3221225472, 3221225472)] : List (Nat × Nat)).getD n (0, 0)) (fun n => ([(1065353216, 0), (0, 1065353216)] : List (Nat × Nat)).getD n (0, 0)) (fun n => ([(1065353216, 0), (0, 1065353216), (3212836864, 0), (2147483648, 3212836864), (1065353216, 2147483648)] : List (Nat × Nat)).getD n (0, 0)) (fun n => ([(1092616192, 0), (3221225472, 3221225472), (1073741824, 2147483648), (3221225472, 1073741824)] : List (Nat × Nat)).getD n (0, 0)) (fun n => ([(0, 0), (1092616192, 0), (1090519040, 3221225472), (1092616192, 3221225472), (1090519040, 0)] : List (Nat × Nat)).getD n (0, 0)) (0, 1065353216) 1 (by omega) rfl
    (fun j hj w => by
      match j, hj with
      | 0, _ => (show _ = _; kernel_rfl)) rfl
    (fun n hn w => by
      match n, hn with
      | 0, _ => (show _ = _; kernel_rfl)
      | 1, _ => (show _ = _; kernel_rfl)
      | 2, _ => (show _ = _; kernel_rfl)
      | 3, _ => (show _ = _; kernel_rfl))
    (fun n hn w => by
      match n, hn with
      | 0, _ => (show _ = _; kernel_rfl)
      | 1, _ => (show _ = _; kernel_rfl)
      | 2, _ => (show _ = _; kernel_rfl)
      | 3, _ => (show _ = _; kernel_rfl)) rfl
    (fun n hn w => by
      match n, hn with
      | 0, _ => (show _ = _; kernel_rfl)
      | 1, _ => (show _ = _; kernel_rfl)
      | 2, _ => (show _ = _; kernel_rfl)
      | 3, _ => (show _ = _; kernel_rfl)) w

set_option maxRecDepth 100000 in
theorem aw_u2 (w : World) : Calls Tryz.prog 166 #[.agg #[.complex .f32 1092616192 0, .complex .f32 3221225472 1073741824, .complex .f32 3221225472 0, .complex .f32 3221225472 3221225472], .complex .f32 0 1065353216, .int .i64 2] w fun e w' => e = .returned (.complex .f32 1094713344 0) ∧ Below w.heap.size w w' :=
  turned_of (fun n => ([(1092616192, 0), (3221225472, 1073741824), (3221225472, 0), (3221225472, 3221225472)] : List (Nat × Nat)).getD n (0, 0)) (fun n => ([(1065353216, 0), (0, 1065353216), (3212836864, 0)] : List (Nat × Nat)).getD n (0, 0)) (fun n => ([(1065353216, 0), (3212836864, 0), (1065353216, 2147483648), (3212836864, 0), (1065353216, 2147483648)] : List (Nat × Nat)).getD n (0, 0)) (fun n => ([(1092616192, 0), (1073741824, 3221225472), (3221225472, 0), (1073741824, 1073741824)] : List (Nat × Nat)).getD n (0, 0)) (fun n => ([(0, 0), (1092616192, 0), (1094713344, 3221225472), (1092616192, 3221225472), (1094713344, 0)] : List (Nat × Nat)).getD n (0, 0)) (0, 1065353216) 2 (by omega) rfl
    (fun j hj w => by
      match j, hj with
      | 0, _ => (show _ = _; kernel_rfl)
      | 1, _ => (show _ = _; kernel_rfl)) rfl
    (fun n hn w => by
      match n, hn with
      | 0, _ => (show _ = _; kernel_rfl)
      | 1, _ => (show _ = _; kernel_rfl)
      | 2, _ => (show _ = _; kernel_rfl)
      | 3, _ => (show _ = _; kernel_rfl))
    (fun n hn w => by
      match n, hn with
      | 0, _ => (show _ = _; kernel_rfl)
      | 1, _ => (show _ = _; kernel_rfl)
      | 2, _ => (show _ = _; kernel_rfl)
      | 3, _ => (show _ = _; kernel_rfl)) rfl
    (fun n hn w => by
      match n, hn with
      | 0, _ => (show _ = _; kernel_rfl)
      | 1, _ => (show _ = _; kernel_rfl)
      | 2, _ => (show _ = _; kernel_rfl)
      | 3, _ => (show _ = _; kernel_rfl)) w

set_option maxRecDepth 100000 in
theorem aw_u3 (w : World) : Calls Tryz.prog 166 #[.agg #[.complex .f32 1092616192 0, .complex .f32 3221225472 1073741824, .complex .f32 3221225472 0, .complex .f32 3221225472 3221225472], .complex .f32 0 1065353216, .int .i64 3] w fun e w' => e = .returned (.complex .f32 1098907648 0) ∧ Below w.heap.size w w' :=
  turned_of (fun n => ([(1092616192, 0), (3221225472, 1073741824), (3221225472, 0), (3221225472, 3221225472)] : List (Nat × Nat)).getD n (0, 0)) (fun n => ([(1065353216, 0), (0, 1065353216), (3212836864, 0), (2147483648, 3212836864)] : List (Nat × Nat)).getD n (0, 0)) (fun n => ([(1065353216, 0), (0, 3212836864), (3212836864, 0), (0, 1065353216), (1065353216, 2147483648)] : List (Nat × Nat)).getD n (0, 0)) (fun n => ([(1092616192, 0), (1073741824, 1073741824), (1073741824, 2147483648), (1073741824, 3221225472)] : List (Nat × Nat)).getD n (0, 0)) (fun n => ([(0, 0), (1092616192, 0), (1094713344, 1073741824), (1096810496, 1073741824), (1098907648, 0)] : List (Nat × Nat)).getD n (0, 0)) (0, 1065353216) 3 (by omega) rfl
    (fun j hj w => by
      match j, hj with
      | 0, _ => (show _ = _; kernel_rfl)
      | 1, _ => (show _ = _; kernel_rfl)
      | 2, _ => (show _ = _; kernel_rfl)) rfl
    (fun n hn w => by
      match n, hn with
      | 0, _ => (show _ = _; kernel_rfl)
      | 1, _ => (show _ = _; kernel_rfl)
      | 2, _ => (show _ = _; kernel_rfl)
      | 3, _ => (show _ = _; kernel_rfl))
    (fun n hn w => by
      match n, hn with
      | 0, _ => (show _ = _; kernel_rfl)
      | 1, _ => (show _ = _; kernel_rfl)
      | 2, _ => (show _ = _; kernel_rfl)
      | 3, _ => (show _ = _; kernel_rfl)) rfl
    (fun n hn w => by
      match n, hn with
      | 0, _ => (show _ = _; kernel_rfl)
      | 1, _ => (show _ = _; kernel_rfl)
      | 2, _ => (show _ = _; kernel_rfl)
      | 3, _ => (show _ = _; kernel_rfl)) w

theorem aw_unfour (w : World) : Calls Tryz.prog 99 #[.agg #[.complex .f32 1092616192 0, .complex .f32 3221225472 1073741824, .complex .f32 3221225472 0, .complex .f32 3221225472 3221225472]] w fun e w' => e = .returned (.tuple #[.agg #[.float .f32 1065353216, .float .f32 1073741824, .float .f32 1077936128, .float .f32 1082130432], .int .i64 0]) ∧ Below w.heap.size w w' :=
  Unfour_of (fun n => ([(1092616192, 0), (3221225472, 1073741824), (3221225472, 0), (3221225472, 3221225472)] : List (Nat × Nat)).getD n (0, 0)) (fun n => ([(1082130432, 0), (1090519040, 0), (1094713344, 0), (1098907648, 0)] : List (Nat × Nat)).getD n (0, 0)) (fun n => ([1065353216, 1073741824, 1077936128, 1082130432] : List Nat).getD n 0) (fun i hi => by
    match i, hi with
    | 0, _ => exact ⟨part_10, part_0⟩
    | 1, _ => exact ⟨part_m2, part_2⟩
    | 2, _ => exact ⟨part_m2, part_0⟩
    | 3, _ => exact ⟨part_m2, part_m2⟩) (fun k hk W => by
    match k, hk with
    | 0, _ => exact aw_u0 W
    | 1, _ => exact aw_u1 W
    | 2, _ => exact aw_u2 W
    | 3, _ => exact aw_u3 W) (fun k hk => by
    match k, hk with
    | 0, _ => (show _ = _; kernel_rfl)
    | 1, _ => (show _ = _; kernel_rfl)
    | 2, _ => (show _ = _; kernel_rfl)
    | 3, _ => (show _ = _; kernel_rfl)) (fun k hk => by
    match k, hk with
    | 0, _ => (show _ = _; kernel_rfl)
    | 1, _ => (show _ = _; kernel_rfl)
    | 2, _ => (show _ = _; kernel_rfl)
    | 3, _ => (show _ = _; kernel_rfl)) (fun i hi => by
    match i, hi with
    | 0, _ => exact good_1
    | 1, _ => exact good_2
    | 2, _ => exact good_3
    | 3, _ => exact good_4) w

theorem aw_cross (w : World) : Calls Tryz.prog 100 #[.agg #[.complex .f32 1092616192 0, .complex .f32 3221225472 1073741824, .complex .f32 3221225472 0, .complex .f32 3221225472 3221225472], .agg #[.complex .f32 1065353216 0, .complex .f32 1065353216 0, .complex .f32 1065353216 0, .complex .f32 1065353216 0]] w fun e w' => e = .returned (.tuple #[.agg #[.int .i64 2560, .int .i64 0, .int .i64 (-512), .int .i64 512, .int .i64 (-512), .int .i64 0, .int .i64 (-512), .int .i64 (-512)], .int .i64 0]) ∧ Below w.heap.size w w' :=
  Cross_of (fun n => ([(1092616192, 0), (3221225472, 1073741824), (3221225472, 0), (3221225472, 3221225472)] : List (Nat × Nat)).getD n (0, 0)) (fun n => ([(1065353216, 0), (1065353216, 0), (1065353216, 0), (1065353216, 0)] : List (Nat × Nat)).getD n (0, 0)) (fun n => ([(4621819117588971520, 0), (13835058055282163712, 4611686018427387904), (13835058055282163712, 0), (13835058055282163712, 13835058055282163712)] : List (Nat × Nat)).getD n (0, 0)) (fun n => ([(4607182418800017408, 0), (4607182418800017408, 0), (4607182418800017408, 0), (4607182418800017408, 0)] : List (Nat × Nat)).getD n (0, 0)) (fun n => ([(4639833516098453504, 0), (13853072453791645696, 4629700416936869888), (13853072453791645696, 0), (13853072453791645696, 13853072453791645696)] : List (Nat × Nat)).getD n (0, 0)) (fun n => ([(4625196817309499392, 0), (4625196817309499392, 0), (4625196817309499392, 0), (4625196817309499392, 0)] : List (Nat × Nat)).getD n (0, 0)) (fun n => ([(4657847914607935488, 0), (13871086852301127680, 4647714815446351872), (13871086852301127680, 0), (13871086852301127680, 13871086852301127680)] : List (Nat × Nat)).getD n (0, 0)) (fun n => ([9223372036854775808, 9223372036854775808, 9223372036854775808, 9223372036854775808] : List Nat).getD n 0) (fun n => ([(2560, 0), (-512, 512), (-512, 0), (-512, -512)] : List (Int × Int)).getD n (0, 0)) (fun i hi => by
    match i, hi with
    | 0, _ => exact ⟨part_10, part_0⟩
    | 1, _ => exact ⟨part_m2, part_2⟩
    | 2, _ => exact ⟨part_m2, part_0⟩
    | 3, _ => exact ⟨part_m2, part_m2⟩) (fun i hi => by
    match i, hi with
    | 0, _ => exact ⟨part_1, part_0⟩
    | 1, _ => exact ⟨part_1, part_0⟩
    | 2, _ => exact ⟨part_1, part_0⟩
    | 3, _ => exact ⟨part_1, part_0⟩)
    (fun k hk w => by
    match k, hk with
    | 0, _ => (show _ = _; kernel_rfl)
    | 1, _ => (show _ = _; kernel_rfl)
    | 2, _ => (show _ = _; kernel_rfl)
    | 3, _ => (show _ = _; kernel_rfl))
    (fun k hk w => by
    match k, hk with
    | 0, _ => (show _ = _; kernel_rfl)
    | 1, _ => (show _ = _; kernel_rfl)
    | 2, _ => (show _ = _; kernel_rfl)
    | 3, _ => (show _ = _; kernel_rfl))
    (fun k hk w => by
    match k, hk with
    | 0, _ => (show _ = _; kernel_rfl)
    | 1, _ => (show _ = _; kernel_rfl)
    | 2, _ => (show _ = _; kernel_rfl)
    | 3, _ => (show _ = _; kernel_rfl))
    (fun k hk w => by
    match k, hk with
    | 0, _ => (show _ = _; kernel_rfl)
    | 1, _ => (show _ = _; kernel_rfl)
    | 2, _ => (show _ = _; kernel_rfl)
    | 3, _ => (show _ = _; kernel_rfl))
    (fun k hk => by
    match k, hk with
    | 0, _ => (show _ = _; kernel_rfl)
    | 1, _ => (show _ = _; kernel_rfl)
    | 2, _ => (show _ = _; kernel_rfl)
    | 3, _ => (show _ = _; kernel_rfl))
    (fun k hk w => by
    match k, hk with
    | 0, _ => (show _ = _; kernel_rfl)
    | 1, _ => (show _ = _; kernel_rfl)
    | 2, _ => (show _ = _; kernel_rfl)
    | 3, _ => (show _ = _; kernel_rfl))
    (fun k hk w => by
    match k, hk with
    | 0, _ => (show _ = _; kernel_rfl)
    | 1, _ => (show _ = _; kernel_rfl)
    | 2, _ => (show _ = _; kernel_rfl)
    | 3, _ => (show _ = _; kernel_rfl))
    (fun k hk w => by
    match k, hk with
    | 0, _ => (show _ = _; kernel_rfl)
    | 1, _ => (show _ = _; kernel_rfl)
    | 2, _ => (show _ = _; kernel_rfl)
    | 3, _ => (show _ = _; kernel_rfl)) w

theorem bytesAt_blk {w : World} {g : Nat} {t : TypeId} (zs : List Int) (hb : AllB zs) (h : Blk w g t (bytesA zs)) : BytesAt w (some ⟨g, 0, none⟩) zs.length zs := by
  refine ⟨rfl, fun i hi => hb i hi, fun _ => ⟨g, 0, rfl, fun i hi => ?_⟩⟩
  rw [Nat.zero_add, h.cell i, bytesA_at zs i hi]
/-- A list of numbers that are bytes, by the kernel. -/
theorem allB_of {bs : List Int} (h : (bs.all fun b => decide (0 ≤ b ∧ b ≤ 255)) = true) : AllB bs := fun i hi => by
  rw [List.all_eq_true] at h
  have := h (bs.getD i 0) (by rw [List.getD_eq_getElem?_getD, List.getElem?_eq_getElem hi]; exact List.getElem_mem hi)
  simpa using this
theorem aw_seal (w : World) (g : Nat) (hx : Blk w g 5 #[.int .u8 5, .int .u8 1]) :
    Calls Tryz.prog 69 #[.agg #[.int .u8 0, .int .u8 0, .int .u8 0, .int .u8 0, .int .u8 0, .int .u8 0, .int .u8 0, .int .u8 0], .slice (some ⟨g, 0, none⟩) 2 2] w fun e w' => e = .returned (.tuple #[.agg #[.int .u8 24, .int .u8 92, .int .u8 200, .int .u8 92, .int .u8 24, .int .u8 252, .int .u8 8, .int .u8 60], .int .i64 0]) ∧ Below w.heap.size w w' := by
  have H := Seal_any 0 0 0 0 0 0 0 0 (some ⟨g, 0, none⟩) 2 2 [5, 1] w (by omega) (fun i hi => by
    match i, hi with
    | 0, _ => (constructor <;> decide)
    | 1, _ => (constructor <;> decide)
    | 2, _ => (constructor <;> decide)
    | 3, _ => (constructor <;> decide)
    | 4, _ => (constructor <;> decide)
    | 5, _ => (constructor <;> decide)
    | 6, _ => (constructor <;> decide)
    | 7, _ => (constructor <;> decide)) (bytesAt_blk [5, 1] (allB_of (by kernel_rfl)) hx)
  rw [show sealAt 0 0 [5, 1] = 24 by kernel_rfl, show sealAt 1 0 [5, 1] = 92 by kernel_rfl, show sealAt 2 0 [5, 1] = 200 by kernel_rfl, show sealAt 3 0 [5, 1] = 92 by kernel_rfl, show sealAt 4 0 [5, 1] = 24 by kernel_rfl, show sealAt 5 0 [5, 1] = 252 by kernel_rfl, show sealAt 6 0 [5, 1] = 8 by kernel_rfl, show sealAt 7 0 [5, 1] = 60 by kernel_rfl] at H
  exact H

/-- The frame of the examples. -/
def awFrame : List Int := [93, 4, 2, 2, 1, 1, 9, 0, 0, 0, 0, 0, 0, 0, 0, 0, 0, 0, 0, 0, 0, 0, 0, 0, 10, 118, 98, 78, 186, 38, 18, 254]
theorem aw_encode (w : World) : Calls Tryz.prog 67 #[.agg #[.int .u8 0, .int .u8 0, .int .u8 0, .int .u8 0, .int .u8 0, .int .u8 0, .int .u8 0, .int .u8 0], .agg #[.int .i64 4, .int .i64 2, .int .i64 258, .int .i64 1, .int .u8 9, .int .u8 0, .int .u8 0, .int .u8 0, .int .u8 0, .int .u8 0, .int .u8 0, .int .u8 0, .int .u8 0, .int .u8 0, .int .u8 0, .int .u8 0, .int .u8 0, .int .u8 0, .int .u8 0, .int .u8 0, .int .u8 0, .int .u8 0]] w fun e w' => e = .returned (.tuple #[.agg #[.int .u8 93, .int .u8 4, .int .u8 2, .int .u8 2, .int .u8 1, .int .u8 1, .int .u8 9, .int .u8 0, .int .u8 0, .int .u8 0, .int .u8 0, .int .u8 0, .int .u8 0, .int .u8 0, .int .u8 0, .int .u8 0, .int .u8 0, .int .u8 0, .int .u8 0, .int .u8 0, .int .u8 0, .int .u8 0, .int .u8 0, .int .u8 0, .int .u8 10, .int .u8 118, .int .u8 98, .int .u8 78, .int .u8 186, .int .u8 38, .int .u8 18, .int .u8 254], .int .i64 0]) ∧ Below w.heap.size w w' := by
  have H := Encode_any [0, 0, 0, 0, 0, 0, 0, 0] ⟨4, 2, 258, 1, [9, 0, 0, 0, 0, 0, 0, 0, 0, 0, 0, 0, 0, 0, 0, 0, 0, 0]⟩ w rfl (allB_of (by kernel_rfl)) rfl (allB_of (by kernel_rfl))
  rw [show Pk.err ⟨4, 2, 258, 1, [9, 0, 0, 0, 0, 0, 0, 0, 0, 0, 0, 0, 0, 0, 0, 0, 0, 0]⟩ = 0 by kernel_rfl, show encodeA [0, 0, 0, 0, 0, 0, 0, 0] ⟨4, 2, 258, 1, [9, 0, 0, 0, 0, 0, 0, 0, 0, 0, 0, 0, 0, 0, 0, 0, 0, 0]⟩ = #[.int .u8 93, .int .u8 4, .int .u8 2, .int .u8 2, .int .u8 1, .int .u8 1, .int .u8 9, .int .u8 0, .int .u8 0, .int .u8 0, .int .u8 0, .int .u8 0, .int .u8 0, .int .u8 0, .int .u8 0, .int .u8 0, .int .u8 0, .int .u8 0, .int .u8 0, .int .u8 0, .int .u8 0, .int .u8 0, .int .u8 0, .int .u8 0, .int .u8 10, .int .u8 118, .int .u8 98, .int .u8 78, .int .u8 186, .int .u8 38, .int .u8 18, .int .u8 254] by kernel_rfl] at H
  exact H

def awPack : List Int := [83, 78, 68, 49, 0, 2, 63, 128, 0, 0, 191, 0, 0, 0, 112, 236, 160, 76, 176, 140, 160, 172]
theorem awPack_eq : packL [1065353216, 3204448256] = awPack := by kernel_rfl
theorem flAt_two {w : World} {g : Nat} {t : TypeId} {a b : Nat} (h : Blk w g t #[.float .f32 a, .float .f32 b]) : FlAt w (some ⟨g, 0, none⟩) 2 [a, b] := by
  refine ⟨rfl, fun _ => ⟨g, 0, rfl, fun i hi => ?_⟩⟩
  match i, hi with
  | 0, _ => exact h.cell 0
  | 1, _ => exact h.cell 1
theorem good_two : ∀ i, i < 2 → Good 1149239296 ([1065353216, 3204448256].getD i 0) := fun i hi => by
  match i, hi with
  | 0, _ => exact good_1
  | 1, _ => exact good_half
theorem small_two : ∀ i, i < 2 → [1065353216, 3204448256].getD i 0 < 4294967296 ∧ ((([1065353216, 3204448256].getD i 0 : Nat) : Int) == 2147483648) = false := fun i hi => by
  match i, hi with
  | 0, _ => exact ⟨by decide, by decide⟩
  | 1, _ => exact ⟨by decide, by decide⟩
theorem in_two : ∀ b ∈ [1065353216, 3204448256], b < 4294967296 := by decide
theorem aw_pack (w : World) (g : Nat) (hx : Blk w g 37 #[.float .f32 1065353216, .float .f32 3204448256]) :
    Calls Tryz.prog 86 #[.slice (some ⟨g, 0, none⟩) 2 2] w fun e w' => ∃ h cap, e = .returned (.tuple #[.slice (some ⟨h, 0, none⟩) 22 cap, .int .i64 0]) ∧ 22 ≤ cap ∧ BytesAt w' (some ⟨h, 0, none⟩) 22 awPack ∧ Below w.heap.size w w' := by
  refine (Pack_of (some ⟨g, 0, none⟩) 2 2 [1065353216, 3204448256] w (by omega) (flAt_two hx) good_two small_two in_two).mono ?_
  rintro e w' ⟨v, rfl, hO, hb⟩
  rw [awPack_eq] at hO
  rcases hO.form with ⟨_, h⟩ | ⟨h, cap, rfl, _, _, h1, h2, _⟩
  · cases h
  · exact ⟨h, cap, rfl, h1, ⟨rfl, fun i hi => allB_of (bs := awPack) (by kernel_rfl) i hi, fun _ => ⟨h, 0, rfl, fun i hi => by rw [Nat.zero_add]; exact h2 i hi⟩⟩, hb⟩
theorem aw_unpack (w : World) (g cap : Nat) (hc : 22 ≤ cap) (hz : BytesAt w (some ⟨g, 0, none⟩) 22 awPack) :
    Calls Tryz.prog 87 #[.slice (some ⟨g, 0, none⟩) 22 cap] w fun e w' => ∃ A cap, e = .returned (.tuple #[.slice A 2 cap, .int .i64 0]) ∧ FlAt w' A 2 [1065353216, 3204448256] ∧ Below w.heap.size w w' := by
  refine (Unpack_of g cap 2 22 [1065353216, 3204448256] w rfl (by omega) rfl hc good_two small_two in_two (by rw [awPack_eq]; exact hz)).mono ?_
  rintro e w' ⟨v, rfl, hO, hb⟩
  obtain ⟨A, c, rfl, hf⟩ := hO.form
  exact ⟨A, c, rfl, hf, hb⟩
theorem aw_print (w : World) (g : Nat) (ht : Tab w) (hx : Blk w g 3 #[.int .i64 7, .int .i64 0]) :
    Calls Tryz.prog 92 #[.slice (some ⟨g, 0, none⟩) 2 2] w fun e w' => e = .returned (.tuple #[.string ⟨#[101, 110, 101, 114, 103, 105, 101, 115, 32, 50, 10, 101, 110, 101, 114, 103, 121, 32, 55, 10, 101, 110, 101, 114, 103, 121, 32, 48, 10]⟩, .int .i64 0]) ∧ Below w.heap.size w w' := by
  have H := Print_any (some ⟨g, 0, none⟩) 2 2 [7, 0] w (by omega) (intsAt_blk [7, 0] hx) ht
  rw [show printVal [7, 0] = ⟨#[101, 110, 101, 114, 103, 105, 101, 115, 32, 50, 10, 101, 110, 101, 114, 103, 121, 32, 55, 10, 101, 110, 101, 114, 103, 121, 32, 48, 10]⟩ by kernel_rfl, show printErr [7, 0] = 0 by kernel_rfl] at H
  exact H
theorem aw_sum (w : World) (g : Nat) (hx : Blk w g 3 #[.int .i64 7, .int .i64 5]) :
    Calls Tryz.prog 43 #[.slice (some ⟨g, 0, none⟩) 2 2] w fun e w' => e = .returned (.tuple #[.int .i64 12, .int .i64 0]) ∧ Below w.heap.size w w' := by
  have H := Sum_any (some ⟨g, 0, none⟩) 2 2 [7, 5] w (intsAt_blk [7, 5] hx) (by omega)
  rw [show sumVal [7, 5] = 12 by kernel_rfl, show sumErr [7, 5] = 0 by kernel_rfl] at H
  exact H
theorem aw_name1 (w : World) : Calls Tryz.prog 21 #[.string ⟨#[97, 95, 49]⟩] w fun e w' => e = .returned (.bool true) ∧ Below w.heap.size w w' := by
  have H := isName_any ⟨#[97, 95, 49]⟩ w (by decide)
  rw [show nameB ⟨#[97, 95, 49]⟩ = true by exact nameB_true ⟨by decide, by decide, fun i h => by
      match i, h with
      | 0, _ => rfl
      | 1, _ => rfl
      | 2, _ => rfl⟩] at H
  exact H
theorem aw_name2 (w : World) : Calls Tryz.prog 21 #[.string ⟨#[49, 97]⟩] w fun e w' => e = .returned (.bool false) ∧ Below w.heap.size w w' := by
  have H := isName_any ⟨#[49, 97]⟩ w (by decide)
  rw [show nameB ⟨#[49, 97]⟩ = false by exact nameB_bad 0 (by decide) (by decide)] at H
  exact H
end Go.Proofs.YtoipafnlcchmbaaGreatDoor
namespace Go.Proofs.YtoipafnlcchmbaaGreatDoor
open Go.RowKit

/-- How many counters lie between two, and which. -/
def gapN (a b : Int) : Nat := ((b - a - 1) % 65536).toNat
def gapTo (a : Int) (k : Nat) : List Int := (List.range k).map fun j : Nat => (a + 1 + (j : Int)) % 65536
theorem gapTo_succ (a : Int) (k : Nat) : gapTo a (k + 1) = gapTo a k ++ [(a + 1 + (k : Int)) % 65536] := by simp [gapTo, List.range_succ]
theorem gapTo_len (a : Int) (k : Nat) : (gapTo a k).length = k := by simp [gapTo]
def lostStep (st : Int) (s : Option Int × List Int) (p : Pk) : Option Int × List Int :=
  if p.st = st then (some p.ct, match s.1 with | none => s.2 | some a => s.2 ++ gapTo a (gapN a p.ct)) else s
def lostTo (st : Int) (l : List Pk) : Nat → Option Int × List Int
  | 0 => (none, [])
  | i + 1 => lostStep st (lostTo st l i) (l.getD i Pk.none)
theorem lostTo_mono (st : Int) (l : List Pk) (i j : Nat) (h : i ≤ j) : (lostTo st l i).2.length ≤ (lostTo st l j).2.length := by
  induction j with
  | zero => obtain rfl : i = 0 := by omega
            exact Nat.le_refl _
  | succ j ih =>
    by_cases he : i = j + 1
    · subst he; exact Nat.le_refl _
    · refine Nat.le_trans (ih (by omega)) ?_
      show _ ≤ (lostStep st (lostTo st l j) _).2.length
      unfold lostStep
      split
      · cases (lostTo st l j).1 with
        | none => exact Nat.le_refl _
        | some a => simp
      · exact Nat.le_refl _
/-- The cells of the box of the last packet. -/
def LastC (cs : Array Value) : Option Int → Prop
  | none => cs[22]? = some (.int .i64 (-1))
  | some a => cs[2]? = some (.int .i64 a) ∧ (0 ≤ a ∧ a ≤ 65535) ∧ ∃ q : Nat, q ≤ 1024 ∧ cs[22]? = some (.int .i64 (q : Int))
def LastAt (w : World) (b : Nat) (o : Option Int) : Prop := ∃ cs : Array Value, Blk w b 224 cs ∧ cs.size = 23 ∧ LastC cs o
theorem LastAt.lt {w : World} {b : Nat} {o : Option Int} (h : LastAt w b o) : b < w.heap.size := by
  obtain ⟨cs, hb, _⟩ := h
  exact lt_of_block hb
theorem LastAt.below {w w' : World} {b : Nat} {o : Option Int} (h : LastAt w b o) (hb : Below w.heap.size w w') : LastAt w' b o := by
  obtain ⟨cs, h1, h2⟩ := h
  exact ⟨cs, h1.below hb, h2⟩
theorem OwnI.keep_row {w : World} {base b : Nat} {v : Value} {zs : List Int} {t : TypeId} {cs : Array Value} (h : OwnI w base v zs) (hb : Blk w b t cs) (ht : t ≠ 3) (new : Array Value) : OwnI (w.setRow b new) base v zs := by
  unfold OwnI at *
  refine ⟨h.1, ?_⟩
  rcases h.2 with h0 | ⟨g, cap, cur, hv, h1, h2, h3⟩
  · exact .inl h0
  · refine .inr ⟨g, cap, cur, hv, h1, ?_, h3⟩
    have hne : g ≠ b := fun eg => by
      subst eg
      have := (show w.heap[g]? = _ from hb).symm.trans h2
      simp at this
      exact ht this.2
    exact (setRow_other w b g new hne).trans h2
/-- A block of another type is left as it is by an append to the own row. -/
theorem OwnI.blk_grown {W w w1 : World} {base b k : Nat} {v : Value} {xs : List Value} {t : TypeId} {cs : Array Value} (h : w.ownsRow base 3 1 v k xs) (hb : Blk W b t cs) (ht : t ≠ 3) (hW : Below W.heap.size W w)
    (hg : w.grownBy w1 v.ownBlock) : Blk w1 b t cs := by
  have h1 : Blk w b t cs := hb.below hW
  refine (hg.block b (lt_of_block h1) (fun ej => ?_)).trans h1
  rcases h.2 with ⟨rfl, _⟩ | ⟨g, cap, cur, rfl, _, h2, _⟩
  · simp [Value.ownBlock] at ej
  · obtain rfl : b = g := by simpa [Value.ownBlock] using ej
    have := (show w.heap[b]? = _ from h1).symm.trans h2
    simp only [Option.some.injEq, Obj.cells.injEq] at this
    exact ht this.2.1
theorem Pk.err_ct {p : Pk} (h : p.err = 0) : 0 ≤ p.ct ∧ p.ct ≤ 65535 := by
  unfold Pk.err packetE at h
  dsimp only at h
  by_cases h0 : firstE [withinE p.st 0 255, withinE p.kd 0 255, withinE p.ct 0 65535, withinE p.ln 0 18] = 0
  · exact (firstE_within h0).2.2.1
  · rw [if_neg h0] at h
    exact absurd h h0
theorem gap_step (a b : Int) (j : Nat) (hb : 0 ≤ b ∧ b ≤ 65535) (hj : j ≤ gapN a b) : ((a + 1 + (j : Int)) % 65536 = b ↔ j = gapN a b) := by
  unfold gapN at *
  omega

theorem wpList_build_as {P : Program} {ops : Array Oper} {rest : List Oper} {o : Oper} {a : Act} {w : World} {Q : Exit → Act → World → Prop} (hg : o.guard = none) (t : TypeId) (parts : Array (Nat × Operand)) (ho : o.op = .build t parts)
    (cells : Array Value) (hc : P.built t (parts.map fun (i, x) => (i, a.eval x)).toList = some cells)
    (h : wpList P ops Q rest (a.put o.dst (.agg cells)) w) : wpList P ops Q (o :: rest) a w :=
  wpList_build hg t parts ho (by rw [hc]; rfl) (by rw [hc]; exact h)
theorem built_last : Tryz.prog.built 224 [(1, .int .i64 (-1))] = some #[.int .i64 0, .int .i64 0, .int .i64 0, .int .i64 0, .int .u8 0, .int .u8 0, .int .u8 0, .int .u8 0, .int .u8 0, .int .u8 0, .int .u8 0, .int .u8 0, .int .u8 0, .int .u8 0, .int .u8 0, .int .u8 0, .int .u8 0, .int .u8 0, .int .u8 0, .int .u8 0, .int .u8 0, .int .u8 0, .int .i64 (-1)] := by kernel_rfl
theorem built_placed (cs : Array Value) (h : cs.size = 22) (k : Int) : Tryz.prog.built 224 [(0, .agg cs), (1, .int .i64 k)] = some (cs.push (.int .i64 k)) := by
  obtain ⟨l⟩ := cs
  match l, h with
  | [c0, c1, c2, c3, c4, c5, c6, c7, c8, c9, c10, c11, c12, c13, c14, c15, c16, c17, c18, c19, c20, c21], _ => show _ = _; kernel_rfl

set_option maxHeartbeats 4000000 in
set_option maxRecDepth 100000 in
theorem Lost_of (A : Option Addr) (n c : Nat) (l : List Pk) (st : Int) (w : World) (hn : n ≤ 1024) (hz : PksAt w A n l) (hv : firstInP l = 0) (hst : 0 ≤ st ∧ st ≤ 255) (hm : (lostTo st l n).2.length ≤ 256) :
    Calls Tryz.prog 77 #[.slice A n c, .int .i64 st] w fun e w' => ∃ v, e = .returned (.tuple #[v, .int .i64 0]) ∧ OwnI w' w.heap.size v (lostTo st l n).2 ∧ Below w.heap.size w w' := by
  obtain ⟨i0, hi, hz0, hz1, hz2⟩ := info_parts infoInt
  have HZ := Lib.hid hz
  have HV := Lib.hid hv
  have HM := Lib.hid hm
  have e0 : atMostE n 1024 = 0 := by unfold atMostE; rw [if_neg (by omega)]
  have e1 : withinE st 0 255 = 0 := by unfold withinE; rw [if_neg (by omega)]
  clear hz hv hm
  go_enter Tryz.func77, Tryz.ntmps77
  go_wp2_with fail
  go_step3
  go_wp2_with fail
  refine (atMost_packet A n c 1024 _).mono ?_
  rintro e w1 ⟨rfl, rfl⟩
  rw [e0]
  go_wp2_with fail
  refine (firstIn_packet A n c l _ (by omega) HZ.out).mono ?_
  rintro e w1 ⟨rfl, hb1⟩
  rw [HV.out]
  have HZ1 := Lib.hid (HZ.out.keep hb1)
  have HB1 := Lib.hid hb1
  clear hb1
  go_wp2_with fail
  refine (checkStation_any st _).mono ?_
  rintro e w' ⟨rfl, rfl⟩
  rw [e1]
  go_wp2_with fail
  refine (first3 _ _ 0 0 0 _ (by go_simp) (by go_simp) (by go_simp)).mono ?_
  rintro e w' ⟨rfl, rfl⟩
  rw [show firstE [0, 0, 0] = 0 from rfl]
  clear e0 e1
  obtain ⟨lc, hlc⟩ : ∃ lc : Array Value, lc = #[.int .i64 0, .int .i64 0, .int .i64 0, .int .i64 0, .int .u8 0, .int .u8 0, .int .u8 0, .int .u8 0, .int .u8 0, .int .u8 0, .int .u8 0, .int .u8 0, .int .u8 0, .int .u8 0, .int .u8 0, .int .u8 0, .int .u8 0, .int .u8 0, .int .u8 0, .int .u8 0, .int .u8 0, .int .u8 0, .int .i64 (-1)] := ⟨_, rfl⟩
  have HLC := Lib.hid hlc
  have HLS : Hid (lc.size = 23) := by show _ = _; rw [hlc]; rfl
  have HL1 : Hid (lc.all (·.oneCell') = true) := by show _ = _; rw [hlc]; simp [Value.oneCell']
  have HL2 : Hid (LastC lc none) := by show LastC _ _; rw [hlc]; rfl
  have HLI : Hid ((Tryz.prog.info? 224).map (·.size) = some lc.size) := by show _ = _; rw [HLS.out]; kernel_rfl
  have HLZ : Hid ((#[.int .i64 0, .int .i64 0, .int .i64 0, .int .i64 0, .int .u8 0, .int .u8 0, .int .u8 0, .int .u8 0, .int .u8 0, .int .u8 0, .int .u8 0, .int .u8 0, .int .u8 0, .int .u8 0, .int .u8 0, .int .u8 0, .int .u8 0, .int .u8 0, .int .u8 0, .int .u8 0, .int .u8 0, .int .u8 0, .int .i64 0] : Array Value).size = lc.size) := by show _ = _; rw [HLS.out]; rfl
  clear hlc
  go_upto_region 5 with fail
  refine wp_region_lit ?_
  refine wpList_build_as rfl 224 _ rfl lc (by rw [HLC.out]; simp only [List.map_toArray, List.map_cons, List.map_nil]; exact built_last) ?_
  go_wp2_with (refine wpList_store_row rfl 224 _ _ rfl (w'.heap.size + 1) lc rfl rfl 224 _ (Blk.at_size _ _ (by simp)) HLI.out HLZ.out HL1.out ?_)
  obtain ⟨W0, hW0⟩ : ∃ X, X = ((w'.alloc (.cells #[.int .i64 0, .int .i64 0, .int .i64 0] 27)).alloc (.cells #[.int .i64 0, .int .i64 0, .int .i64 0, .int .i64 0, .int .u8 0, .int .u8 0, .int .u8 0, .int .u8 0, .int .u8 0, .int .u8 0, .int .u8 0, .int .u8 0, .int .u8 0, .int .u8 0, .int .u8 0, .int .u8 0, .int .u8 0, .int .u8 0, .int .u8 0, .int .u8 0, .int .u8 0, .int .u8 0, .int .i64 0] 224)).setRow (w'.heap.size + 1) lc := ⟨_, rfl⟩
  rw [← hW0]
  have hf := box_facts_row (W := w'.alloc (.cells #[.int .i64 0, .int .i64 0, .int .i64 0] 27)) #[.int .i64 0, .int .i64 0, .int .i64 0, .int .i64 0, .int .u8 0, .int .u8 0, .int .u8 0, .int .u8 0, .int .u8 0, .int .u8 0, .int .u8 0, .int .u8 0, .int .u8 0, .int .u8 0, .int .u8 0, .int .u8 0, .int .u8 0, .int .u8 0, .int .u8 0, .int .u8 0, .int .u8 0, .int .u8 0, .int .i64 0] lc 224 (g := w'.heap.size + 1) (by simp) W0 hW0
  have HLK := Lib.hid hf.1
  have HB2 : Hid (Below w.heap.size w W0) := (HB1.out.alloc HB1.out.size _).trans (hf.2.mono (by have := HB1.out.size; simp; omega))
  have HZ2 : Hid (PksAt W0 A n l) := (HZ1.out.keep ((Below.refl _ _).alloc (Nat.le_refl _) _)).keep hf.2
  have hlb : w.heap.size ≤ w'.heap.size + 1 := by have := HB1.out.size; omega
  obtain ⟨b, hb⟩ : ∃ b, b = w'.heap.size + 1 := ⟨_, rfl⟩
  rw [← hb] at HLK hlb ⊢
  clear hf hW0 hb HZ1 HB1 HLC
  go_step3
  go_wp2
  go_loopw [7, 9, 10, 11, 27] (fun v _ _ _ i wr => ∃ k : Nat, k ≤ n ∧ i = .int .i64 k ∧ OwnI wr w.heap.size v (lostTo st l k).2 ∧ LastAt wr b (lostTo st l k).1 ∧ Below w.heap.size w wr) (fun _ _ _ _ i _ => n - (intOf i).toNat)
  case atStart => exact ⟨0, Nat.zero_le _, rfl, OwnI.nil _ _, ⟨lc, HLK.out, HLS.out, HL2.out⟩, HB2.out⟩
  case round =>
    clear HLK HLS HL1 HL2 HLI HLZ HB2
    obtain ⟨k, hk, rfl, hown, hlast, hbw⟩ := hrel
    by_cases hlt : k < n
    · obtain ⟨pb, off, rfl, hcc⟩ := (HZ.out.keep hbw).2.2 (by omega)
      obtain ⟨p, hp⟩ : ∃ p, p = l.getD k Pk.none := ⟨_, rfl⟩
      have hps := HZ.out.2.1 k hlt
      have c1 := hcc k hlt
      rw [← hp] at c1 hps
      have HCT : Hid (0 ≤ p.ct ∧ p.ct ≤ 65535) := by
        show _ ∧ _
        refine Pk.err_ct ?_
        rw [hp]; exact firstInP_zero l HV.out k (by rw [HZ.out.1]; exact hlt)
      have HST : Hid (lostTo st l (k + 1) = lostStep st (lostTo st l k) p) := by rw [hp]; exact rfl
      have HM1 : Hid ((lostTo st l (k + 1)).2.length ≤ 256) := Nat.le_trans (lostTo_mono st l (k + 1) n (by omega)) HM.out
      obtain ⟨cs, hcs⟩ : ∃ cs, cs = p.cells := ⟨_, rfl⟩
      have hsz : Hid (cs.size = 22) := by rw [hcs]; exact Pk.size hps
      have hone : Hid (cs.all (·.oneCell') = true) := by rw [hcs]; exact pkA_one ..
      have HC0 : Hid (cs[0]? = some (.int .i64 p.st)) := by rw [hcs]; exact pkA_0 ..
      have HC2 : Hid (cs[2]? = some (.int .i64 p.ct)) := by rw [hcs]; exact pkA_2 ..
      have C1 : Hid (∀ j, j < cs.size → wr.cell? ⟨pb, off + k * 22 + j, none⟩ = cs[j]?) := by
        show ∀ j, _ → _
        rw [hsz.out, hcs]; exact c1
      have hinfo : Hid ((Tryz.prog.info? 101).map (·.size) = some cs.size) := by show _ = _; rw [hsz.out]; kernel_rfl
      have BZ : Hid (Blk (wr.alloc (.cells #[.int .i64 0, .int .i64 0, .int .i64 0, .int .i64 0, .int .u8 0, .int .u8 0, .int .u8 0, .int .u8 0, .int .u8 0, .int .u8 0, .int .u8 0, .int .u8 0, .int .u8 0, .int .u8 0, .int .u8 0, .int .u8 0, .int .u8 0, .int .u8 0, .int .u8 0, .int .u8 0, .int .u8 0, .int .u8 0] 101)) wr.heap.size 101 #[.int .i64 0, .int .i64 0, .int .i64 0, .int .i64 0, .int .u8 0, .int .u8 0, .int .u8 0, .int .u8 0, .int .u8 0, .int .u8 0, .int .u8 0, .int .u8 0, .int .u8 0, .int .u8 0, .int .u8 0, .int .u8 0, .int .u8 0, .int .u8 0, .int .u8 0, .int .u8 0, .int .u8 0, .int .u8 0]) := Blk.new wr _ _
      have ho : Hid ((#[.int .i64 0, .int .i64 0, .int .i64 0, .int .i64 0, .int .u8 0, .int .u8 0, .int .u8 0, .int .u8 0, .int .u8 0, .int .u8 0, .int .u8 0, .int .u8 0, .int .u8 0, .int .u8 0, .int .u8 0, .int .u8 0, .int .u8 0, .int .u8 0, .int .u8 0, .int .u8 0, .int .u8 0, .int .u8 0] : Array Value).size = cs.size) := by show _ = _; rw [hsz.out]; rfl
      have HOW := Lib.hid hown
      have HLA := Lib.hid hlast
      have HBW := Lib.hid hbw
      clear hcc hp c1 hcs hown hlast hbw hps
      go_upto_region 9 with (first
        | (refine wpList_load_midA rfl 101 _ rfl pb (off + k * 22) rfl cs _ C1.out Tryz.underlying101 rfl hinfo.out ?_)
        | (refine wpList_store_row rfl 101 _ _ rfl wr.heap.size cs rfl rfl 101 _ BZ.out hinfo.out ho.out hone.out ?_))
      obtain ⟨W1, hW1⟩ : ∃ X, X = (wr.alloc (.cells #[.int .i64 0, .int .i64 0, .int .i64 0, .int .i64 0, .int .u8 0, .int .u8 0, .int .u8 0, .int .u8 0, .int .u8 0, .int .u8 0, .int .u8 0, .int .u8 0, .int .u8 0, .int .u8 0, .int .u8 0, .int .u8 0, .int .u8 0, .int .u8 0, .int .u8 0, .int .u8 0, .int .u8 0, .int .u8 0] 101)).setRow wr.heap.size cs := ⟨_, rfl⟩
      rw [← hW1]
      have hf := box_facts_row (W := wr) #[.int .i64 0, .int .i64 0, .int .i64 0, .int .i64 0, .int .u8 0, .int .u8 0, .int .u8 0, .int .u8 0, .int .u8 0, .int .u8 0, .int .u8 0, .int .u8 0, .int .u8 0, .int .u8 0, .int .u8 0, .int .u8 0, .int .u8 0, .int .u8 0, .int .u8 0, .int .u8 0, .int .u8 0, .int .u8 0] cs 101 rfl W1 hW1
      have HQ := Lib.hid hf.1
      have HOW1 := Lib.hid (HOW.out.below hf.2)
      have HLA1 := Lib.hid (HLA.out.below hf.2)
      have HBW1 := Lib.hid (HBW.out.trans (hf.2.mono HBW.out.size))
      obtain ⟨q, hq⟩ : ∃ q, q = wr.heap.size := ⟨_, rfl⟩
      rw [← hq] at HQ ⊢
      clear hf hW1 HOW HLA HBW C1 BZ ho hq
      have hsz1 : w.heap.size ≤ W1.heap.size := HBW1.out.size
      have x0 : W1.cell? ⟨q, 0, none⟩ = some (.int .i64 p.st) := (HQ.out.cell 0).trans HC0.out
      by_cases hs : p.st = st
      · have hn0 : (p.st != st) = false := by simp [hs]
        have hone2 : Hid ((cs.push (.int .i64 (k : Int))).all (·.oneCell') = true) := by show _ = _; rw [Array.all_push, hone.out]; rfl
        have hinfo2 : Hid ((Tryz.prog.info? 224).map (·.size) = some (cs.push (.int .i64 (k : Int))).size) := by show _ = _; rw [Array.size_push, hsz.out]; kernel_rfl
        obtain ⟨lc2, hlb2, hls2, hl2⟩ := HLA1.out
        have HLS2 : Hid (lc2.size = (cs.push (.int .i64 (k : Int))).size) := by show _ = _; rw [hls2, Array.size_push, hsz.out]
        have HS := Lib.hid hs
        have HOW := Lib.hid HOW1.out
        have HBW := Lib.hid HBW1.out
        have HLB := Lib.hid hlb2
        clear HLA1 hs HOW1 HBW1 hls2 hlb2
        cases hla : (lostTo st l k).1 with
        | none =>
          rw [hla] at hl2
          have y22 : W1.cell? ⟨b, 22, none⟩ = some (.int .i64 (-1)) := (HLB.out.cell 22).trans hl2
          have HNX : Hid (lostTo st l (k + 1) = (some p.ct, (lostTo st l k).2)) := by
            show _ = _
            rw [HST.out]; unfold lostStep; rw [if_pos HS.out, hla]
          have hm1 : ((-1 : Int) != -1) = false := rfl
          clear hl2 hla HST HM1
          go_upto_region 16 with fail
          go_wp2_with (first
            | (refine wpList_load_row rfl 101 _ rfl q rfl 101 cs (0, 0) _ HQ.out Tryz.underlying101 rfl hinfo.out ?_)
            | (refine wpList_build_as rfl 224 _ rfl (cs.push (.int .i64 (k : Int))) (by simp only [List.map_toArray, List.map_cons, List.map_nil]; exact built_placed cs hsz.out (k : Int)) ?_)
            | (refine wpList_store_row rfl 224 _ _ rfl b (cs.push (.int .i64 (k : Int))) rfl rfl 224 _ HLB.out hinfo2.out HLS2.out hone2.out ?_))
          have HP2 : Hid (LastAt (W1.setRow b (cs.push (.int .i64 (k : Int)))) b (some p.ct)) := ⟨_, HLB.out.setRow _, by rw [Array.size_push, hsz.out], by rw [Array.getElem?_push_lt (by rw [hsz.out]; omega)]; exact (Array.getElem?_eq_getElem _).symm.trans HC2.out, HCT.out, k, by omega, by rw [← hsz.out, Array.getElem?_push_size]⟩
          have HO2 := Lib.hid (HOW.out.keep_row HLB.out (by decide) (cs.push (.int .i64 (k : Int))))
          have HB9 := Lib.hid (HBW.out.setRow' hlb (cs.push (.int .i64 (k : Int))))
          clear HLB HOW HBW HQ
          go_wp2
          go_roundw
          case rel =>
            refine ⟨k + 1, by omega, by go_num, ?_, ?_, HB9.out⟩
            · rw [HNX.out]; exact HO2.out
            · rw [HNX.out]; exact HP2.out
          case measure => simp [intOf]; omega
        | some a =>
          rw [hla] at hl2
          obtain ⟨hl3, ha, q2, hq2, hl4⟩ := hl2
          have y22 : W1.cell? ⟨b, 22, none⟩ = some (.int .i64 (q2 : Int)) := (HLB.out.cell 22).trans hl4
          have y2 : W1.cell? ⟨b, 2, none⟩ = some (.int .i64 a) := (HLB.out.cell 2).trans hl3
          have HNX : Hid (lostTo st l (k + 1) = (some p.ct, (lostTo st l k).2 ++ gapTo a (gapN a p.ct))) := by
            show _ = _
            rw [HST.out]; unfold lostStep; rw [if_pos HS.out, hla]
          obtain ⟨acc, hacc⟩ : ∃ acc, acc = (lostTo st l k).2 := ⟨_, rfl⟩
          rw [← hacc] at HNX HOW
          have HLN : Hid (acc.length + gapN a p.ct ≤ 256) := by
            have := HM1.out
            rw [HNX.out, List.length_append, gapTo_len] at this
            exact this
          have HA := Lib.hid ha
          have hq3 : ((q2 : Int) != -1) = true := by simp
          clear hl3 hl4 hla HST HM1 hacc ha
          go_wp2_with fail
          refine (following_any a _ HA.out.1 HA.out.2).mono ?_
          rintro e w' ⟨rfl, rfl⟩
          go_wp2
          go_loopw [7, 11] (fun v c wr2 => ∃ j : Nat, j ≤ gapN a p.ct ∧ c = .int .i64 ((a + 1 + (j : Int)) % 65536) ∧ OwnI wr2 w.heap.size v (acc ++ gapTo a j) ∧ Blk wr2 b 224 lc2 ∧ Blk wr2 q 101 cs ∧ Below w.heap.size w wr2) (fun _ c _ => ((p.ct - intOf c) % 65536).toNat)
          case atStart => exact ⟨0, Nat.zero_le _, by show Value.int .i64 (followE a) = _; unfold followE; simp, by simpa [gapTo] using HOW.out, HLB.out, HQ.out, HBW.out⟩
          case round =>
            clear HOW HLB HQ HBW y22 y2 x0 hsz1
            obtain ⟨j, hj, rfl, hown, hlb3, hq4, hbw⟩ := hrel
            have hsz1 : w.heap.size ≤ wr.heap.size := hbw.size
            have HLB := Lib.hid hlb3
            have HQ := Lib.hid hq4
            have HBW := Lib.hid hbw
            have x2 : wr.cell? ⟨q, 2, none⟩ = some (.int .i64 p.ct) := (HQ.out.cell 2).trans HC2.out
            have hgs := gap_step a p.ct j HCT.out hj
            obtain ⟨cc, hcc⟩ : ∃ cc, cc = (a + 1 + (j : Int)) % 65536 := ⟨_, rfl⟩
            rw [← hcc] at hgs ⊢
            have HCC := Lib.hid hcc
            have hcb : 0 ≤ cc ∧ cc ≤ 65535 := by omega
            clear hlb3 hq4 hbw hcc
            by_cases hje : j = gapN a p.ct
            · have hcc2 : cc = p.ct := hgs.mpr hje
              have hn1 : (cc != p.ct) = false := by simp [hcc2]
              rw [hje] at hown
              have HOW := Lib.hid hown
              clear hown hgs hj hje hcc2 HCC hcb HLN HA
              go_wp2_with (first
                | (refine wpList_load_row rfl 101 _ rfl q rfl 101 cs (0, 0) _ HQ.out Tryz.underlying101 rfl hinfo.out ?_)
                | (refine wpList_build_as rfl 224 _ rfl (cs.push (.int .i64 (k : Int))) (by simp only [List.map_toArray, List.map_cons, List.map_nil]; exact built_placed cs hsz.out (k : Int)) ?_)
                | (refine wpList_store_row rfl 224 _ _ rfl b (cs.push (.int .i64 (k : Int))) rfl rfl 224 _ HLB.out hinfo2.out HLS2.out hone2.out ?_))
              have HP2 : Hid (LastAt (wr.setRow b (cs.push (.int .i64 (k : Int)))) b (some p.ct)) := ⟨_, HLB.out.setRow _, by rw [Array.size_push, hsz.out], by rw [Array.getElem?_push_lt (by rw [hsz.out]; omega)]; exact (Array.getElem?_eq_getElem _).symm.trans HC2.out, HCT.out, k, by omega, by rw [← hsz.out, Array.getElem?_push_size]⟩
              have HO2 := Lib.hid (HOW.out.keep_row HLB.out (by decide) (cs.push (.int .i64 (k : Int))))
              have HB9 := Lib.hid (HBW.out.setRow' hlb (cs.push (.int .i64 (k : Int))))
              clear HLB HOW HBW HQ
              go_wp2
              go_roundw
              case rel =>
                refine ⟨k + 1, by omega, by go_num, ?_, ?_, HB9.out⟩
                · rw [HNX.out]; exact HO2.out
                · rw [HNX.out]; exact HP2.out
              case measure => simp [intOf]; omega
            · have hcn : cc ≠ p.ct := fun h => hje (hgs.mp h)
              have hn1 : (cc != p.ct) = true := by simp [hcn]
              have hown0 : wr.ownsRow w.heap.size 3 1 u7 (acc.length + j) ((acc ++ gapTo a j).map (Value.int .i64)) := by
                have := hown
                unfold OwnI at this
                rwa [List.length_append, gapTo_len] at this
              have hln := HLN.out
              have hd : decide ((256 : Int) < (acc.length : Int) + (j : Int) + 1) = false := decide_eq_false (by omega)
              clear hown hgs
              go_wp2_with (at_builtin; refine wpList_append_own _ rfl _ _ 26 rfl w.heap.size 3 i0 (.int .i64 0) 1 8 Tryz.underlying26 hi hz0 hz1 hz2 rfl (by decide) _ _ _ rfl (World.ownsRow.alloc hown0 _) ⟨wr.heap.size, 0, none⟩ 1 1 [.int .i64 cc] rfl rfl (cell_one_new _ _ _) (by simp [Value.oneCell']) (by unfold maxLen; omega) (by omega) (by simp; omega) ?_; intro v' w1 hown' hgrow _; obtain ⟨g', cap', rfl⟩ := ownsRow_succ hown')
              have R : OwnI w1 w.heap.size (.slice (some ⟨g', 0, none⟩) (acc.length + j + 1) cap') (acc ++ gapTo a (j + 1)) := by
                unfold OwnI
                rw [gapTo_succ, ← List.append_assoc, ← HCC.out, List.length_append, List.length_append, gapTo_len, List.map_append]
                exact hown'
              have B1 : Below w.heap.size w w1 := Below.grown (HBW.out.alloc (by omega) _) hgrow (by simp; omega) (fun j hj => (hown0.lt j hj).1)
              have L1 : Blk w1 b 224 lc2 := OwnI.blk_grown (World.ownsRow.alloc hown0 _) HLB.out (by decide) ((Below.refl _ _).alloc (Nat.le_refl _) _) hgrow
              have Q1 : Blk w1 q 101 cs := OwnI.blk_grown (World.ownsRow.alloc hown0 _) HQ.out (by decide) ((Below.refl _ _).alloc (Nat.le_refl _) _) hgrow
              clear hown' hgrow hown0 HBW HLB HQ x2
              go_wp2_with fail
              refine (following_any cc _ hcb.1 hcb.2).mono ?_
              rintro e w' ⟨rfl, rfl⟩
              go_wp2
              go_roundw
              case rel =>
                refine ⟨j + 1, by omega, ?_, R, L1, Q1, B1⟩
                have hcf : followE cc = (a + 1 + ((j + 1 : Nat) : Int)) % 65536 := by
                  have := HCC.out
                  unfold followE
                  push_cast
                  omega
                rw [← hcf]
              case measure =>
                have hc9 := HCT.out
                simp only [intOf, followE]
                omega
      · have hn0 : (p.st != st) = true := by simp [hs]
        have HNX : Hid (lostTo st l (k + 1) = lostTo st l k) := by
          show _ = _
          rw [HST.out]; unfold lostStep; rw [if_neg hs]
        clear hs HST HM1
        go_wp2
        go_roundw
        case rel =>
          refine ⟨k + 1, by omega, by go_num, ?_, ?_, HBW1.out⟩
          · rw [HNX.out]; exact HOW1.out
          · rw [HNX.out]; exact HLA1.out
        case measure => simp [intOf]; omega
    · obtain rfl : k = n := by omega
      have HOW := Lib.hid hown
      have HBW := Lib.hid hbw
      clear hown hbw hlast
      have hform : ∃ A c, u7 = .slice A (lostTo st l k).2.length c := by
        rcases HOW.out.form with ⟨h, h0⟩ | ⟨g, cap, h, _⟩
        · exact ⟨none, 0, by rw [h, h0]; rfl⟩
        · exact ⟨_, _, h⟩
      obtain ⟨A7, c7, rfl⟩ := hform
      have e7 : Hid (atMostE (lostTo st l k).2.length 256 = 0) := by
        show _ = _
        unfold atMostE
        rw [if_neg (by have := HM.out; omega)]
      obtain ⟨L7, hL7⟩ : ∃ L7, L7 = (lostTo st l k).2 := ⟨_, rfl⟩
      rw [← hL7] at HOW e7 ⊢
      have HL7 := Lib.hid hL7
      clear hL7 HM
      go_wp2_with fail
      refine (atMost_int _ _ _ 256 _).mono ?_
      rintro e w' ⟨rfl, rfl⟩
      rw [e7.out]
      go_wp2
      delta Exit.noGoto
      dsimp only
      go_ret2
      exact ⟨_, rfl, by rw [← HL7.out]; exact HOW.out, HBW.out⟩
end Go.Proofs.YtoipafnlcchmbaaGreatDoor
