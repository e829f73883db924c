/- The law's fixed example. -/
import Derived.Test.YtnbionhahifacaaDoorIl
import Derived.Test.YtnbionhahifacaaDoorQB
import Derived.Test.YtnbionhahifacaaDoorQC
namespace Go.Proofs.YtnbionhahifacaaDoor
open Go.RowKit Go.Sort

def jetT : Bell.Ty := ⟨[1000, 1000, 1000, 1000, 500, 500, 500, 500], 500, [0], [(10, [1000]), (20, [2000])]⟩
def jetL : List Bell.Fx := [⟨5, 0, 0, 0, 10⟩, ⟨9, 8, 0, 0, 20⟩]
theorem jet_ok : GoodT [1000] jetT := ⟨rfl, by decide⟩
theorem jet_tr : Bell.GoodTr jetL := Bell.track_of (by decide)
theorem jet_sum : Bell.expoOf jetT jetL ⟨4, 2, 0⟩ 5 9 = 2700 := by decide
theorem jet_pl : GoodPl ⟨4, 2, 0⟩ := by unfold GoodPl; decide
theorem jet_name : nameB ⟨#[106, 101, 116]⟩ = true := nameB_true ⟨by decide, by decide, fun i h => by
  match i, h with
  | 0, _ => rfl
  | 1, _ => rfl
  | 2, _ => rfl⟩
theorem jet_level : levelR 2700 = 24 := by kernel_rfl
theorem jet_levelE : checkEnergyE 2700 = 0 := by kernel_rfl
theorem jet_add : sumVal [500, 600, 750, 850] = 2700 := by kernel_rfl
theorem jet_addE : sumErr [500, 600, 750, 850] = 0 := by kernel_rfl

set_option maxHeartbeats 2000000 in
set_option maxRecDepth 100000 in
theorem bellSum_any (w : World) (hs : Steps w) :
    Calls Tryd.prog 5 #[] w fun e w' => e = .returned (.bool true) ∧ Below w.heap.size w w' := by
  have HS := Lib.hid hs
  clear hs
  go_enter Tryd.func5, Tryd.ntmps5
  go_upto_region 2 with fail
  obtain ⟨w1, hw1⟩ : ∃ W, W = ((((((w.alloc (.cells #[.int .i64 1000] 3)).alloc (.cells #[.int .i64 0] 3)).alloc (.cells #[.int .i64 1000] 3)).alloc (.cells #[.int .i64 2000] 3)).alloc (.cells #[.int .i64 10, .slice (some ⟨w.heap.size + 1 + 1, 0, none⟩) 1 1, .int .i64 20, .slice (some ⟨w.heap.size + 1 + 1 + 1, 0, none⟩) 1 1] 67)).alloc (.cells #[.string ⟨#[106, 101, 116]⟩, .slice (some ⟨w.heap.size, 0, none⟩) 1 1, .int .i64 1000, .int .i64 1000, .int .i64 1000, .int .i64 1000, .int .i64 500, .int .i64 500, .int .i64 500, .int .i64 500, .int .i64 500, .slice (some ⟨w.heap.size + 1, 0, none⟩) 1 1, .slice (some ⟨w.heap.size + 1 + 1 + 1 + 1, 0, none⟩) 2 2] 47)) := ⟨_, rfl⟩
  rw [← hw1]
  have B0 : Blk w1 (w.heap.size) 3 #[.int .i64 1000] := by rw [hw1]; exact ((((((Blk.new _ _ _).alloc _).alloc _).alloc _).alloc _).alloc _)
  have B1 : Blk w1 (w.heap.size + 1) 3 #[.int .i64 0] := by rw [hw1]; exact (((((Blk.at_size _ _ (by simp)).alloc _).alloc _).alloc _).alloc _)
  have B2 : Blk w1 (w.heap.size + 1 + 1) 3 #[.int .i64 1000] := by rw [hw1]; exact ((((Blk.at_size _ _ (by simp)).alloc _).alloc _).alloc _)
  have B3 : Blk w1 (w.heap.size + 1 + 1 + 1) 3 #[.int .i64 2000] := by rw [hw1]; exact (((Blk.at_size _ _ (by simp)).alloc _).alloc _)
  have B4 : Blk w1 (w.heap.size + 1 + 1 + 1 + 1) 67 #[.int .i64 10, .slice (some ⟨w.heap.size + 1 + 1, 0, none⟩) 1 1, .int .i64 20, .slice (some ⟨w.heap.size + 1 + 1 + 1, 0, none⟩) 1 1] := by rw [hw1]; exact ((Blk.at_size _ _ (by simp)).alloc _)
  have B5 : Blk w1 (w.heap.size + 1 + 1 + 1 + 1 + 1) 47 #[.string ⟨#[106, 101, 116]⟩, .slice (some ⟨w.heap.size, 0, none⟩) 1 1, .int .i64 1000, .int .i64 1000, .int .i64 1000, .int .i64 1000, .int .i64 500, .int .i64 500, .int .i64 500, .int .i64 500, .int .i64 500, .slice (some ⟨w.heap.size + 1, 0, none⟩) 1 1, .slice (some ⟨w.heap.size + 1 + 1 + 1 + 1, 0, none⟩) 2 2] := by rw [hw1]; exact (Blk.at_size _ _ (by simp))
  have HB1 : Hid (Below w.heap.size w w1) := by show Below _ _ _; rw [hw1]; exact (((((((Below.refl _ _).alloc (Nat.le_refl _) _).alloc (by simp) _).alloc (by simp; omega) _).alloc (by simp; omega) _).alloc (by simp; omega) _).alloc (by simp; omega) _)
  obtain ⟨s0, hs0⟩ : ∃ x, x = w.heap.size := ⟨_, rfl⟩
  rw [← hs0] at B0 B1 B2 B3 B4 B5 ⊢
  clear hw1 hs0
  have TO : Hid (TyOk w1 #[.string ⟨#[106, 101, 116]⟩, .slice (some ⟨s0, 0, none⟩) 1 1, .int .i64 1000, .int .i64 1000, .int .i64 1000, .int .i64 1000, .int .i64 500, .int .i64 500, .int .i64 500, .int .i64 500, .int .i64 500, .slice (some ⟨s0 + 1, 0, none⟩) 1 1, .slice (some ⟨s0 + 1 + 1 + 1 + 1, 0, none⟩) 2 2] ⟨#[106, 101, 116]⟩ [1000] jetT (some ⟨s0, 0, none⟩) 1 1 (s0 + 1) 0 1 1 (s0 + 1 + 1 + 1 + 1) 0 2 2) := by
    refine ⟨⟨rfl, ⟨rfl, fun _ => ⟨s0, 0, rfl, fun i hi => by obtain rfl : i = 0 := (by omega); exact B0.cell 0⟩⟩, ⟨rfl, fun _ => ⟨s0 + 1, 0, rfl, fun i hi => by obtain rfl : i = 0 := (by omega); exact B1.cell 0⟩⟩, rfl, fun k hk => ?_⟩, jet_ok, jet_name, by decide, by decide⟩
    match k, hk with
    | 0, _ => exact ⟨some ⟨s0 + 1 + 1, 0, none⟩, 1, 1, B4.cell 0, B4.cell 1, ⟨rfl, fun _ => ⟨s0 + 1 + 1, 0, rfl, fun i hi => by obtain rfl : i = 0 := (by omega); exact B2.cell 0⟩⟩⟩
    | 1, _ => exact ⟨some ⟨s0 + 1 + 1 + 1, 0, none⟩, 1, 1, B4.cell 2, B4.cell 3, ⟨rfl, fun _ => ⟨s0 + 1 + 1 + 1, 0, rfl, fun i hi => by obtain rfl : i = 0 := (by omega); exact B3.cell 0⟩⟩⟩
  have T5 := Lib.hid B5
  clear B0 B1 B2 B3 B4 B5
  obtain ⟨cs, hcs⟩ : ∃ cs, cs = (#[.string ⟨#[106, 101, 116]⟩, .slice (some ⟨s0, 0, none⟩) 1 1, .int .i64 1000, .int .i64 1000, .int .i64 1000, .int .i64 1000, .int .i64 500, .int .i64 500, .int .i64 500, .int .i64 500, .int .i64 500, .slice (some ⟨s0 + 1, 0, none⟩) 1 1, .slice (some ⟨s0 + 1 + 1 + 1 + 1, 0, none⟩) 2 2] : Array Value) := ⟨_, rfl⟩
  rw [← hcs] at TO T5
  have IT : Hid ((Tryd.prog.info? 47).map (·.size) = some cs.size) := by show _ = _; rw [hcs]; kernel_rfl
  clear hcs
  go_upto_region 3 with fail
  obtain ⟨w2, hw2⟩ : ∃ W, W = w1.alloc (.cells #[.int .i64 5, .int .i64 0, .int .i64 0, .int .i64 0, .int .i64 10, .int .i64 9, .int .i64 8, .int .i64 0, .int .i64 0, .int .i64 20] 68) := ⟨_, rfl⟩
  rw [← hw2]
  have F2 : Blk w2 w1.heap.size 68 #[.int .i64 5, .int .i64 0, .int .i64 0, .int .i64 0, .int .i64 10, .int .i64 9, .int .i64 8, .int .i64 0, .int .i64 0, .int .i64 20] := by rw [hw2]; exact Blk.new _ _ _
  have hb2 : Below w1.heap.size w1 w2 := by rw [hw2]; exact (Below.refl _ _).alloc (Nat.le_refl _) _
  obtain ⟨gl, hgl⟩ : ∃ x, x = w1.heap.size := ⟨_, rfl⟩
  rw [← hgl] at F2 ⊢
  have FX : Hid (FixesAt w2 gl 0 2 jetL) := by
    refine ⟨rfl, fun i hi => ?_⟩
    match i, hi with
    | 0, _ => exact ⟨F2.cell 0, F2.cell 1, F2.cell 2, F2.cell 3, F2.cell 4⟩
    | 1, _ => exact ⟨F2.cell 5, F2.cell 6, F2.cell 7, F2.cell 8, F2.cell 9⟩
  have TO2 := Lib.hid (TO.out.keep hb2)
  have T2 := Lib.hid (T5.out.below hb2)
  have HB2 := Lib.hid (HB1.out.trans (hb2.mono HB1.out.size))
  clear hw2 hb2 hgl F2 TO T5 HB1
  go_wp2_with (refine wpList_load_row rfl 47 _ rfl (s0 + 1 + 1 + 1 + 1 + 1) rfl 47 cs (0, 0) _ T2.out Tryd.underlying47 rfl IT.out ?_)
  refine (Exposure_ok gl 0 2 2 jetL 5 9 ⟨4, 2, 0⟩ w2 TO2.out FX.out jet_tr jet_pl (by omega) (by omega) (by omega)).mono ?_
  rw [jet_sum]
  rintro e w3 ⟨rfl, hb3⟩
  have HB3 := Lib.hid (HB2.out.trans (hb3.mono HB2.out.size))
  clear hb3
  go_wp2_with fail
  obtain ⟨w4, hw4⟩ : ∃ W, W = w3.alloc (.cells #[.int .i64 500, .int .i64 600, .int .i64 750, .int .i64 850] 3) := ⟨_, rfl⟩
  rw [← hw4]
  have F4 : Blk w4 w3.heap.size 3 #[.int .i64 500, .int .i64 600, .int .i64 750, .int .i64 850] := by rw [hw4]; exact Blk.new _ _ _
  have hb4 : Below w3.heap.size w3 w4 := by rw [hw4]; exact (Below.refl _ _).alloc (Nat.le_refl _) _
  have HB4 := Lib.hid (HB3.out.trans (hb4.mono HB3.out.size))
  clear hw4 hb4
  refine (Sum_any (some ⟨w3.heap.size, 0, none⟩) 4 4 [500, 600, 750, 850] w4 ⟨rfl, fun _ => ⟨w3.heap.size, 0, rfl, fun i hi => ?_⟩⟩ (by omega)).mono ?_
  · match i, hi with
    | 0, _ => exact F4.cell 0
    | 1, _ => exact F4.cell 1
    | 2, _ => exact F4.cell 2
    | 3, _ => exact F4.cell 3
  rw [jet_add, jet_addE]
  rintro e w5 ⟨rfl, hb5⟩
  have HB5 := Lib.hid (HB4.out.trans (hb5.mono HB4.out.size))
  clear hb5 F4
  go_wp2_with fail
  refine (Level_any 2700 w5 (HS.out.keep HB5.out)).mono ?_
  rw [jet_level, jet_levelE]
  rintro e w6 ⟨rfl, hb6⟩
  have HB6 := Lib.hid (HB5.out.trans (hb6.mono HB5.out.size))
  clear hb6
  go_wp2
  go_ret
  exact ⟨rfl, HB6.out⟩
end Go.Proofs.YtnbionhahifacaaDoor
