/- The variables that the laws on strings list, and the world of their witness. -/
import Derived.Test.YtoipafnlcchmbaaGreatDoorVf
namespace Go.Proofs.YtoipafnlcchmbaaGreatDoor
open Go.ChangeShapes Go.WideShapes Go.ChangeAt Go.RowKit

abbrev laidSix : List (String × DataW Unit) := [("math/bits.deBruijn32tab", Rows.laid_math_bits_deBruijn32tab), ("math/bits.deBruijn64tab", Rows.laid_math_bits_deBruijn64tab), ("internal/strconv.uint64pow10", Rows.laid_internal_strconv_uint64pow10), ("unicode/utf8.acceptRanges", Rows.laid_unicode_utf8_acceptRanges), ("flyover/sound.steps", Rows.laid_flyover_sound_steps), ("unicode/utf8.first", Rows.laid_unicode_utf8_first)]
theorem steps_laid6 {W : World} (h : laidMetH Tryz.prog laidSix W) : Steps W := by
  have h3 : laidMet Tryz.prog [("flyover/sound.steps", Rows.laid_flyover_sound_steps), ("unicode/utf8.first", Rows.laid_unicode_utf8_first)] W := laidMet.tail (laidMet.tail (laidMet.tail (laidMet.tail h)))
  have ht : Lib.TabIs Tryz.prog W "flyover/sound.steps" .i64 [10, 13, 16, 20, 25, 32, 40, 50, 63, 79] :=
    Lib.tabIs_of_head (rest := [("unicode/utf8.first", Rows.laid_unicode_utf8_first)]) gTab gTabType Tryz.underlying259 Tryz.underlying3 cellsInt cellsTab h3
  intro i hi
  have := ht.cell gTab i hi
  rw [this]
  match i, hi with
  | 0, _ => rfl
  | 1, _ => rfl
  | 2, _ => rfl
  | 3, _ => rfl
  | 4, _ => rfl
  | 5, _ => rfl
  | 6, _ => rfl
  | 7, _ => rfl
  | 8, _ => rfl
  | 9, _ => rfl
theorem tab_laid6 {W : World} (h : laidMetH Tryz.prog laidSix W) : Tab W := by
  have h2 : laidMet Tryz.prog [("internal/strconv.uint64pow10", Rows.laid_internal_strconv_uint64pow10), ("unicode/utf8.acceptRanges", Rows.laid_unicode_utf8_acceptRanges), ("flyover/sound.steps", Rows.laid_flyover_sound_steps), ("unicode/utf8.first", Rows.laid_unicode_utf8_first)] W := laidMet.tail (laidMet.tail h)
  exact Lib.tabIs_of_head (rest := [("unicode/utf8.acceptRanges", Rows.laid_unicode_utf8_acceptRanges), ("flyover/sound.steps", Rows.laid_flyover_sound_steps), ("unicode/utf8.first", Rows.laid_unicode_utf8_first)]) gPow gPowType Tryz.underlying314 Tryz.underlying289 cellsU64 cellsPow h2
def rangeVals : List Int := [128, 191, 160, 191, 128, 159, 144, 191, 128, 143] ++ List.replicate 22 0
def laidHeap6 (h : Array Obj) : Array Obj := lay 6 (Go.Pinned.utf8FirstZ.map fun n : Nat => Value.int .u8 n).toArray (lay 7 (rangeVals.map (Value.int .u8)).toArray (laidHeap h))
noncomputable def laidWorld6 (os : Os) : World := { World.holding Tryz.prog os ⟨#[], #[], []⟩ with heap := laidHeap6 (World.holding Tryz.prog os ⟨#[], #[], []⟩).heap }
theorem list16 (l : List Int) (h : l.length = 16) : ∃ a0 a1 a2 a3 a4 a5 a6 a7 a8 a9 a10 a11 a12 a13 a14 a15 : Int, l = [a0, a1, a2, a3, a4, a5, a6, a7, a8, a9, a10, a11, a12, a13, a14, a15] := by
  match l, h with
  | [a0, a1, a2, a3, a4, a5, a6, a7, a8, a9, a10, a11, a12, a13, a14, a15], _ => exact ⟨a0, a1, a2, a3, a4, a5, a6, a7, a8, a9, a10, a11, a12, a13, a14, a15, rfl⟩
end Go.Proofs.YtoipafnlcchmbaaGreatDoor
