/- The closed facts of SoundSealed. -/
import Derived.Test.YtoipafnlcchmbaaGreatDoorVf
namespace Go.Proofs.YtoipafnlcchmbaaGreatDoor.soundSealed
open Go.ChangeShapes Go.WideShapes Go.ChangeAt Go.RowKit

theorem s1 : Tryz.pinned.checked.prog.funcNamed Rows.soundSealedRow.func = some 15 := by kernel_rfl
set_option maxHeartbeats 8000000 in
theorem s2 : joinedFacts Tryz.pinned.checked.prog 15 Tryz.f15 (OpenSpec.ofChange Rows.soundSealedSpec).bare Rows.soundSealedRow = true := by
  unfold joinedFacts
  repeat ((with_reducible refine Bool.and_eq_true_iff.2 ⟨?_, ?_⟩); rotate_left; (as_aux_lemma => kernel_rfl))
  as_aux_lemma => kernel_rfl
theorem s3 : Tryz.f15.isInstance Tryz.pinned.checked.prog Rows.soundSealedRow.origin Rows.soundSealedRow.targs := of_decide_eq_true (by kernel_rfl)
theorem s4 : Tryz.f15.isWrapper Tryz.pinned.checked.prog Rows.soundSealedRow.wrapper Rows.soundSealedRow.mainSum := by
  unfold Func.isWrapper; first | (rw [if_pos (by decide +kernel)]; kernel_rfl) | (rw [if_neg (by decide +kernel)]; exact ⟨rfl, rfl⟩)
end Go.Proofs.YtoipafnlcchmbaaGreatDoor.soundSealed
