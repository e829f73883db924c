/- The closed facts of SoundStrings. -/
import Derived.Test.YtoipafnlcchmbaaGreatDoorVp
namespace Go.Proofs.YtoipafnlcchmbaaGreatDoor.soundStrings
open Go.ChangeShapes Go.WideShapes Go.ChangeAt Go.RowKit

theorem s1 : Tryz.pinned.checked.prog.funcNamed Rows.soundStringsRow.func = some 12 := by kernel_rfl
set_option maxHeartbeats 8000000 in
theorem s2 : joinedFacts Tryz.pinned.checked.prog 12 Tryz.f12 (OpenSpec.ofChange Rows.soundStringsSpec).bare Rows.soundStringsRow = true := by
  unfold joinedFacts
  repeat ((with_reducible refine Bool.and_eq_true_iff.2 ⟨?_, ?_⟩); rotate_left; (as_aux_lemma => kernel_rfl))
  as_aux_lemma => kernel_rfl
theorem s3 : Tryz.f12.isInstance Tryz.pinned.checked.prog Rows.soundStringsRow.origin Rows.soundStringsRow.targs := of_decide_eq_true (by kernel_rfl)
theorem s4 : Tryz.f12.isWrapper Tryz.pinned.checked.prog Rows.soundStringsRow.wrapper Rows.soundStringsRow.mainSum := by
  unfold Func.isWrapper; first | (rw [if_pos (by decide +kernel)]; kernel_rfl) | (rw [if_neg (by decide +kernel)]; exact ⟨rfl, rfl⟩)
end Go.Proofs.YtoipafnlcchmbaaGreatDoor.soundStrings
