/- The closed facts of SoundSamples. -/
import Derived.Test.YtoipafnlcchmbaaGreatDoorVf
namespace Go.Proofs.YtoipafnlcchmbaaGreatDoor.soundSamples
open Go.ChangeShapes Go.WideShapes Go.ChangeAt Go.RowKit

theorem s1 : Tryz.pinned.checked.prog.funcNamed Rows.soundSamplesRow.func = some 4 := by kernel_rfl
set_option maxHeartbeats 8000000 in
theorem s2 : joinedFacts Tryz.pinned.checked.prog 4 Tryz.f4 (OpenSpec.ofChange Rows.soundSamplesSpec).bare Rows.soundSamplesRow = true := by
  unfold joinedFacts
  repeat ((with_reducible refine Bool.and_eq_true_iff.2 ⟨?_, ?_⟩); rotate_left; (as_aux_lemma => kernel_rfl))
  as_aux_lemma => kernel_rfl
theorem s3 : Tryz.f4.isInstance Tryz.pinned.checked.prog Rows.soundSamplesRow.origin Rows.soundSamplesRow.targs := of_decide_eq_true (by kernel_rfl)
theorem s4 : Tryz.f4.isWrapper Tryz.pinned.checked.prog Rows.soundSamplesRow.wrapper Rows.soundSamplesRow.mainSum := by
  unfold Func.isWrapper; first | (rw [if_pos (by decide +kernel)]; kernel_rfl) | (rw [if_neg (by decide +kernel)]; exact ⟨rfl, rfl⟩)
end Go.Proofs.YtoipafnlcchmbaaGreatDoor.soundSamples
