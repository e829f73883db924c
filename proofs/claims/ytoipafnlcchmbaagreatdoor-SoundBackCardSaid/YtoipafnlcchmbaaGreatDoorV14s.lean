/- The closed facts of SoundBack. -/
import Derived.Test.YtoipafnlcchmbaaGreatDoorVp
namespace Go.Proofs.YtoipafnlcchmbaaGreatDoor.soundBack
open Go.ChangeShapes Go.WideShapes Go.ChangeAt Go.RowKit

theorem s1 : Tryz.pinned.checked.prog.funcNamed Rows.soundBackRow.func = some 16 := by kernel_rfl
set_option maxHeartbeats 8000000 in
theorem s2 : joinedFacts Tryz.pinned.checked.prog 16 Tryz.f16 (OpenSpec.ofChange Rows.soundBackSpec).bare Rows.soundBackRow = true := by
  unfold joinedFacts
  repeat ((with_reducible refine Bool.and_eq_true_iff.2 ⟨?_, ?_⟩); rotate_left; (as_aux_lemma => kernel_rfl))
  as_aux_lemma => kernel_rfl
theorem s3 : Tryz.f16.isInstance Tryz.pinned.checked.prog Rows.soundBackRow.origin Rows.soundBackRow.targs := of_decide_eq_true (by kernel_rfl)
theorem s4 : Tryz.f16.isWrapper Tryz.pinned.checked.prog Rows.soundBackRow.wrapper Rows.soundBackRow.mainSum := by
  unfold Func.isWrapper; first | (rw [if_pos (by decide +kernel)]; kernel_rfl) | (rw [if_neg (by decide +kernel)]; exact ⟨rfl, rfl⟩)
end Go.Proofs.YtoipafnlcchmbaaGreatDoor.soundBack
