/- The closed facts of SoundTurns. -/
import Derived.Test.YtoipafnlcchmbaaGreatDoorVf
namespace Go.Proofs.YtoipafnlcchmbaaGreatDoor.soundTurns
open Go.ChangeShapes Go.WideShapes Go.ChangeAt Go.RowKit

theorem s1 : Tryz.pinned.checked.prog.funcNamed Rows.soundTurnsRow.func = some 14 := by kernel_rfl
set_option maxHeartbeats 8000000 in
theorem s2 : joinedFacts Tryz.pinned.checked.prog 14 Tryz.f14 (OpenSpec.ofChange Rows.soundTurnsSpec).bare Rows.soundTurnsRow = true := by
  unfold joinedFacts
  repeat ((with_reducible refine Bool.and_eq_true_iff.2 ⟨?_, ?_⟩); rotate_left; (as_aux_lemma => kernel_rfl))
  as_aux_lemma => kernel_rfl
theorem s3 : Tryz.f14.isInstance Tryz.pinned.checked.prog Rows.soundTurnsRow.origin Rows.soundTurnsRow.targs := of_decide_eq_true (by kernel_rfl)
theorem s4 : Tryz.f14.isWrapper Tryz.pinned.checked.prog Rows.soundTurnsRow.wrapper Rows.soundTurnsRow.mainSum := by
  unfold Func.isWrapper; first | (rw [if_pos (by decide +kernel)]; kernel_rfl) | (rw [if_neg (by decide +kernel)]; exact ⟨rfl, rfl⟩)
end Go.Proofs.YtoipafnlcchmbaaGreatDoor.soundTurns
