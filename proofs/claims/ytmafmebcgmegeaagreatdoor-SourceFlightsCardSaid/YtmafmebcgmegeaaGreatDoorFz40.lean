/- Texts QS of the proof. -/
import Derived.Test.YtmafmebcgmegeaaGreatDoorFz39
import Derived.Test.YtmafmebcgmegeaaGreatDoorFz16
namespace Go.Proofs.YtmafmebcgmegeaaGreatDoor
open Go.RowKit Go.Sort
def formsV : Array Value := #[.int .i64 1, .int .i64 1, .int .i64 1, .func (.func 195) #[] #[], .int .i64 0, .int .i64 0, .int .i64 4096, .func (.func 196) #[] #[], .int .i64 0, .int .i64 8, .int .i64 8, .func (.func 197) #[] #[], .int .i64 0, .int .i64 0, .int .i64 4096, .func (.func 198) #[] #[], .int .i64 0, .int .i64 1, .int .i64 4096, .func (.func 199) #[] #[]]
set_option maxHeartbeats 1000000 in
set_option maxRecDepth 100000 in
theorem forms_src (w : World) : Calls Tryz.prog 149 #[] w fun e w' => e = .returned (.agg formsV) ∧ Below w.heap.size w w' := by
  obtain ⟨V, hV⟩ : ∃ V, V = formsV := ⟨_, rfl⟩; rw [← hV]; have HV : Hid (V = #[.int .i64 1, .int .i64 1, .int .i64 1, .func (.func 195) #[] #[], .int .i64 0, .int .i64 0, .int .i64 4096, .func (.func 196) #[] #[], .int .i64 0, .int .i64 8, .int .i64 8, .func (.func 197) #[] #[], .int .i64 0, .int .i64 0, .int .i64 4096, .func (.func 198) #[] #[], .int .i64 0, .int .i64 1, .int .i64 4096, .func (.func 199) #[] #[]]) := hV; clear hV
  go_enter Tryz.func149, Tryz.ntmps149
  go_upto_region 1 with fail
  obtain ⟨w1, hw1⟩ : ∃ W, W = (w.alloc (.cells #[.int .i64 0, .int .i64 0, .int .i64 0, .nilFunc, .int .i64 0, .int .i64 0, .int .i64 0, .nilFunc, .int .i64 0, .int .i64 0, .int .i64 0, .nilFunc, .int .i64 0, .int .i64 0, .int .i64 0, .nilFunc, .int .i64 0, .int .i64 0, .int .i64 0, .nilFunc] 233)) := ⟨_, rfl⟩; rw [← hw1]; have B0 : Hid (Blk w1 (w.heap.size) 233 #[.int .i64 0, .int .i64 0, .int .i64 0, .nilFunc, .int .i64 0, .int .i64 0, .int .i64 0, .nilFunc, .int .i64 0, .int .i64 0, .int .i64 0, .nilFunc, .int .i64 0, .int .i64 0, .int .i64 0, .nilFunc, .int .i64 0, .int .i64 0, .int .i64 0, .nilFunc]) := by show Blk _ _ _ _; rw [hw1]; exact Blk.new _ _ _
  have hb1 : Below w.heap.size w w1 := by rw [hw1]; exact ((Below.refl _ _).alloc (Nat.le_refl _) _)
  obtain ⟨g0, hg0⟩ : ∃ g, g = w.heap.size := ⟨_, rfl⟩; have HGw1 : Hid (g0 = w.heap.size) := hg0; rw [← hg0] at B0
  try rw [← hg0]
  clear hw1 hg0; have HB : Hid (Below w.heap.size w w1) := hb1; have hlv := (B0.out.setRow V).lv Tryz.prog (T := 233) Tryz.underlying233 rfl (by rw [HV.out]; kernel_rfl); have HLV := Lib.hid hlv; have HI : Hid ((Tryz.prog.info? 233).map (·.size) = some V.size) := by show _ = _; rw [HV.out]; kernel_rfl
  have HS : Hid (V.size = 20) := by show _ = _; rw [HV.out]; rfl
  have HW : Hid (V.all (·.oneCell') = true) := by show _ = _; rw [HV.out]; simp [Value.oneCell']
  clear hb1 hlv
  go_wp2_with (refine wpList_store_row rfl 233 _ _ rfl g0 V rfl (by rw [HV.out]; rfl) 233 _ B0.out HI.out (by rw [HS.out]; rfl) HW.out ?_)
  refine bodyPost_ret (v := .agg V) (by simp [results, Tryz.results149, asAddr]; exact HLV.out) rfl ?_; exact ⟨rfl, HB.out.setRow' (by rw [HGw1.out]; exact Nat.le_refl _) _⟩
end Go.Proofs.YtmafmebcgmegeaaGreatDoor
