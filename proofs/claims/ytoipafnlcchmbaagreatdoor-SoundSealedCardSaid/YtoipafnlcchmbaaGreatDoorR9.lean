/- Received where the stream is too long; short lists of packets. -/
import Derived.Test.YtoipafnlcchmbaaGreatDoorQMx
import Derived.Test.YtoipafnlcchmbaaGreatDoorR6
namespace Go.Proofs.YtoipafnlcchmbaaGreatDoor
open Go.RowKit

set_option maxHeartbeats 1000000 in
set_option maxRecDepth 100000 in
theorem Received_long (k0 k1 k2 k3 k4 k5 k6 k7 : Int) (A : Option Addr) (n c : Nat) (w : World) (hn : 32768 < n) :
    Calls Tryz.prog 76 #[.agg #[.int .u8 k0, .int .u8 k1, .int .u8 k2, .int .u8 k3, .int .u8 k4, .int .u8 k5, .int .u8 k6, .int .u8 k7], .slice A n c] w fun e w' => e = .returned (.tuple #[.slice none 0 0, .slice none 0 0, .int .i64 26]) ∧ Below w.heap.size w w' := by
  go_enter Tryz.func76, Tryz.ntmps76
  go_wp2_with fail
  go_ret3
  exact ⟨rfl, (Below.refl _ _).alloc (Nat.le_refl _) _⟩

set_option maxHeartbeats 1000000 in
theorem shortPackets_any (A : Option Addr) (n c : Nat) (w : World) (hn : n ≤ 140737488351232) :
    Calls Tryz.prog 75 #[.slice A n c] w fun e w' => e = .returned (.bool (decide (n ≤ 12 ∨ n = 1025))) ∧ w = w' := by
  obtain ⟨b, hb⟩ : ∃ b, b = decide (n ≤ 12 ∨ n = 1025) := ⟨_, rfl⟩
  rw [← hb]
  have HB := Lib.hid hb
  clear hb
  by_cases h : n ≤ 12
  · have h1 : decide ((n : Int) ≤ 12) = true := by simp; omega
    go_enter Tryz.func75, Tryz.ntmps75
    go_wp2
    go_ret
    exact ⟨ret_bool (by rw [HB.out]; simp [h]), rfl⟩
  · have h1 : decide ((n : Int) ≤ 12) = false := by simp; omega
    by_cases h2 : n = 1025
    · have h3 : ((n : Int) == 1025) = true := by simp [h2]
      have H2 := Lib.hid h2
      clear h2
      go_enter Tryz.func75, Tryz.ntmps75
      go_wp2
      go_ret
      exact ⟨ret_bool (by rw [HB.out]; simp [H2.out]), rfl⟩
    · have h3 : ((n : Int) == 1025) = false := by simp; omega
      go_enter Tryz.func75, Tryz.ntmps75
      go_wp2
      go_ret
      exact ⟨ret_bool (by rw [HB.out]; simp [h, h2]), rfl⟩
end Go.Proofs.YtoipafnlcchmbaaGreatDoor
