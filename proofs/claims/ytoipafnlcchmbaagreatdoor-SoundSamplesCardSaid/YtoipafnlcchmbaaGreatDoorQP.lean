/- What the examples of a law call: packets that are received, and lost. -/
import Derived.Test.YtoipafnlcchmbaaGreatDoorQN
import Derived.Test.YtoipafnlcchmbaaGreatDoorQMx
namespace Go.Proofs.YtoipafnlcchmbaaGreatDoor
open Go.RowKit

def awKey : List Int := [0, 0, 0, 0, 0, 0, 0, 0]
def awStream : List Int := [1, 93] ++ awFrame
theorem aw_e0 : decodeE awKey (at32 awStream 0) ≠ 0 := by
  have h : (decodeE awKey (at32 awStream 0) == 0) = false := by kernel_rfl
  exact fun e => by rw [e] at h; cases h
theorem aw_e1 : decodeE awKey (at32 awStream 1) ≠ 0 := by
  have h : (decodeE awKey (at32 awStream 1) == 0) = false := by kernel_rfl
  exact fun e => by rw [e] at h; cases h
theorem aw_e2 : decodeE awKey (at32 awStream 2) = 0 := by kernel_rfl
theorem aw_upto {ys : List Nat} {k : Nat} (h : Upto awKey awStream ys k) : (k ≤ 2 ∧ ys = []) ∨ (k = 34 ∧ ys = [2]) := by
  induction h with
  | nil => exact .inl ⟨by omega, rfl⟩
  | @err pre k h h1 h2 ih =>
    rw [show awStream.length = 34 from rfl] at h1
    rcases ih with ⟨hk, rfl⟩ | ⟨rfl, _⟩
    · by_cases h3 : k = 2
      · subst h3; exact absurd aw_e2 h2
      · exact .inl ⟨by clear h2; omega, rfl⟩
    · clear h2; omega
  | @hit pre k h h1 h2 ih =>
    rw [show awStream.length = 34 from rfl] at h1
    rcases ih with ⟨hk, rfl⟩ | ⟨rfl, _⟩
    · have hk' : k = 0 ∨ k = 1 ∨ k = 2 := by clear h2; omega
      rcases hk' with rfl | rfl | rfl
      · exact absurd h2 aw_e0
      · exact absurd h2 aw_e1
      · exact .inr ⟨rfl, rfl⟩
    · clear h2; omega
theorem aw_received (A : Option Addr) (c : Nat) (w : World) (hc : 34 ≤ c) (hz : BytesAt w A 34 awStream) :
    Calls Tryz.prog 76 #[.agg #[.int .u8 0, .int .u8 0, .int .u8 0, .int .u8 0, .int .u8 0, .int .u8 0, .int .u8 0, .int .u8 0], .slice A 34 c] w fun e w' =>
      ∃ g cg h ch, e = .returned (.tuple #[.slice (some ⟨g, 0, none⟩) 1 cg, .slice (some ⟨h, 0, none⟩) 1 ch, .int .i64 0]) ∧ w'.cell? ⟨g, 2, none⟩ = some (.int .i64 258) ∧ g < w'.heap.size ∧ HeardAt w' (some ⟨h, 0, none⟩) 1 [(0, 2)] ∧ Below w.heap.size w w' := by
  refine (Received_of awKey 0 0 0 0 0 0 0 0 rfl awStream A 34 c w (allB_of (by kernel_rfl)) (by omega) hc hz).mono ?_
  rintro e w' ⟨ys, k, vl, vs, hU, hk, rfl, hr, hs, hb⟩
  rcases aw_upto hU with ⟨h2, _⟩ | ⟨_, rfl⟩
  · omega
  · rw [show pkCells awKey awStream [2] = [.int .i64 4, .int .i64 2, .int .i64 258, .int .i64 1, .int .u8 9, .int .u8 0, .int .u8 0, .int .u8 0, .int .u8 0, .int .u8 0, .int .u8 0, .int .u8 0, .int .u8 0, .int .u8 0, .int .u8 0, .int .u8 0, .int .u8 0, .int .u8 0, .int .u8 0, .int .u8 0, .int .u8 0, .int .u8 0] by kernel_rfl] at hr
    rw [show skipL [2] 34 = [(0, 2)] by kernel_rfl] at hs
    obtain ⟨g, cg, rfl⟩ := ownsRow_succ hr
    obtain ⟨h, ch, rfl⟩ := ownsRow_succ hs
    refine ⟨g, cg, h, ch, rfl, ?_, ?_, ⟨rfl, fun _ => ⟨h, 0, rfl, fun i hi => ?_⟩⟩, hb⟩
    · exact World.ownsRow.cellAt hr 2 (by omega)
    · exact World.block_lt_of_cell? _ _ (World.ownsRow.cellAt hr 2 (by omega))
    · obtain rfl : i = 0 := by omega
      exact ⟨World.ownsRow.cellAt hs 0 (by decide), World.ownsRow.cellAt hs 1 (by decide)⟩

def awPk1 : Pk := ⟨0, 0, 65535, 0, [0, 0, 0, 0, 0, 0, 0, 0, 0, 0, 0, 0, 0, 0, 0, 0, 0, 0]⟩
def awPk2 : Pk := ⟨0, 0, 2, 0, [0, 0, 0, 0, 0, 0, 0, 0, 0, 0, 0, 0, 0, 0, 0, 0, 0, 0]⟩
def awPks : Array Value := #[.int .i64 0, .int .i64 0, .int .i64 65535, .int .i64 0, .int .u8 0, .int .u8 0, .int .u8 0, .int .u8 0, .int .u8 0, .int .u8 0, .int .u8 0, .int .u8 0, .int .u8 0, .int .u8 0, .int .u8 0, .int .u8 0, .int .u8 0, .int .u8 0, .int .u8 0, .int .u8 0, .int .u8 0, .int .u8 0, .int .i64 0, .int .i64 0, .int .i64 2, .int .i64 0, .int .u8 0, .int .u8 0, .int .u8 0, .int .u8 0, .int .u8 0, .int .u8 0, .int .u8 0, .int .u8 0, .int .u8 0, .int .u8 0, .int .u8 0, .int .u8 0, .int .u8 0, .int .u8 0, .int .u8 0, .int .u8 0, .int .u8 0, .int .u8 0]
theorem aw_lost (g : Nat) (w : World) (hx : Blk w g 101 awPks) :
    Calls Tryz.prog 77 #[.slice (some ⟨g, 0, none⟩) 2 2, .int .i64 0] w fun e w' => ∃ h c, e = .returned (.tuple #[.slice (some ⟨h, 0, none⟩) 2 c, .int .i64 0]) ∧ IntsAt w' (some ⟨h, 0, none⟩) 2 [0, 1] ∧ Below w.heap.size w w' := by
  have hz : PksAt w (some ⟨g, 0, none⟩) 2 [awPk1, awPk2] := by
    refine ⟨rfl, fun i hi => ?_, fun _ => ⟨g, 0, rfl, fun i hi j hj => ?_⟩⟩
    · match i, hi with
      | 0, _ => rfl
      | 1, _ => rfl
    · rw [Nat.zero_add, hx.cell]
      match i, hi with
      | 0, _ =>
        match j, hj with
        | 0, _ => rfl
        | 1, _ => rfl
        | 2, _ => rfl
        | 3, _ => rfl
        | 4, _ => rfl
        | 5, _ => rfl
        | 6, _ => rfl
        | 7, _ => rfl
        | 8, _ => rfl
        | 9, _ => rfl
        | 10, _ => rfl
        | 11, _ => rfl
        | 12, _ => rfl
        | 13, _ => rfl
        | 14, _ => rfl
        | 15, _ => rfl
        | 16, _ => rfl
        | 17, _ => rfl
        | 18, _ => rfl
        | 19, _ => rfl
        | 20, _ => rfl
        | 21, _ => rfl
        | n + 22, h => exact absurd h (by omega)
      | 1, _ =>
        match j, hj with
        | 0, _ => rfl
        | 1, _ => rfl
        | 2, _ => rfl
        | 3, _ => rfl
        | 4, _ => rfl
        | 5, _ => rfl
        | 6, _ => rfl
        | 7, _ => rfl
        | 8, _ => rfl
        | 9, _ => rfl
        | 10, _ => rfl
        | 11, _ => rfl
        | 12, _ => rfl
        | 13, _ => rfl
        | 14, _ => rfl
        | 15, _ => rfl
        | 16, _ => rfl
        | 17, _ => rfl
        | 18, _ => rfl
        | 19, _ => rfl
        | 20, _ => rfl
        | 21, _ => rfl
        | n + 22, h => exact absurd h (by omega)
  have hl : lostTo 0 [awPk1, awPk2] 2 = (some 2, [0, 1]) := by kernel_rfl
  refine (Lost_of _ 2 2 [awPk1, awPk2] 0 w (by omega) hz (by kernel_rfl) (by omega) (by rw [hl]; decide)).mono ?_
  rintro e w' ⟨v, rfl, hO, hb⟩
  rw [hl] at hO
  rcases hO.form with ⟨_, h⟩ | ⟨g', cap, rfl, _, _, _, hc, _⟩
  · cases h
  · exact ⟨g', cap, rfl, ⟨rfl, fun _ => ⟨g', 0, rfl, fun i hi => by rw [Nat.zero_add]; exact hc i hi⟩⟩, hb⟩
end Go.Proofs.YtoipafnlcchmbaaGreatDoor
