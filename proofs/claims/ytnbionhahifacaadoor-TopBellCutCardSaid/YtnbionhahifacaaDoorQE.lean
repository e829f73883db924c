/- What is left of an interval by factors. What is left, by the reference. -/
import Derived.Test.YtnbionhahifacaaDoorQD
import Derived.Deep.RegionHeld3
namespace Go.Proofs.YtnbionhahifacaaDoor
open Go.RowKit

def checkFactorE (n : Int) : Int := withinE n 0 1000
def ordE (low high : Int) : Int := if high < low then 11 else 0
def intervalE (f : Int → Int) (low high : Int) : Int := firstE [f low, f high, ordE low high]
theorem intervalE_ne {f : Int → Int} {low high : Int} (h : firstE [f low, f high] ≠ 0) : intervalE f low high = firstE [f low, f high] := by
  unfold intervalE
  rw [firstE_ne] at h ⊢
  simp only [firstE]
  split at h
  · rename_i h0
    rw [if_pos h0, if_neg h, if_pos h0]
  · rename_i h0
    rw [if_neg h0, if_neg h0]
theorem intervalE_eq {f : Int → Int} {low high : Int} (h : firstE [f low, f high] = 0) : intervalE f low high = ordE low high := by
  have h2 := firstE2_zero h
  unfold intervalE
  simp only [firstE, h2.1, h2.2, if_true]
  split <;> simp_all

def throughErr (el eh fl fh : Int) : Int := firstE [intervalE checkEnergyE el eh, intervalE checkFactorE fl fh]
def throughLow (el eh fl fh : Int) : Int := if throughErr el eh fl fh = 0 then el * fl / 1000 else 0
def throughHigh (el eh fl fh : Int) : Int := if throughErr el eh fl fh = 0 then (eh * fh + 999) / 1000 else 0

theorem checkEnergyE_zero {e : Int} (h : checkEnergyE e = 0) : 0 ≤ e ∧ e ≤ 10000000000000 := withinE_zero h
theorem checkFactorE_zero {e : Int} (h : checkFactorE e = 0) : 0 ≤ e ∧ e ≤ 1000 := withinE_zero h
theorem intervalE_zero {f : Int → Int} {low high : Int} (h : intervalE f low high = 0) : f low = 0 ∧ f high = 0 ∧ low ≤ high := by
  have h2 := firstE_zero h
  refine ⟨h2 _ (by simp), h2 _ (by simp), ?_⟩
  have := h2 (ordE low high) (by simp)
  unfold ordE at this
  split at this <;> omega

end Go.Proofs.YtnbionhahifacaaDoor
namespace Go.Proofs.YtnbionhahifacaaDoor
open Go.RowKit

theorem refWhen_st (b : Bool) (x : Int) (w : World) :
    Calls Tryd.prog 44 #[.bool b, .int .i64 x] w fun e w' => e = .returned (.int .i64 (if b then x else 0)) ∧ w' = w :=
  (refWhen_any b x w).mono fun _ _ ⟨h, e⟩ => ⟨h, e.symm⟩

def rangeI (a b : Int) (n : Int) : Int := withinE n a b

/-! Spectra and weights: arrays of eight integers. -/
theorem cells8_at (s0 s1 s2 s3 s4 s5 s6 s7 : Int) (i : Nat) (h : i < 8) : (#[.int .i64 s0, .int .i64 s1, .int .i64 s2, .int .i64 s3, .int .i64 s4, .int .i64 s5, .int .i64 s6, .int .i64 s7] : Array Value)[i]? = some (.int .i64 ([s0, s1, s2, s3, s4, s5, s6, s7].getD i 0)) := by
  match i, h with
  | 0, _ => rfl
  | 1, _ => rfl
  | 2, _ => rfl
  | 3, _ => rfl
  | 4, _ => rfl
  | 5, _ => rfl
  | 6, _ => rfl
  | 7, _ => rfl
theorem IntsAt.of8 {w : World} {g : Nat} {t : TypeId} {s0 s1 s2 s3 s4 s5 s6 s7 : Int} (h : Blk w g t #[.int .i64 s0, .int .i64 s1, .int .i64 s2, .int .i64 s3, .int .i64 s4, .int .i64 s5, .int .i64 s6, .int .i64 s7]) : IntsAt w (some ⟨g, 0, none⟩) 8 [s0, s1, s2, s3, s4, s5, s6, s7] :=
  ⟨rfl, fun _ => ⟨g, 0, rfl, fun i hi => by rw [Nat.zero_add, h.cell, cells8_at s0 s1 s2 s3 s4 s5 s6 s7 i hi]⟩⟩

end Go.Proofs.YtnbionhahifacaaDoor
