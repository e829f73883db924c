/- The reference's check of a list of samples. -/
import Derived.Test.YtiglfpgigdclgaaGreatDoorW3
import Derived.Deep.RegionHeldLaw
namespace Go.Proofs.YtiglfpgigdclgaaGreatDoor
open Go.RowKit

theorem FlAt.cut {w : World} {A : Option Addr} {n : Nat} {fs : List Nat} (h : FlAt w A n fs) (k : Nat) (hk : k ≤ n) : FlAt w A k (fs.take k) := by
  refine ⟨by rw [List.length_take, h.1]; omega, fun h0 => ?_⟩
  obtain ⟨b, off, rfl, hc⟩ := h.2 (by omega)
  refine ⟨b, off, rfl, fun i hi => ?_⟩
  rw [hc i (by omega), List.getD_eq_getElem?_getD, List.getD_eq_getElem?_getD, List.getElem?_take_of_lt hi]
theorem slice_toF (A : Option Addr) (n c k : Nat) (hk : k ≤ c) (w : World) : (Instr.sliceAt 38 (.slice A n c) none (some (.int .i64 (k : Int))) none).run Tryz.prog w = .ok (.slice A k c) w := by
  have b1 : (0 : Int) ≤ (k : Int) := by omega
  have b2 : (k : Int) ≤ (c : Int) := by omega
  cases A with
  | none => go_simp
  | some a =>
    obtain ⟨b, o, s⟩ := a
    cases s <;> go_simp
theorem slice_toF2 (A : Option Addr) (n c k : Nat) (hk : k ≤ c) (w : World) : (Instr.slice 38 (.slice A n c) none (some (.int .i64 (k : Int))) none).run Tryz.prog w = .ok (.slice A k c) w := by
  have b1 : (0 : Int) ≤ (k : Int) := by omega
  have b2 : (k : Int) ≤ (c : Int) := by omega
  cases A with
  | none => go_simp
  | some a =>
    obtain ⟨b, o, s⟩ := a
    cases s <;> go_simp
theorem checkSamplesE_many (fs : List Nat) (h : 4096 < fs.length) : checkSamplesE fs = 5 := by
  unfold checkSamplesE atMostE
  rw [if_pos (by omega)]; rfl
theorem checkSamplesE_few (fs : List Nat) (h : ¬ 4096 < fs.length) : checkSamplesE fs = firstInF (partE 10) fs := by
  unfold checkSamplesE atMostE
  rw [if_neg (by omega)]
  simp only [firstE]
  split <;> simp_all

set_option maxHeartbeats 4000000 in
set_option maxRecDepth 100000 in
theorem refCheckSamples_any (A : Option Addr) (n c : Nat) (fs : List Nat) (w : World) (hn : n ≤ 100000) (hnc : n ≤ c) (hz : FlAt w A n fs) :
    Calls Tryz.prog 31 #[.slice A n c] w fun e w' => e = .returned (.int .i64 (checkSamplesE fs)) ∧ Below w.heap.size w w' := by
  by_cases hm : 4096 < n
  · have HE := Lib.hid (checkSamplesE_many fs (by rw [hz.1]; exact hm))
    have HZ : Hid (FlAt w.drew A 4096 (fs.take 4096)) := (hz.keep (Below.refl _ _).drew).cut 4096 (by omega)
    have m1 : min (n : Int) 4096 = 4096 := by omega
    have m2 : decide ((4096 : Int) < (n : Int)) = true := decide_eq_true (by omega)
    have m3 : decide ((n : Int) ≤ 4096) = false := decide_eq_false (by omega)
    have hsl : ∀ w : World, (Instr.sliceAt 38 (.slice A n c) none (some (.int .i64 4096)) none).run Tryz.prog w = .ok (.slice A 4096 c) w := fun w => slice_toF A n c 4096 (by omega) w
    have hsl2 : ∀ w : World, (Instr.slice 38 (.slice A n c) none (some (.int .i64 4096)) none).run Tryz.prog w = .ok (.slice A 4096 c) w := fun w => slice_toF2 A n c 4096 (by omega) w
    clear hz
    rw [HE.out]
    go_enter Tryz.func31, Tryz.ntmps31
    go_upto_region 1 with fail
    go_region_held_law (fun _ => True) (exact trivial)
      (first
        | (go_at_call 79; refine (refWhen_any _ _ _).mono ?_; rintro e w1 ⟨rfl, rfl⟩)
        | (go_at_call 113; refine (refCheckAll_any A 4096 _ (fs.take 4096) _ (by omega) HZ.out).mono ?_; rintro e w2 ⟨rfl, hb1⟩; have G2 := Lib.hid hb1; clear hb1)
        | (go_at_call 47; refine (refFirst2 _ _ 5 0 _ (by go_simp) (by go_simp)).mono ?_; rintro e w3 ⟨rfl, rfl⟩))
    all_goals (
      go_wp2
      go_ret
      exact ⟨rfl, (Below.refl _ w).drew.trans (G2.out.alloc G2.out.size _)⟩)
  · have HE := Lib.hid (checkSamplesE_few fs (by rw [hz.1]; exact hm))
    have HZ : Hid (FlAt w.drew A n fs) := hz.keep (Below.refl _ _).drew
    have m1 : min (n : Int) 4096 = n := by omega
    have m2 : decide ((4096 : Int) < (n : Int)) = false := decide_eq_false (by omega)
    have m3 : decide ((n : Int) ≤ 4096) = true := decide_eq_true (by omega)
    have hsl : ∀ w : World, (Instr.sliceAt 38 (.slice A n c) none (some (.int .i64 (n : Int))) none).run Tryz.prog w = .ok (.slice A n c) w := fun w => slice_toF A n c n hnc w
    have hsl2 : ∀ w : World, (Instr.slice 38 (.slice A n c) none (some (.int .i64 (n : Int))) none).run Tryz.prog w = .ok (.slice A n c) w := fun w => slice_toF2 A n c n hnc w
    clear hz
    rw [HE.out]
    go_enter Tryz.func31, Tryz.ntmps31
    go_upto_region 1 with fail
    go_region_held_law (fun _ => True) (exact trivial)
      (first
        | (go_at_call 79; refine (refWhen_any _ _ _).mono ?_; rintro e w1 ⟨rfl, rfl⟩)
        | (go_at_call 113; refine (refCheckAll_any A n _ fs _ (by omega) HZ.out).mono ?_; rintro e w2 ⟨rfl, hb1⟩; have G2 := Lib.hid hb1; clear hb1)
        | (go_at_call 47; refine (refFirst2 _ _ 0 (firstInF (partE 10) fs) _ (by go_simp) (by go_simp)).mono ?_; rw [first0]; rintro e w3 ⟨rfl, rfl⟩))
    all_goals (
      go_wp2
      go_ret
      exact ⟨rfl, (Below.refl _ w).drew.trans (G2.out.alloc G2.out.size _)⟩)

end Go.Proofs.YtiglfpgigdclgaaGreatDoor
