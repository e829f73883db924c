/- SoundReceives at lengths that it lets pass unread, and its walk for all arguments. -/
import Derived.Test.YtoipafnlcchmbaaGreatDoorS10
namespace Go.Proofs.YtoipafnlcchmbaaGreatDoor
open Go.RowKit

set_option maxHeartbeats 2000000 in
set_option maxRecDepth 100000 in
theorem receives_c (k0 k1 k2 k3 k4 k5 k6 k7 : Int) (A : Option Addr) (n c : Nat) (B : Option Addr) (m d : Nat) (st : Int) (w : World) (hst : Steps w) (ht : Tab w) (hn1 : 300 < n) (hn2 : n ≠ 32769) (hn3 : n ≤ 140737488351232) :
    Calls Tryz.prog 10 #[.agg #[.int .u8 k0, .int .u8 k1, .int .u8 k2, .int .u8 k3, .int .u8 k4, .int .u8 k5, .int .u8 k6, .int .u8 k7], .slice A n c, .agg #[.slice B m d, .int .i64 st]] w fun x w' => x = .returned (.bool true) ∧ Below w.heap.size w w' := by
  have HST := Lib.hid hst
  have HT := Lib.hid ht
  clear hst ht
  go_enter Tryz.func10, Tryz.ntmps10
  go_upto_region 1 with fail
  obtain ⟨W0, hW0⟩ : ∃ X, X = (w.alloc (.cells #[.int .u8 k0, .int .u8 k1, .int .u8 k2, .int .u8 k3, .int .u8 k4, .int .u8 k5, .int .u8 k6, .int .u8 k7] 94)).alloc (.cells #[.slice B m d, .int .i64 st] 116) := ⟨_, rfl⟩
  rw [← hW0]
  have HB0 : Hid (Below w.heap.size w W0) := by show Below _ _ _; rw [hW0]; exact ((Below.refl _ _).alloc (Nat.le_refl _) _).alloc (by simp) _
  clear hW0
  have hlt : (300 : Int) < (n : Int) := by omega
  have hne : ((n : Int) != 32769) = true := by simp; omega
  go_wp2_with fail
  refine Calls.mono (awake_any _ (HST.out.keep HB0.out) (HT.out.keep HB0.out)) ?_
  rintro x w12 ⟨rfl, hb⟩
  have HB12 := Lib.hid (HB0.out.trans (Below.mono hb HB0.out.size))
  clear hb
  go_wp2
  go_ret
  exact ⟨rfl, HB12.out⟩

set_option maxHeartbeats 2000000 in
set_option maxRecDepth 100000 in
theorem receives_d (k0 k1 k2 k3 k4 k5 k6 k7 : Int) (A : Option Addr) (n c : Nat) (B : Option Addr) (m d : Nat) (st : Int) (w : World) (hst : Steps w) (ht : Tab w) (hn : n ≤ 300 ∨ n = 32769) (hm : ¬ (m ≤ 12 ∨ m = 1025)) (hm3 : m ≤ 140737488351232) :
    Calls Tryz.prog 10 #[.agg #[.int .u8 k0, .int .u8 k1, .int .u8 k2, .int .u8 k3, .int .u8 k4, .int .u8 k5, .int .u8 k6, .int .u8 k7], .slice A n c, .agg #[.slice B m d, .int .i64 st]] w fun x w' => x = .returned (.bool true) ∧ Below w.heap.size w w' := by
  have HST := Lib.hid hst
  have HT := Lib.hid ht
  clear hst ht
  go_enter Tryz.func10, Tryz.ntmps10
  go_upto_region 1 with fail
  obtain ⟨W0, hW0⟩ : ∃ X, X = (w.alloc (.cells #[.int .u8 k0, .int .u8 k1, .int .u8 k2, .int .u8 k3, .int .u8 k4, .int .u8 k5, .int .u8 k6, .int .u8 k7] 94)).alloc (.cells #[.slice B m d, .int .i64 st] 116) := ⟨_, rfl⟩
  rw [← hW0]
  have HX0 : Hid (Blk W0 (w.heap.size + 1) 116 #[.slice B m d, .int .i64 st]) := by show Blk _ _ _ _; rw [hW0]; exact Blk.at_size _ _ (by simp)
  have HB0 : Hid (Below w.heap.size w W0) := by show Below _ _ _; rw [hW0]; exact ((Below.refl _ _).alloc (Nat.le_refl _) _).alloc (by simp) _
  obtain ⟨gx, hgx⟩ : ∃ g, g = w.heap.size + 1 := ⟨_, rfl⟩
  rw [← hgx] at HX0 ⊢
  clear hW0 hgx
  have x0 : W0.cell? ⟨gx, 0, none⟩ = some (.slice B m d) := HX0.out.cell 0
  rcases hn with hn | hn
  · have hle : (n : Int) ≤ 300 := by omega
    go_wp2_with fail
    refine Calls.mono (shortPackets_any B m d _ (by omega)) ?_
    rintro x w' ⟨rfl, rfl⟩
    rw [show decide (m ≤ 12 ∨ m = 1025) = false from decide_eq_false hm]
    have HB1 := Lib.hid HB0.out
    clear x0
    go_wp2_with fail
    refine Calls.mono (awake_any _ (HST.out.keep HB1.out) (HT.out.keep HB1.out)) ?_
    rintro x w12 ⟨rfl, hb⟩
    have HB12 := Lib.hid (HB1.out.trans (Below.mono hb HB1.out.size))
    clear hb
    go_wp2
    go_ret
    exact ⟨rfl, HB12.out⟩
  · have hle : (300 : Int) < (n : Int) := by omega
    have hne : ((n : Int) != 32769) = false := by simp; omega
    go_wp2_with fail
    refine Calls.mono (shortPackets_any B m d _ (by omega)) ?_
    rintro x w' ⟨rfl, rfl⟩
    rw [show decide (m ≤ 12 ∨ m = 1025) = false from decide_eq_false hm]
    have HB1 := Lib.hid HB0.out
    clear x0
    go_wp2_with fail
    refine Calls.mono (awake_any _ (HST.out.keep HB1.out) (HT.out.keep HB1.out)) ?_
    rintro x w12 ⟨rfl, hb⟩
    have HB12 := Lib.hid (HB1.out.trans (Below.mono hb HB1.out.size))
    clear hb
    go_wp2
    go_ret
    exact ⟨rfl, HB12.out⟩

/-- SoundReceives, for all arguments. -/
theorem receives_walk (ks : List Int) (k0 k1 k2 k3 k4 k5 k6 k7 : Int) (HKS : Hid (ks = [k0, k1, k2, k3, k4, k5, k6, k7])) (s : List Int) (A : Option Addr) (n c : Nat) (l : List Pk) (B : Option Addr) (m d : Nat) (st : Int) (w : World) (hkb : AllB ks) (hz : BytesAt w A n s) (hsb : AllB s) (hA : A = none → c = 0) (hnc : n ≤ c) (hn3 : n ≤ 140737488351232) (hp : PksAt w B m l) (hm3 : m ≤ 140737488351232) (hst : Steps w) (ht : Tab w) :
    Calls Tryz.prog 10 #[.agg #[.int .u8 k0, .int .u8 k1, .int .u8 k2, .int .u8 k3, .int .u8 k4, .int .u8 k5, .int .u8 k6, .int .u8 k7], .slice A n c, .agg #[.slice B m d, .int .i64 st]] w fun x w' => x = .returned (.bool true) ∧ Below w.heap.size w w' := by
  by_cases hm : m ≤ 12 ∨ m = 1025
  · by_cases h1 : n ≤ 300
    · exact receives_a ks k0 k1 k2 k3 k4 k5 k6 k7 HKS s A n c l B m d st w hkb hz hsb hA hnc hp hst ht h1 hm
    · by_cases h2 : n = 32769
      · exact receives_b ks k0 k1 k2 k3 k4 k5 k6 k7 HKS s A n c l B m d st w hkb hz hsb hA hnc hp hst ht h2 hm
      · exact receives_c k0 k1 k2 k3 k4 k5 k6 k7 A n c B m d st w hst ht (by omega) h2 hn3
  · by_cases h1 : n ≤ 300 ∨ n = 32769
    · exact receives_d k0 k1 k2 k3 k4 k5 k6 k7 A n c B m d st w hst ht h1 hm hm3
    · exact receives_c k0 k1 k2 k3 k4 k5 k6 k7 A n c B m d st w hst ht (by omega) (by omega) hn3
end Go.Proofs.YtoipafnlcchmbaaGreatDoor
