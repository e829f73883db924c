/- SoundSealed, for all arguments. -/
import Derived.Test.YtoipafnlcchmbaaGreatDoorS13
namespace Go.Proofs.YtoipafnlcchmbaaGreatDoor
open Go.RowKit

set_option maxHeartbeats 2000000 in
set_option maxRecDepth 100000 in
theorem sealed_bad (k0 k1 k2 k3 k4 k5 k6 k7 : Int) (l : List Pk) (B : Option Addr) (m d : Nat) (A : Option Addr) (n c : Nat) (wh ab yb : Int) (w : World)
    (hp : PksAt w B m l) (hm : m ≤ 140737488351232) (hbad : ¬ (1 ≤ m ∧ m ≤ 6 ∧ n ≤ 20 ∧ checkPacketsE l = 0)) (hst : Steps w) (ht : Tab w) :
    Calls Tryz.prog 15 #[.agg #[.int .u8 k0, .int .u8 k1, .int .u8 k2, .int .u8 k3, .int .u8 k4, .int .u8 k5, .int .u8 k6, .int .u8 k7], .slice B m d, .agg #[.slice A n c, .int .u8 wh, .int .u8 ab, .int .u8 yb]] w fun x w' => x = .returned (.bool true) ∧ Below w.heap.size w w' := by
  have HP := Lib.hid hp
  have HS := Lib.hid hst
  have HT := Lib.hid ht
  have HB0 : Hid (Below w.heap.size w ((w.alloc (.cells #[.int .u8 k0, .int .u8 k1, .int .u8 k2, .int .u8 k3, .int .u8 k4, .int .u8 k5, .int .u8 k6, .int .u8 k7] 94)).alloc (.cells #[.slice A n c, .int .u8 wh, .int .u8 ab, .int .u8 yb] 182))) := ((Below.refl _ _).alloc (Nat.le_refl _) _).alloc (by simp) _
  clear hp hst ht
  by_cases h1 : 1 ≤ m
  · have i1 : decide ((m : Int) < 1) = false := decide_eq_false (by omega)
    by_cases h2 : m ≤ 6
    · have i2 : decide ((6 : Int) < (m : Int)) = false := decide_eq_false (by omega)
      by_cases h3 : n ≤ 20
      · have i3 : decide ((20 : Int) < (n : Int)) = false := decide_eq_false (by omega)
        obtain ⟨E, hE⟩ : ∃ e, e = checkPacketsE l := ⟨_, rfl⟩
        have hE0 : ¬ E = 0 := fun h => hbad ⟨h1, h2, h3, by rw [← hE]; exact h⟩
        have i4 : (E != 0) = true := by simp [hE0]
        have HE := Lib.hid hE
        clear hbad hE hE0
        go_enter Tryz.func15, Tryz.ntmps15
        go_upto_region 1 with fail
        obtain ⟨W0, hW0⟩ : ∃ X, X = (w.alloc (.cells #[.int .u8 k0, .int .u8 k1, .int .u8 k2, .int .u8 k3, .int .u8 k4, .int .u8 k5, .int .u8 k6, .int .u8 k7] 94)).alloc (.cells #[.slice A n c, .int .u8 wh, .int .u8 ab, .int .u8 yb] 182) := ⟨_, rfl⟩
        rw [← hW0] at HB0 ⊢
        have HX0 : Hid (Blk W0 (w.heap.size + 1) 182 #[.slice A n c, .int .u8 wh, .int .u8 ab, .int .u8 yb]) := by show Blk _ _ _ _; rw [hW0]; exact Blk.at_size _ _ (by simp)
        obtain ⟨gx, hgx⟩ : ∃ g, g = w.heap.size + 1 := ⟨_, rfl⟩
        rw [← hgx] at HX0 ⊢
        clear hW0 hgx
        have x0 : W0.cell? ⟨gx, 0, none⟩ = some (.slice A n c) := HX0.out.cell 0
        go_wp2_with fail
        refine Calls.mono (refCheckPackets_any B m d l _ (by omega) (HP.out.keep HB0.out)) ?_
        rintro x W1 ⟨rfl, hb⟩
        rw [← HE.out]
        have HB1 := Lib.hid (HB0.out.trans (Below.mono hb HB0.out.size))
        clear hb HB0 x0 HX0
        go_wp2_with fail
        refine Calls.mono (awake_any _ (HS.out.keep HB1.out) (HT.out.keep HB1.out)) ?_
        rintro x w9 ⟨rfl, hb⟩
        have HB9 := Lib.hid (HB1.out.trans (Below.mono hb HB1.out.size))
        clear hb
        go_wp2
        go_ret
        exact ⟨rfl, HB9.out⟩
      · have i3 : decide ((20 : Int) < (n : Int)) = true := decide_eq_true (by omega)
        clear hbad
        go_enter Tryz.func15, Tryz.ntmps15
        go_upto_region 1 with fail
        obtain ⟨W0, hW0⟩ : ∃ X, X = (w.alloc (.cells #[.int .u8 k0, .int .u8 k1, .int .u8 k2, .int .u8 k3, .int .u8 k4, .int .u8 k5, .int .u8 k6, .int .u8 k7] 94)).alloc (.cells #[.slice A n c, .int .u8 wh, .int .u8 ab, .int .u8 yb] 182) := ⟨_, rfl⟩
        rw [← hW0] at HB0 ⊢
        have HX0 : Hid (Blk W0 (w.heap.size + 1) 182 #[.slice A n c, .int .u8 wh, .int .u8 ab, .int .u8 yb]) := by show Blk _ _ _ _; rw [hW0]; exact Blk.at_size _ _ (by simp)
        obtain ⟨gx, hgx⟩ : ∃ g, g = w.heap.size + 1 := ⟨_, rfl⟩
        rw [← hgx] at HX0 ⊢
        clear hW0 hgx
        have x0 : W0.cell? ⟨gx, 0, none⟩ = some (.slice A n c) := HX0.out.cell 0
        go_wp2_with fail
        refine Calls.mono (awake_any _ (HS.out.keep HB0.out) (HT.out.keep HB0.out)) ?_
        rintro x w9 ⟨rfl, hb⟩
        have HB9 := Lib.hid (HB0.out.trans (Below.mono hb HB0.out.size))
        clear hb
        go_wp2
        go_ret
        exact ⟨rfl, HB9.out⟩
    · have i2 : decide ((6 : Int) < (m : Int)) = true := decide_eq_true (by omega)
      clear hbad
      go_enter Tryz.func15, Tryz.ntmps15
      go_wp2_with fail
      refine Calls.mono (awake_any _ (HS.out.keep HB0.out) (HT.out.keep HB0.out)) ?_
      rintro x w9 ⟨rfl, hb⟩
      have HB9 := Lib.hid (HB0.out.trans (Below.mono hb HB0.out.size))
      clear hb
      go_wp2
      go_ret
      exact ⟨rfl, HB9.out⟩
  · have i1 : decide ((m : Int) < 1) = true := decide_eq_true (by omega)
    clear hbad
    go_enter Tryz.func15, Tryz.ntmps15
    go_wp2_with fail
    refine Calls.mono (awake_any _ (HS.out.keep HB0.out) (HT.out.keep HB0.out)) ?_
    rintro x w9 ⟨rfl, hb⟩
    have HB9 := Lib.hid (HB0.out.trans (Below.mono hb HB0.out.size))
    clear hb
    go_wp2
    go_ret
    exact ⟨rfl, HB9.out⟩
theorem sealed_walk (ks : List Int) (k0 k1 k2 k3 k4 k5 k6 k7 : Int) (HKS : Hid (ks = [k0, k1, k2, k3, k4, k5, k6, k7])) (l : List Pk) (B : Option Addr) (m d : Nat) (os : List Int) (A : Option Addr) (n c : Nat) (wh ab yb : Int) (w : World)
    (hkb : AllB ks) (hp : PksAt w B m l) (hpb : ∀ i, i < m → AllB (l.getD i Pk.none).ps) (hm : m ≤ 140737488351232) (hz : BytesAt w A n os) (hob : AllB os)
    (hwh : 0 ≤ wh ∧ wh ≤ 255) (hab : 0 ≤ ab ∧ ab ≤ 255) (hyb : 0 ≤ yb ∧ yb ≤ 255) (hst : Steps w) (ht : Tab w) :
    Calls Tryz.prog 15 #[.agg #[.int .u8 k0, .int .u8 k1, .int .u8 k2, .int .u8 k3, .int .u8 k4, .int .u8 k5, .int .u8 k6, .int .u8 k7], .slice B m d, .agg #[.slice A n c, .int .u8 wh, .int .u8 ab, .int .u8 yb]] w fun x w' => x = .returned (.bool true) ∧ Below w.heap.size w w' := by
  by_cases h : 1 ≤ m ∧ m ≤ 6 ∧ n ≤ 20 ∧ checkPacketsE l = 0
  · exact sealed_good ks k0 k1 k2 k3 k4 k5 k6 k7 HKS l B m d os A n c wh ab yb w hkb hp hpb hz hob h.2.2.1 h.1 h.2.1 h.2.2.2 hwh hab hyb hst ht
  · exact sealed_bad k0 k1 k2 k3 k4 k5 k6 k7 l B m d A n c wh ab yb w hp hm h hst ht
end Go.Proofs.YtoipafnlcchmbaaGreatDoor
