/- The law's copy of bytes, with what the caller may write; bytes of arrays that are changed. -/
import Derived.Test.YtoipafnlcchmbaaGreatDoorR2
import Derived.Test.YtoipafnlcchmbaaGreatDoorT5
import Derived.Test.YtoipafnlcchmbaaGreatDoorU5
namespace Go.Proofs.YtoipafnlcchmbaaGreatDoor
open Go.RowKit

theorem bytesA_set (bs : List Int) (i : Nat) (v : Int) : (bytesA bs).setIfInBounds i (.int .u8 v) = bytesA (bs.set i v) := by
  unfold bytesA
  rw [List.setIfInBounds_toArray, List.map_set]
theorem allB_set (bs : List Int) (i : Nat) (v : Int) (h : AllB bs) (hv : 0 ≤ v ∧ v ≤ 255) : AllB (bs.set i v) := fun j hj => by
  rw [List.length_set] at hj
  by_cases e : i = j
  · subst e; rw [getD_set_self bs i v 0 hj]; exact hv
  · rw [getD_set_other bs i j v 0 e]; exact h j hj
/-- The first bytes of an array of bytes, as a slice. -/
theorem bytesAt_head {w : World} {g : Nat} {t : TypeId} {fs : List Int} (h : Blk w g t (bytesA fs)) (n : Nat) (hn : n ≤ fs.length) (hb : AllB fs) : BytesAt w (some ⟨g, 0, none⟩) n (fs.take n) := by
  have e : ∀ i, i < n → (fs.take n).getD i 0 = fs.getD i 0 := fun i hi => by
    rw [List.getD_eq_getElem?_getD, List.getElem?_take_of_lt hi, List.getD_eq_getElem?_getD]
  refine ⟨by rw [List.length_take]; omega, fun i hi => by rw [e i hi]; exact hb i (by omega), fun _ => ⟨g, 0, rfl, fun i hi => ?_⟩⟩
  rw [Nat.zero_add, h.cell i, bytesA_at fs i (by omega), e i hi]
set_option maxHeartbeats 1000000 in
theorem bytes_own (A : Option Addr) (n c : Nat) (zs : List Int) (w : World) (hz : BytesAt w A n zs) (h0 : 0 < n) (hn : n ≤ 100000) :
    Calls Tryz.prog 70 #[.slice A n c] w fun e w' => ∃ v, e = .returned v ∧ OwnB w' w.heap.size v zs ∧ Below w.heap.size w w' := by
  obtain ⟨i0, hi, hz0, hz1, hz2⟩ := info_parts infoB
  have hl := hz.1
  obtain ⟨b, off, rfl, hc⟩ := hz.2.2 h0
  have h1 : (zs.map (Value.int .u8)).length = n * 1 := by rw [List.length_map, hl, Nat.mul_one]
  have h2 : ∀ j u, (zs.map (Value.int .u8))[j]? = some u → (w.alloc (.cells #[] 5)).cell? ((⟨b, off, none⟩ : Addr).add j) = some u := fun j u hu => by
    have hj : j < n := by
      have := (List.getElem?_eq_some_iff.1 hu).1
      rw [List.length_map, hl] at this
      exact this
    have h3 := hc j hj
    rw [addr_add, (show (w.alloc (.cells #[] 5)).cell? ⟨b, off + j, none⟩ = w.cell? ⟨b, off + j, none⟩ from ((Below.refl w.heap.size w).alloc (Nat.le_refl _) _).cell (p := ⟨b, off + j, none⟩) (World.block_lt_of_cell? _ _ h3)), h3, ← hu, List.getElem?_map]
    simp [List.getD_eq_getElem?_getD, List.getElem?_eq_getElem (show j < zs.length by rw [hl]; exact hj)]
  have h3 : ∀ u ∈ zs.map (Value.int .u8), u.oneCell' = true := fun u hu => by
    obtain ⟨z, _, rfl⟩ := List.mem_map.1 hu
    rfl
  have H1 := Lib.hid h1
  have H2 := Lib.hid h2
  have H3 := Lib.hid h3
  have HL := Lib.hid hl
  clear h1 h2 h3 hz hc hl
  go_enter Tryz.func70, Tryz.ntmps70
  go_wp2_with (at_builtin; refine wpList_append_arg _ rfl _ _ 106 rfl 5 i0 (.int .u8 0) 1 1 Tryz.underlying106 hi hz0 hz1 hz2 rfl (by decide) w.heap.size 0 0 0 [] rfl rfl (fun j u h => by simp at h) ⟨b, off, none⟩ n c (zs.map (Value.int .u8)) rfl H1.out H2.out H3.out (fun h => by omega) (by unfold maxLen; omega) (by omega) (fun h => by omega) ?_; intro _ v' w1 hown hgrow)
  have hO : OwnB w1 (w.alloc (.cells #[] 5)).heap.size v' zs := by
    unfold OwnB
    rw [HL.out]
    have := hown
    rw [Nat.zero_add] at this
    exact this
  have hb : Below w.heap.size w w1 := Below.grown ((Below.refl _ _).alloc (Nat.le_refl _) _) hgrow (by simp) (fun k hk => by cases hk)
  have hO2 : OwnB w1 w.heap.size v' zs := ⟨hO.1, hO.2.imp id (fun ⟨g, cap, cur, a, b, c⟩ => ⟨g, cap, cur, a, Nat.le_trans (by simp) b, c⟩)⟩
  clear hown hgrow hO
  go_wp2
  go_ret
  exact ⟨_, rfl, hO2, hb⟩
end Go.Proofs.YtoipafnlcchmbaaGreatDoor
