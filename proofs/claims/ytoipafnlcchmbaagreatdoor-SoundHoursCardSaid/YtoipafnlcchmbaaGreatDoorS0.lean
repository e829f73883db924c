/- The copies that the laws make of their arguments. -/
import Derived.Test.YtoipafnlcchmbaaGreatDoorQK
import Derived.Test.YtoipafnlcchmbaaGreatDoorQD
import Derived.Test.YtoipafnlcchmbaaGreatDoorQC
import Derived.ArgAppend
import Derived.Laws.AppendOwnNone
import Derived.WalkMore
namespace Go.Proofs.YtoipafnlcchmbaaGreatDoor
open Go.RowKit

/-- The append of a slice to a new empty one, whatever the elements: what comes of it. -/
theorem addr_add (b off j : Nat) : (⟨b, off, none⟩ : Addr).add j = ⟨b, off + j, none⟩ := by unfold Addr.add; split <;> simp_all
set_option maxHeartbeats 1000000 in
theorem ints_any (A : Option Addr) (n c : Nat) (zs : List Int) (w : World) (hz : IntsAt w A n zs) (hA : A = none → c = 0) (hn : n ≤ 100000) :
    Calls Tryz.prog 44 #[.slice A n c] w fun e w' => ∃ A' c', e = .returned (.slice A' n c') ∧ IntsAt w' A' n zs ∧ Below w.heap.size w w' := by
  obtain ⟨i0, hi, hz0, hz1, hz2⟩ := info_parts infoInt
  have hl := hz.1
  by_cases h0 : n = 0
  · subst h0
    obtain rfl : zs = [] := List.eq_nil_of_length_eq_zero hl
    have hown : (w.alloc (.cells #[] 3)).ownsRow w.heap.size 3 1 (.slice (some ⟨w.heap.size, 0, none⟩) 0 0) 0 [] := ⟨rfl, .inr ⟨w.heap.size, 0, #[], rfl, Nat.le_refl _, heap_alloc_new w _, Nat.le_refl _, by unfold maxLen; omega, rfl, rfl⟩⟩
    have hb : Below w.heap.size w (w.alloc (.cells #[] 3)) := (Below.refl _ _).alloc (Nat.le_refl _) _
    clear hz hl
    cases A with
    | none =>
      obtain rfl := hA rfl
      clear hA
      go_enter Tryz.func44, Tryz.ntmps44
      go_wp2_with (at_builtin; refine wpList_append_own_none rfl _ _ 26 rfl w.heap.size 3 i0 1 Tryz.underlying26 hi _ 0 [] rfl hown rfl ?_)
      go_ret
      exact ⟨_, _, rfl, ⟨rfl, fun h => by omega⟩, hb⟩
    | some ad =>
      clear hA
      go_enter Tryz.func44, Tryz.ntmps44
      go_wp2_with (at_builtin; refine wpList_append_arg _ rfl _ _ 26 rfl 3 i0 (.int .i64 0) 1 8 Tryz.underlying26 hi hz0 hz1 hz2 rfl (by decide) w.heap.size 0 0 0 [] rfl rfl (fun j u h => by simp at h) ad 0 c [] rfl rfl (fun j u h => by simp at h) (fun u h => by simp at h) (fun h j hj => by simp at hj) (by unfold maxLen; omega) (by omega) ?_ (fun h => by omega); intro _)
      go_ret
      exact ⟨_, _, rfl, ⟨rfl, fun h => by omega⟩, hb⟩
  · obtain ⟨b, off, rfl, hc⟩ := hz.2 (by omega)
    have h1 : (zs.map (Value.int .i64)).length = n * 1 := by rw [List.length_map, hl, Nat.mul_one]
    have h2 : ∀ j u, (zs.map (Value.int .i64))[j]? = some u → (w.alloc (.cells #[] 3)).cell? ((⟨b, off, none⟩ : Addr).add j) = some u := fun j u hu => by
      have hj : j < n := by
        have := (List.getElem?_eq_some_iff.1 hu).1
        rw [List.length_map, hl] at this
        exact this
      have h3 := hc j hj
      rw [addr_add, (show (w.alloc (.cells #[] 3)).cell? ⟨b, off + j, none⟩ = w.cell? ⟨b, off + j, none⟩ from ((Below.refl w.heap.size w).alloc (Nat.le_refl _) _).cell (p := ⟨b, off + j, none⟩) (World.block_lt_of_cell? _ _ h3)), h3, ← hu, List.getElem?_map]
      simp [List.getD_eq_getElem?_getD, List.getElem?_eq_getElem (show j < zs.length by rw [hl]; exact hj)]
    have h3 : ∀ u ∈ zs.map (Value.int .i64), u.oneCell' = true := fun u hu => by
      obtain ⟨z, _, rfl⟩ := List.mem_map.1 hu
      rfl
    have H1 := Lib.hid h1
    have H2 := Lib.hid h2
    have H3 := Lib.hid h3
    have HL := Lib.hid hl
    clear h1 h2 h3 hz hA hc hl
    go_enter Tryz.func44, Tryz.ntmps44
    go_wp2_with (at_builtin; refine wpList_append_arg _ rfl _ _ 26 rfl 3 i0 (.int .i64 0) 1 8 Tryz.underlying26 hi hz0 hz1 hz2 rfl (by decide) w.heap.size 0 0 0 [] rfl rfl (fun j u h => by simp at h) ⟨b, off, none⟩ n c (zs.map (Value.int .i64)) rfl H1.out H2.out H3.out (fun h => by omega) (by unfold maxLen; omega) (by omega) (fun h => by omega) ?_; intro _ v' w1 hown hgrow)
    have hO : OwnI w1 (w.alloc (.cells #[] 3)).heap.size v' zs := by
      unfold OwnI
      rw [HL.out]
      have := hown
      rw [Nat.zero_add] at this
      exact this
    have hb : Below w.heap.size w w1 := Below.grown ((Below.refl _ _).alloc (Nat.le_refl _) _) hgrow (by simp) (fun k hk => by cases hk)
    have hf : ∃ A' c', v' = .slice A' n c' ∧ IntsAt w1 A' n zs := by
      rcases hO.form with ⟨_, h⟩ | ⟨g, cap, rfl, _⟩
      · rw [← HL.out, h] at h0; simp at h0
      · rw [HL.out] at hO ⊢
        exact ⟨_, _, rfl, hO.at_⟩
    obtain ⟨A', c', rfl, hI⟩ := hf
    clear hown hgrow hO
    go_wp2
    go_ret
    exact ⟨_, _, rfl, hI, hb⟩
end Go.Proofs.YtoipafnlcchmbaaGreatDoor
