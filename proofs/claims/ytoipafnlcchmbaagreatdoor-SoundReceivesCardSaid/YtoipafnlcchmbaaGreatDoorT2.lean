/- What is received of a stream, once more: the places are determined; the spans grow as they are skipped. -/
import Derived.Test.YtoipafnlcchmbaaGreatDoorQMx
namespace Go.Proofs.YtoipafnlcchmbaaGreatDoor
open Go.RowKit

/-- The places at which packets are received, from a place on. -/
def scanF (ks s : List Int) : Nat → Nat → List Nat
  | 0, _ => []
  | f + 1, i => if i + 32 ≤ s.length then (if decodeE ks (at32 s i) = 0 then i :: scanF ks s f (i + 32) else scanF ks s f (i + 1)) else []
theorem scanF_more (ks s : List Int) (f : Nat) : ∀ i, s.length < i + 32 + f → ∀ g, f ≤ g → scanF ks s g i = scanF ks s f i := by
  induction f with
  | zero => intro i hi g _; cases g with
    | zero => rfl
    | succ g => simp only [scanF]; rw [if_neg (by omega)]
  | succ f ih =>
    intro i hi g hg
    obtain ⟨g, rfl⟩ : ∃ g', g = g' + 1 := ⟨g - 1, by omega⟩
    simp only [scanF]
    by_cases h : i + 32 ≤ s.length
    · rw [if_pos h, if_pos h]
      split
      · rw [ih (i + 32) (by omega) g (by omega)]
      · rw [ih (i + 1) (by omega) g (by omega)]
    · rw [if_neg h, if_neg h]
theorem Upto.scan {ks s : List Int} {ys : List Nat} {k : Nat} (h : Upto ks s ys k) : scanF ks s (s.length + 1) 0 = ys ++ scanF ks s (s.length + 1) k := by
  induction h with
  | nil => rfl
  | err h h1 h2 ih =>
    rename_i pre k
    rw [ih]
    congr 1
    conv => lhs; rw [show s.length + 1 = s.length + 1 from rfl, scanF, if_pos h1, if_neg h2]
    exact (scanF_more ks s s.length (k + 1) (by omega) (s.length + 1) (by omega)).symm
  | hit h h1 h2 ih =>
    rename_i pre k
    rw [ih, List.append_assoc]
    congr 1
    conv => lhs; rw [scanF, if_pos h1, if_pos h2]
    rw [List.cons_append, List.nil_append]
    congr 1
    exact (scanF_more ks s s.length (k + 32) (by omega) (s.length + 1) (by omega)).symm
theorem Upto.only {ks s : List Int} {ys zs : List Nat} {k m : Nat} (h : Upto ks s ys k) (h2 : Upto ks s zs m) (hk : s.length < k + 32) (hm : s.length < m + 32) : ys = zs := by
  have a := h.scan
  have b := h2.scan
  have e : ∀ j, s.length < j + 32 → scanF ks s (s.length + 1) j = [] := fun j hj => by rw [scanF, if_neg (by omega)]
  rw [e k hk] at a
  rw [e m hm] at b
  simpa using a.symm.trans b
/-- The end of the last packet is at most the place that is reached; and no span ends there, but the open one. -/
theorem Upto.end_le {ks s : List Int} {ys : List Nat} {k : Nat} (h : Upto ks s ys k) : (skSt ys).1 ≤ k ∧ ∀ p ∈ (skSt ys).2, p.2 < ((skSt ys).1 : Int) := by
  induction h with
  | nil => simp [skSt]
  | err h h1 h2 ih => exact ⟨by have := ih.1; omega, ih.2⟩
  | hit h h1 h2 ih =>
    rename_i pre k
    rw [skSt_snoc]
    refine ⟨by simp, ?_⟩
    dsimp only
    intro p hp
    have h3 := ih.1
    by_cases hlt : ((skSt pre).1 : Int) < (k : Int)
    · rw [if_pos hlt] at hp
      rcases List.mem_append.1 hp with h4 | h4
      · have := ih.2 p h4; push_cast; omega
      · rw [List.mem_singleton.1 h4]; push_cast; omega
    · rw [if_neg hlt] at hp
      have := ih.2 p hp; push_cast; omega
theorem skipL_same (ys : List Nat) (k : Nat) (h : (skSt ys).1 = k) : skipL ys k = (skSt ys).2 := by unfold skipL; rw [if_neg (by omega)]
theorem skipL_open (ys : List Nat) (k : Nat) (h : (skSt ys).1 < k) : skipL ys k = (skSt ys).2 ++ [(((skSt ys).1 : Int), (k : Int))] := by unfold skipL; rw [if_pos (by omega)]
theorem skipL_hit (ys : List Nat) (k : Nat) : skipL (ys ++ [k]) (k + 32) = skipL ys k := by
  rw [skipL_same _ _ (by rw [skSt_snoc]), skSt_snoc]
  rfl
end Go.Proofs.YtoipafnlcchmbaaGreatDoor
