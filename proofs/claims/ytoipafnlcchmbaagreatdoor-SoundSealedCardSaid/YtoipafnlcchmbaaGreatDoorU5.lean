/- The packets of the consequence while they are written one after the other; the stream of their frames. -/
import Derived.Test.YtoipafnlcchmbaaGreatDoorU1
namespace Go.Proofs.YtoipafnlcchmbaaGreatDoor
open Go.RowKit

def mixL (st c0 : Int) (l : List Pk) (k : Nat) : List Pk := (conL st c0 l).take k ++ l.drop k
theorem mixL_len (st c0 : Int) (l : List Pk) (k : Nat) (h : k ≤ l.length) : (mixL st c0 l k).length = l.length := by
  rw [mixL, List.length_append, List.length_take, List.length_drop, conL_len]; omega
theorem mixL_zero (st c0 : Int) (l : List Pk) : mixL st c0 l 0 = l := by simp [mixL]
theorem mixL_all (st c0 : Int) (l : List Pk) : mixL st c0 l l.length = conL st c0 l := by
  rw [mixL, List.drop_length, List.append_nil, List.take_of_length_le (by rw [conL_len]; exact Nat.le_refl _)]
theorem mixL_at (st c0 : Int) (l : List Pk) (k j : Nat) (h : k ≤ l.length) : (mixL st c0 l k).getD j Pk.none = if j < k then (conL st c0 l).getD j Pk.none else l.getD j Pk.none := by
  have hl : ((conL st c0 l).take k).length = k := by rw [List.length_take, conL_len]; omega
  unfold mixL
  by_cases hj : j < k
  · rw [if_pos hj, List.getD_eq_getElem?_getD, List.getElem?_append_left (by rw [hl]; exact hj), List.getElem?_take_of_lt hj, List.getD_eq_getElem?_getD]
  · rw [if_neg hj, List.getD_eq_getElem?_getD, List.getElem?_append_right (by rw [hl]; omega), hl, List.getElem?_drop, show k + (j - k) = j by omega, List.getD_eq_getElem?_getD]
theorem con18 (st c0 : Int) (l : List Pk) (h : All18 l) : All18 (conL st c0 l) := fun i hi => by
  rw [conL_len] at hi
  rw [conL_at st c0 l i hi]
  exact h i hi
theorem mix18 (st c0 : Int) (l : List Pk) (h : All18 l) (k : Nat) (hk : k ≤ l.length) : All18 (mixL st c0 l k) := fun i hi => by
  rw [mixL_len st c0 l k hk] at hi
  rw [mixL_at st c0 l k i hk]
  split
  · exact con18 st c0 l h i (by rw [conL_len]; exact hi)
  · exact h i hi
theorem pksCells_length (l : List Pk) (h : All18 l) : (pksCells l).length = l.length * 22 := by
  induction l with
  | nil => rfl
  | cons p l ih =>
    have h1 := h.cons
    have e : pksCells (p :: l) = p.cells.toList ++ pksCells l := rfl
    rw [e, List.length_append, Array.length_toList, Pk.size h1.1, ih h1.2, List.length_cons]
    omega
theorem cells_st (p q : Pk) (hk : p.kd = q.kd) (hl : p.ln = q.ln) (hp : p.ps = q.ps) (j : Nat) (h0 : j ≠ 0) (h2 : j ≠ 2) : p.cells[j]? = q.cells[j]? := by
  unfold Pk.cells pkA
  rw [hk, hl, hp]
  match j, h0, h2 with
  | 1, _, _ => rfl
  | j + 3, _, _ => simp
theorem mix_step (st c0 : Int) (l : List Pk) (h : All18 l) (k : Nat) (hk : k < l.length) :
    ((pksCells (mixL st c0 l k)).set (k * 22) (.int .i64 st)).set (k * 22 + 2) (.int .i64 ((c0 + 2 * (k : Int)) % 65536)) = pksCells (mixL st c0 l (k + 1)) := by
  have a1 := mix18 st c0 l h k (by omega)
  have a2 := mix18 st c0 l h (k + 1) (by omega)
  have n1 := pksCells_length _ a1
  have n2 := pksCells_length _ a2
  rw [mixL_len st c0 l k (by omega)] at n1
  rw [mixL_len st c0 l (k + 1) (by omega)] at n2
  apply List.ext_getElem?
  intro x
  by_cases hx : x < l.length * 22
  · have e : x = x / 22 * 22 + x % 22 := by omega
    have hi : x / 22 < l.length := by omega
    obtain ⟨i, hi'⟩ : ∃ i, i = x / 22 := ⟨_, rfl⟩
    obtain ⟨j, hj'⟩ : ∃ j, j = x % 22 := ⟨_, rfl⟩
    have hj : j < 22 := by omega
    rw [← hi'] at hi
    rw [← hi', ← hj'] at e
    subst e
    have b1 := pksCells_at _ a1 i (by rw [mixL_len st c0 l k (by omega)]; exact hi) j hj
    have b2 := pksCells_at _ a2 i (by rw [mixL_len st c0 l (k + 1) (by omega)]; exact hi) j hj
    rw [mixL_at st c0 l k i (by omega)] at b1
    rw [mixL_at st c0 l (k + 1) i (by omega)] at b2
    rw [b2, List.getElem?_set, List.getElem?_set, List.length_set, n1, b1]
    by_cases hik : i = k
    · subst hik
      rw [if_neg (Nat.lt_irrefl _), if_pos (Nat.lt_succ_self _), conL_at st c0 l i hi]
      by_cases h2 : j = 2
      · subst h2
        rw [if_pos rfl, if_pos (by omega)]
        rfl
      · rw [if_neg (by omega)]
        by_cases h0 : j = 0
        · subst h0
          rw [if_pos (by omega), if_pos (by omega)]
          rfl
        · rw [if_neg (by omega)]
          exact cells_st (l.getD i Pk.none) (conP st c0 i (l.getD i Pk.none)) rfl rfl rfl j h0 h2
    · rw [if_neg (by omega), if_neg (by omega)]
      by_cases hlt : i < k
      · rw [if_pos hlt, if_pos (by omega)]
      · rw [if_neg hlt, if_neg (by omega)]
  · rw [List.getElem?_eq_none (by rw [List.length_set, List.length_set, n1]; omega), List.getElem?_eq_none (by rw [n2]; omega)]
/-- The station and the counter of the first packet stay what they are. -/
theorem mix_first (l : List Pk) (h : All18 l) (h0 : 0 < l.length) (st c0 : Int) (hs : (l.getD 0 Pk.none).st = st) (hc : (l.getD 0 Pk.none).ct = c0) (hb : 0 ≤ c0 ∧ c0 ≤ 65535) (k : Nat) (hk : k ≤ l.length) :
    (pksCells (mixL st c0 l k))[0]? = some (.int .i64 st) ∧ (pksCells (mixL st c0 l k))[2]? = some (.int .i64 c0) := by
  have a1 := mix18 st c0 l h k hk
  have b0 := pksCells_at _ a1 0 (by rw [mixL_len st c0 l k hk]; exact h0) 0 (by omega)
  have b2 := pksCells_at _ a1 0 (by rw [mixL_len st c0 l k hk]; exact h0) 2 (by omega)
  rw [mixL_at st c0 l k 0 hk] at b0 b2
  rw [Nat.zero_mul, Nat.zero_add] at b0 b2
  rw [b0, b2]
  by_cases hk0 : 0 < k
  · rw [if_pos hk0, conL_at st c0 l 0 h0]
    refine ⟨rfl, ?_⟩
    show some (Value.int .i64 ((c0 + 2 * ((0 : Nat) : Int)) % 65536)) = _
    rw [show (c0 + 2 * ((0 : Nat) : Int)) % 65536 = c0 by omega]
  · rw [if_neg hk0]
    exact ⟨by rw [← hs]; rfl, by rw [← hc]; rfl⟩
theorem frame_all (ks : List Int) (p : Pk) (hk : ks.length = 8) (hkb : AllB ks) (hps : p.ps.length = 18) (hpb : AllB p.ps) (h : p.err = 0) : AllB (frameL ks p) := fun i hi => by
  have hl := frameL_len ks p hps
  by_cases h2 : i < 24
  · have e : (frameL ks p).getD i 0 = (bodyL p).getD i 0 := by
      unfold frameL; rw [List.getD_eq_getElem?_getD, List.getElem?_append_left (by rw [bodyL_len p hps]; exact h2), List.getD_eq_getElem?_getD]
    rw [e]; exact bodyL_bd p hps hpb h i h2
  · have e : (frameL ks p).getD i 0 = (sealL ks (bodyL p)).getD (i - 24) 0 := by
      unfold frameL; rw [List.getD_eq_getElem?_getD, List.getD_eq_getElem?_getD, List.getElem?_append_right (by rw [bodyL_len p hps]; omega), bodyL_len p hps]
    rw [e]; exact sealL_all ks _ hk hkb (i - 24) (by rw [sealL_len]; omega)
theorem allB_append (a b : List Int) (ha : AllB a) (hb : AllB b) : AllB (a ++ b) := fun i hi => by
  by_cases h : i < a.length
  · rw [List.getD_eq_getElem?_getD, List.getElem?_append_left h, ← List.getD_eq_getElem?_getD]; exact ha i h
  · rw [List.length_append] at hi
    rw [List.getD_eq_getElem?_getD, List.getElem?_append_right (by omega), ← List.getD_eq_getElem?_getD]; exact hb _ (by omega)
theorem stream_snoc (ks os : List Int) (L : List Pk) (k : Nat) (h : k < L.length) : streamL ks os (L.take (k + 1)) = streamL ks os (L.take k) ++ frameL ks (L.getD k Pk.none) := by
  have e : L.take (k + 1) = L.take k ++ [L.getD k Pk.none] := by
    rw [List.getD_eq_getElem?_getD, List.getElem?_eq_getElem h]
    exact (List.take_append_getElem h).symm
  rw [e]
  unfold streamL
  rw [List.flatMap_append, List.append_assoc]
  simp
theorem stream_all (ks os : List Int) (L : List Pk) (hk : ks.length = 8) (hkb : AllB ks) (ho : AllB os) (h : ∀ p ∈ L, p.ps.length = 18 ∧ p.err = 0 ∧ AllB p.ps) : AllB (streamL ks os L) := by
  refine allB_append _ _ ho ?_
  induction L with
  | nil => intro i hi; simp at hi
  | cons p L ih =>
    rw [List.flatMap_cons]
    have hp := h p (by simp)
    exact allB_append _ _ (frame_all ks p hk hkb hp.1 hp.2.2 hp.2.1) (ih (fun q hq => h q (by simp [hq])))
/-- What holds of the packets of the consequence. -/
theorem con_good (st c0 : Int) (l : List Pk) (hs : 0 ≤ st ∧ st ≤ 255) (h : ∀ i, i < l.length → (l.getD i Pk.none).ps.length = 18 ∧ (l.getD i Pk.none).err = 0 ∧ AllB (l.getD i Pk.none).ps) :
    ∀ p ∈ conL st c0 l, p.ps.length = 18 ∧ p.err = 0 ∧ AllB p.ps := fun p hp => by
  obtain ⟨i, hi, rfl⟩ := List.mem_map.1 hp
  have h1 := h i (List.mem_range.1 hi)
  exact ⟨h1.1, conP_err st c0 i _ h1.2.1 hs, h1.2.2⟩
end Go.Proofs.YtoipafnlcchmbaaGreatDoor
