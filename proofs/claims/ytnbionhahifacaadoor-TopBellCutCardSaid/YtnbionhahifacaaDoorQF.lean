/- The seal. Equality of arrays of integers. -/
import Derived.Test.YtnbionhahifacaaDoorQEx
import Derived.ChangeKeysEq
namespace Go.Proofs.YtnbionhahifacaaDoor
open Go.RowKit

/-- A slice of bytes reads as a list. -/
def BytesAt (w : World) (A : Option Addr) (n : Nat) (bs : List Int) : Prop :=
  bs.length = n ∧ (∀ i, i < n → 0 ≤ bs.getD i 0 ∧ bs.getD i 0 ≤ 255) ∧ (0 < n → ∃ b off, A = some ⟨b, off, none⟩ ∧ ∀ i, i < n → w.cell? ⟨b, off + i, none⟩ = some (.int .u8 (bs.getD i 0)))
theorem BytesAt.keep {w w' : World} {A : Option Addr} {n : Nat} {bs : List Int} (h : BytesAt w A n bs) (hb : Below w.heap.size w w') : BytesAt w' A n bs := by
  refine ⟨h.1, h.2.1, fun hn => ?_⟩
  obtain ⟨b, off, rfl, hc⟩ := h.2.2 hn
  exact ⟨b, off, rfl, fun i hi => by
    have h1 := hc i hi
    rw [hb.cell (p := ⟨b, off + i, none⟩) (World.block_lt_of_cell? _ _ h1)]
    exact h1⟩

def sealStep (f a x b : Int) : Int := (f * x + b + a) % 256
theorem sealStep_eq (f s y a : Int) : ((f * s + y) % 256 + a) % 256 = sealStep f a s y := by
  unfold sealStep
  generalize f * s = p
  omega
def sealTo (f a x : Int) (bs : List Int) : Int := bs.foldl (sealStep f a) x
def sealAt (j : Nat) (x : Int) (bs : List Int) : Int := sealTo (4 * j + 3) (5 * j + 2) x bs
theorem sealTo_snoc (f a x : Int) (bs : List Int) (k : Nat) (h : k < bs.length) : sealTo f a x (bs.take (k + 1)) = sealStep f a (sealTo f a x (bs.take k)) (bs.getD k 0) := by
  rw [take_snocI bs k h]; simp [sealTo]
theorem sealTo_bd (f a x : Int) (hx : 0 ≤ x ∧ x ≤ 255) (bs : List Int) : 0 ≤ sealTo f a x bs ∧ sealTo f a x bs ≤ 255 := by
  unfold sealTo
  induction bs generalizing x with
  | nil => exact hx
  | cons b l ih => exact ih _ (by unfold sealStep; omega)

def keyV (k0 k1 k2 k3 k4 k5 k6 k7 : Int) : Value := .agg #[.int .u8 k0, .int .u8 k1, .int .u8 k2, .int .u8 k3, .int .u8 k4, .int .u8 k5, .int .u8 k6, .int .u8 k7]
def sealArr (ks bs : List Int) (k : Nat) : Array Value := ((List.range 8).map fun i => Value.int .u8 (if i < k then sealAt i (ks.getD i 0) bs else ks.getD i 0)).toArray
theorem sealArr_at (ks bs : List Int) (k i : Nat) (hi : i < 8) : (sealArr ks bs k)[i]? = some (.int .u8 (if i < k then sealAt i (ks.getD i 0) bs else ks.getD i 0)) := by
  unfold sealArr
  simp [hi]
theorem sealArr_set (ks bs : List Int) (k : Nat) : (sealArr ks bs k).setIfInBounds k (.int .u8 (sealAt k (ks.getD k 0) bs)) = sealArr ks bs (k + 1) := by
  apply Array.ext
  · simp [sealArr]
  · intro i h1 h2
    simp only [sealArr, List.size_toArray, List.length_map, List.length_range] at h2
    rw [Array.getElem_setIfInBounds]
    simp only [sealArr, List.getElem_toArray, List.getElem_map, List.getElem_range]
    by_cases h : k = i
    · subst h; simp
    · rw [if_neg h]
      by_cases h3 : i < k
      · rw [if_pos h3, if_pos (by omega)]
      · rw [if_neg h3, if_neg (by omega)]
    · simp [sealArr]; omega
theorem sealArr_zero (k0 k1 k2 k3 k4 k5 k6 k7 : Int) (bs : List Int) : sealArr [k0, k1, k2, k3, k4, k5, k6, k7] bs 0 = #[.int .u8 k0, .int .u8 k1, .int .u8 k2, .int .u8 k3, .int .u8 k4, .int .u8 k5, .int .u8 k6, .int .u8 k7] := rfl
theorem sealArr_eight (k0 k1 k2 k3 k4 k5 k6 k7 : Int) (bs : List Int) : sealArr [k0, k1, k2, k3, k4, k5, k6, k7] bs 8 = #[.int .u8 (sealAt 0 k0 bs), .int .u8 (sealAt 1 k1 bs), .int .u8 (sealAt 2 k2 bs), .int .u8 (sealAt 3 k3 bs), .int .u8 (sealAt 4 k4 bs), .int .u8 (sealAt 5 k5 bs), .int .u8 (sealAt 6 k6 bs), .int .u8 (sealAt 7 k7 bs)] := rfl
def Key8 (k0 k1 k2 k3 k4 k5 k6 k7 : Int) : Prop := ∀ i, i < 8 → 0 ≤ [k0, k1, k2, k3, k4, k5, k6, k7].getD i 0 ∧ [k0, k1, k2, k3, k4, k5, k6, k7].getD i 0 ≤ 255

def outArr (ks bs : List Int) (k : Nat) : Array Value := ((List.range 8).map fun i => Value.int .u8 (if i < k then sealAt i (ks.getD i 0) bs else 0)).toArray
theorem outArr_at (ks bs : List Int) (k i : Nat) (hi : i < 8) : (outArr ks bs k)[i]? = some (.int .u8 (if i < k then sealAt i (ks.getD i 0) bs else 0)) := by
  unfold outArr
  simp [hi]
theorem outArr_set (ks bs : List Int) (k : Nat) : (outArr ks bs k).setIfInBounds k (.int .u8 (sealAt k (ks.getD k 0) bs)) = outArr ks bs (k + 1) := by
  apply Array.ext
  · simp [outArr]
  · intro i h1 h2
    simp only [outArr, List.size_toArray, List.length_map, List.length_range] at h2
    rw [Array.getElem_setIfInBounds]
    simp only [outArr, List.getElem_toArray, List.getElem_map, List.getElem_range]
    by_cases h : k = i
    · subst h; simp
    · rw [if_neg h]
      by_cases h3 : i < k
      · rw [if_pos h3, if_pos (by omega)]
      · rw [if_neg h3, if_neg (by omega)]
    · simp [outArr]; omega
theorem outArr_zero (ks bs : List Int) : outArr ks bs 0 = #[.int .u8 0, .int .u8 0, .int .u8 0, .int .u8 0, .int .u8 0, .int .u8 0, .int .u8 0, .int .u8 0] := rfl
theorem outArr_eight (k0 k1 k2 k3 k4 k5 k6 k7 : Int) (bs : List Int) : outArr [k0, k1, k2, k3, k4, k5, k6, k7] bs 8 = #[.int .u8 (sealAt 0 k0 bs), .int .u8 (sealAt 1 k1 bs), .int .u8 (sealAt 2 k2 bs), .int .u8 (sealAt 3 k3 bs), .int .u8 (sealAt 4 k4 bs), .int .u8 (sealAt 5 k5 bs), .int .u8 (sealAt 6 k6 bs), .int .u8 (sealAt 7 k7 bs)] := rfl
theorem refStep_eq (k s y : Int) : ((4 * k + 3) * s + y + 5 * k + 2) % 256 = sealStep (4 * k + 3) (5 * k + 2) s y := by
  unfold sealStep
  generalize (4 * k + 3) * s = p
  omega
theorem prod_bd (k : Nat) (s : Int) (hk : k < 8) (h1 : 0 ≤ s) (h2 : s ≤ 255) : 0 ≤ (4 * (k : Int) + 3) * s ∧ (4 * (k : Int) + 3) * s ≤ 8000 := by
  have a1 : (4 * (k : Int) + 3) * s ≤ 31 * s := Int.mul_le_mul_of_nonneg_right (by omega) h1
  exact ⟨Int.mul_nonneg (by omega) h1, by omega⟩
theorem key_at (k0 k1 k2 k3 k4 k5 k6 k7 : Int) (i : Nat) (h : i < 8) : (#[.int .u8 k0, .int .u8 k1, .int .u8 k2, .int .u8 k3, .int .u8 k4, .int .u8 k5, .int .u8 k6, .int .u8 k7] : Array Value)[i]? = some (.int .u8 ([k0, k1, k2, k3, k4, k5, k6, k7].getD i 0)) := by
  match i, h with
  | 0, _ => rfl
  | 1, _ => rfl
  | 2, _ => rfl
  | 3, _ => rfl
  | 4, _ => rfl
  | 5, _ => rfl
  | 6, _ => rfl
  | 7, _ => rfl

theorem size_of_blk {w : World} {g : Nat} {t : TypeId} {cs : Array Value} (h : Blk w g t cs) : g < w.heap.size := lt_of_block h

end Go.Proofs.YtnbionhahifacaaDoor
namespace Go.Proofs.YtnbionhahifacaaDoor
open Go.RowKit

def eqB (is : List Nat) (a b : Nat → Int) : Bool := is.all fun i => a i == b i
theorem run_eqItems_int {P : Program} (w : World) (d : Nat) {e : TypeId} {k : IntKind} (he : P.underlying e = some (.int k)) (xs ys : Array Value) (a b : Nat → Int) :
    ∀ (is : List Nat), (∀ i ∈ is, xs[i]? = some (.int k (a i)) ∧ ys[i]? = some (.int k (b i))) → (Op.eqItems (d + 1) e 1 xs ys is).run P w = .ok (eqB is a b) w
  | [], _ => by simp [Op.eqItems, eqB]
  | i :: is, h => by
    have h1 := h i (by simp)
    have ih := run_eqItems_int w d he xs ys a b is (fun j hj => h j (by simp [hj]))
    have hp : P.plainKey e = true := by simp [Program.plainKey, he]
    have p1 := run_part_plain (P := P) w hp h1.1
    have p2 := run_part_plain (P := P) w hp h1.2
    unfold Op.eqItems
    simp only [Nat.mul_one, Sem.run_bind, p1, p2, Result.andThen_ok, Go.run_equalIn_int w d e k k _ _ he]
    cases hab : (a i == b i)
    · simp [eqB, hab]
    · simp only [Bool.not_true, Bool.false_eq_true, if_false]
      rw [ih]
      simp [eqB, hab]

end Go.Proofs.YtnbionhahifacaaDoor
