import Derived.Test.YtnbionhahifacaaDoorIb4
set_option autoImplicit false
set_option relaxedAutoImplicit false
namespace Go.Proofs.Bell

/-! The reference of chapter 2 looks for the same numbers another way: it finds the same. -/

/-! ### Reaches -/

/-- the reference's reach behind `n` rounds -/
def reachR (l : List Int) (sq : Int) : Nat → Nat
  | 0 => 0
  | n + 1 => if l.getD n 0 ≤ sq then n else reachR l sq n

theorem asc_at {a : Int} {l : List Int} (h : asc a l = true) : (∀ i, i < l.length → a < l.getD i 0) ∧ ∀ i j, i < j → j < l.length → l.getD i 0 < l.getD j 0 := by
  induction l generalizing a with
  | nil => exact ⟨fun i hi => by simp at hi, fun i j _ hj => by simp at hj⟩
  | cons b l ih =>
    simp only [asc, Bool.and_eq_true, decide_eq_true_eq] at h
    obtain ⟨c1, c2⟩ := ih h.2
    refine ⟨?_, ?_⟩
    · intro i hi
      cases i with
      | zero => simpa using h.1
      | succ i => have := c1 i (by simpa using hi); simp only [List.getD_cons_succ]; omega
    · intro i j hij hj
      cases j with
      | zero => omega
      | succ j =>
        have hj' : j < l.length := by simpa using hj
        cases i with
        | zero => simpa using c1 j hj'
        | succ i => simpa using c2 i j (by omega) hj'

/-- squares without fault -/
structure GoodSq (l : List Int) : Prop where
  some : 0 < l.length
  zero : l.getD 0 0 = 0
  up : ∀ i j, i < j → j < l.length → l.getD i 0 < l.getD j 0

theorem squares_of {l : List Int} (h : sqE l = 0) : GoodSq l := by
  unfold sqE at h
  rw [thenE_zero, firstE_zero] at h
  have a1 := cntE_zero.1 (h.1 (cntE l.length 8) (by simp))
  have a2 : l.headD 0 = 0 ∧ asc (l.headD 0) l.tail = true := by
    have := h.2
    split at this
    · assumption
    · omega
  cases l with
  | nil => simp at a1
  | cons b l =>
    obtain ⟨c1, c2⟩ := asc_at a2.2
    simp only [List.headD_cons, List.tail_cons] at a2 c1 c2
    refine ⟨a1.1, by simpa using a2.1, ?_⟩
    intro i j hij hj
    cases j with
    | zero => omega
    | succ j =>
      have hj' : j < l.length := by simpa using hj
      cases i with
      | zero => simpa using c1 j hj'
      | succ i => simpa using c2 i j (by omega) hj'

theorem reach_before {l : List Int} {sq : Int} {i : Nat} (h : i < l.findIdx (fun x => decide (sq < x))) : l.getD i 0 ≤ sq := by
  have hl : i < l.length := Nat.lt_of_lt_of_le h List.findIdx_le_length
  have := List.not_of_lt_findIdx (p := fun x : Int => decide (sq < x)) (xs := l) h
  rw [List.getD_eq_getElem?_getD, List.getElem?_eq_getElem hl]
  simpa using this

theorem reach_from {l : List Int} (g : GoodSq l) {sq : Int} {i : Nat} (hi : i < l.length) (h : l.findIdx (fun x => decide (sq < x)) ≤ i) : sq < l.getD i 0 := by
  have hl : l.findIdx (fun x => decide (sq < x)) < l.length := by omega
  have h3 := of_decide_eq_true (List.findIdx_getElem (p := fun x : Int => decide (sq < x)) (xs := l) (w := hl))
  have e : l.getD (l.findIdx (fun x => decide (sq < x))) 0 = l[l.findIdx (fun x => decide (sq < x))] := by
    rw [List.getD_eq_getElem?_getD, List.getElem?_eq_getElem hl]; rfl
  rw [← e] at h3
  rcases Nat.lt_or_ge (l.findIdx (fun x => decide (sq < x))) i with q | q
  · have := g.up _ i q hi; omega
  · have : i = l.findIdx (fun x => decide (sq < x)) := by omega
    rw [this]; exact h3

theorem reachR_is {l : List Int} (g : GoodSq l) {sq : Int} (n : Nat) (hn : n ≤ l.length) : reachR l sq n = min n (l.findIdx (fun x => decide (sq < x))) - 1 := by
  induction n with
  | zero => simp [reachR]
  | succ n ih =>
    simp only [reachR]
    rcases Nat.lt_or_ge n (l.findIdx (fun x => decide (sq < x))) with q | q
    · rw [if_pos (reach_before q)]; omega
    · have := reach_from g (sq := sq) (i := n) (by omega) q
      rw [if_neg (by omega), ih (by omega)]; omega

theorem reachR_reach {l : List Int} (g : GoodSq l) {sq : Int} : reachR l sq l.length = reachOf l sq := by
  rw [reachR_is g l.length (Nat.le_refl _)]
  unfold reachOf
  have := List.findIdx_le_length (xs := l) (p := fun x => decide (sq < x))
  omega

/-! ### Emissions -/

theorem betw_all {a b w : Int} (h : 0 < w) : betw a b w w = b := by
  unfold betw
  rw [Int.mul_ediv_cancel _ (by omega)]
  omega

/-- the reference's emission by the index of the first power that is not below -/
def emisR (s : Sets) (r : Nat) (power : Int) : Int :=
  if ePow s (s.length - 1) ≤ power then eAt s (s.length - 1) r
  else if nextOf s power = 0 ∨ power = ePow s (nextOf s power) then eAt s (nextOf s power) r
  else betw (eAt s (nextOf s power - 1) r) (eAt s (nextOf s power) r) (power - ePow s (nextOf s power - 1)) (ePow s (nextOf s power) - ePow s (nextOf s power - 1))

theorem emisR_is {s : Sets} {m : Nat} (g : GoodSets s m) (r : Nat) (p : Int) : emisR s r p = emis s r p := by
  have h0 := g.some
  have hn := next_le s p
  unfold emisR emis
  by_cases h1 : nextOf s p = s.length
  · rw [if_pos h1]
    have := next_before (s := s) (p := p) (i := s.length - 1) (by omega)
    rw [if_pos (by omega)]
  · have hlt : nextOf s p < s.length := by omega
    have h4 := next_at hlt
    rw [if_neg h1]
    by_cases h2 : ePow s (s.length - 1) ≤ p
    · have e : nextOf s p = s.length - 1 := by
        rcases Nat.lt_or_ge (nextOf s p) (s.length - 1) with q | q
        · have := g.up _ (s.length - 1) q (by omega); omega
        · omega
      rw [if_pos h2]
      rw [e] at h4 ⊢
      by_cases h3 : s.length - 1 = 0
      · rw [if_pos h3, h3]
      · rw [if_neg h3]
        have := g.up (s.length - 1 - 1) (s.length - 1) (by omega) (by omega)
        have hp : p = ePow s (s.length - 1) := by omega
        rw [hp, betw_all (by omega)]
    · rw [if_neg h2]
      by_cases h3 : nextOf s p = 0
      · rw [if_pos (.inl h3), if_pos h3, h3]
      · rw [if_neg h3]
        by_cases h5 : p = ePow s (nextOf s p)
        · rw [if_pos (.inr h5)]
          have := g.up (nextOf s p - 1) (nextOf s p) (by omega) hlt
          rw [← h5] at this ⊢
          rw [betw_all (by omega)]
        · rw [if_neg (by intro q; rcases q with q | q; exact h3 q; exact h5 q)]

/-! ### Sectors -/

/-- the reference's turning back by quarters -/
def turnR : Nat → Int → Int → Nat → Int × Int × Nat
  | 0, u, v, n => (u, v, n)
  | k + 1, u, v, n => if u > 0 ∧ v ≥ 0 then (u, v, n) else turnR k v (-u) (n + 2)

def sectorR (u v : Int) : Nat :=
  if u = 0 ∧ v = 0 then 0
  else if (turnR 4 u v 0).1 ≤ (turnR 4 u v 0).2.1 then (turnR 4 u v 0).2.2 + 1 else (turnR 4 u v 0).2.2

theorem sectorR_is (u v : Int) : sectorR u v = secOf u v := by
  unfold sectorR secOf
  simp only [turnR]
  repeat' split
  all_goals (first | omega | (simp only [] at *) ) <;> (try omega)

/-! ### Floors, ceilings, distances -/

theorem floorR_is {n d : Int} (h : 0 < d) : (if n < n.tdiv d * d then n.tdiv d - 1 else n.tdiv d) = n / d := by
  rw [← floor_is h]
  have h1 := Int.tmod_add_mul_tdiv n d
  have e : n.tdiv d * d = d * n.tdiv d := Int.mul_comm _ _
  rw [e]
  by_cases q : n.tmod d < 0
  · rw [if_pos q, if_pos (by omega)]
  · rw [if_neg q, if_neg (by omega)]

theorem ceil_is (n : Int) : 0 - (0 - n) / 1000 = (n + 1000 - 1) / 1000 := by omega

theorem near_is (n a b : Int) : max (max 0 (min a b - n)) (n - max a b) = nearOf (min (a - n) (b - n)) (max (a - n) (b - n)) := by
  unfold nearOf; omega

theorem far_is (n a b : Int) : max (n - min a b) (max a b - n) = farOf (min (a - n) (b - n)) (max (a - n) (b - n)) := by
  unfold farOf; omega

theorem steep_is (x y z : Int) : (4 * z * z < x * x + y * y) ↔ ¬ (x * x + y * y ≤ 4 * z * z) := by omega

/-! ### Segments -/

def segR (l : List Fx) (k : Int) : Nat → Nat
  | 0 => 0
  | n + 1 => if (fxAt l n).t ≤ k then n else segR l k n

theorem segR_is {l : List Fx} (g : GoodTr l) {k : Int} (h1 : (fxAt l 0).t ≤ k) (h2 : k < (fxAt l (l.length - 1)).t) : segR l k (l.length - 1) = segIx l k := by
  obtain ⟨i, a, b, c, d⟩ := seg_ex g.lo h1 h2
  rw [d]
  have key : ∀ n, i + 1 ≤ n → n ≤ l.length - 1 → segR l k n = i := by
    intro n
    induction n with
    | zero => intro h; omega
    | succ n ih =>
      intro hn hl
      simp only [segR]
      rcases Nat.lt_or_ge i n with q | q
      · have : (fxAt l (i + 1)).t ≤ (fxAt l n).t := by
          rcases Nat.lt_or_ge (i + 1) n with t | t
          · exact Int.le_of_lt (g.up _ _ t (by omega))
          · have : n = i + 1 := by omega
            rw [this]; exact Int.le_refl _
        rw [if_neg (by omega)]
        exact ih (by omega) (by omega)
      · have : n = i := by omega
        rw [this, if_pos b]
  exact key _ (by omega) (Nat.le_refl _)

/-! ### Bands -/

def bandsOf (n : Int) (shares : List Int) : List Int := shares.map (fun k => n * k / 1000)

theorem bands_left (n : Int) (h : 0 ≤ n) (shares : List Int) (hs : ∀ k, k ∈ shares → 0 ≤ k) : (∀ x, x ∈ bandsOf n shares → 0 ≤ x) ∧ 1000 * (bandsOf n shares).sum ≤ n * shares.sum := by
  constructor
  · intro x hx
    simp only [bandsOf, List.mem_map] at hx
    obtain ⟨k, hk, rfl⟩ := hx
    have := Int.mul_nonneg h (hs k hk)
    omega
  · induction shares with
    | nil => simp [bandsOf]
    | cons a l ih =>
      have := ih (fun k hk => hs k (by simp [hk]))
      simp only [bandsOf, List.map_cons, List.sum_cons] at *
      have e : n * (a + l.sum) = n * a + n * l.sum := Int.mul_add _ _ _
      omega

end Go.Proofs.Bell
