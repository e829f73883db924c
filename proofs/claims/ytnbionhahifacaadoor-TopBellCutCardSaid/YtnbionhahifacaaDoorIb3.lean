import Derived.Test.YtnbionhahifacaaDoorIb2
set_option autoImplicit false
set_option relaxedAutoImplicit false
namespace Go.Proofs.Bell

/-! What TopBellCut says, of lists alone: the states of a valid track are valid, exposures of spans that follow one another add up, the maximum is the first of the greatest. -/

theorem fxAt_get {l : List Fx} {j : Nat} (hj : j < l.length) : fxAt l j = l[j] := by
  unfold fxAt; rw [List.getD_eq_getElem?_getD, List.getElem?_eq_getElem hj]; rfl

theorem seg_ex {l : List Fx} (h : 2 ≤ l.length) {k : Int} (h1 : (fxAt l 0).t ≤ k) (h2 : k < (fxAt l (l.length - 1)).t) :
    ∃ i, i + 1 < l.length ∧ (fxAt l i).t ≤ k ∧ k < (fxAt l (i + 1)).t ∧ segIx l k = i := by
  have hl : l.findIdx (fun p => decide (k < p.t)) < l.length := by
    apply Nat.lt_of_not_le
    intro hle
    have := List.not_of_lt_findIdx (p := fun p : Fx => decide (k < p.t)) (xs := l) (i := l.length - 1) (by omega)
    rw [fxAt_get (by omega)] at h2
    simp at this
    omega
  have h3 := of_decide_eq_true (List.findIdx_getElem (p := fun p : Fx => decide (k < p.t)) (xs := l) (w := hl))
  have h0 : l.findIdx (fun p => decide (k < p.t)) ≠ 0 := by
    intro e
    have e1 : fxAt l (l.findIdx (fun p => decide (k < p.t))) = l[l.findIdx (fun p => decide (k < p.t))] := fxAt_get hl
    rw [← e1, e] at h3
    omega
  have h4 := List.not_of_lt_findIdx (p := fun p : Fx => decide (k < p.t)) (xs := l) (i := l.findIdx (fun p => decide (k < p.t)) - 1) (by omega)
  refine ⟨l.findIdx (fun p => decide (k < p.t)) - 1, by omega, ?_, ?_, rfl⟩
  · rw [fxAt_get (by omega)]
    simp at h4
    omega
  · have e : l.findIdx (fun p => decide (k < p.t)) - 1 + 1 = l.findIdx (fun p => decide (k < p.t)) := by omega
    rw [e, fxAt_get hl]; exact h3

structure GoodSt (s : St) : Prop where
  x0 : -100000 ≤ s.x
  x1 : s.x ≤ 100000
  y0 : -100000 ≤ s.y
  y1 : s.y ≤ 100000
  z0 : 0 ≤ s.z
  z1 : s.z ≤ 20000
  hx0 : -200000 ≤ s.hx
  hx1 : s.hx ≤ 200000
  hy0 : -200000 ≤ s.hy
  hy1 : s.hy ≤ 200000
  p0 : 1 ≤ s.p
  p1 : s.p ≤ 100

theorem state_of {a b : Fx} {k : Int} (ga : GoodFx a) (gb : GoodFx b) (h1 : a.t ≤ k) (h2 : k < b.t) : GoodSt (stOf a b k) := by
  obtain ⟨q1, q2, q3⟩ := part_ok h1 h2
  have x := betw_bounds (a := a.x) (b := b.x) (lo := -100000) (hi := 100000) q1 q2 q3 ga.x0 gb.x0 ga.x1 gb.x1
  have y := betw_bounds (a := a.y) (b := b.y) (lo := -100000) (hi := 100000) q1 q2 q3 ga.y0 gb.y0 ga.y1 gb.y1
  have z := betw_bounds (a := a.z) (b := b.z) (lo := 0) (hi := 20000) q1 q2 q3 ga.z0 gb.z0 ga.z1 gb.z1
  have p := betw_bounds (a := a.p) (b := b.p) (lo := 1) (hi := 100) q1 q2 q3 ga.p0 gb.p0 ga.p1 gb.p1
  have := ga.x0; have := ga.x1; have := gb.x0; have := gb.x1
  have := ga.y0; have := ga.y1; have := gb.y0; have := gb.y1
  refine ⟨x.1, x.2, y.1, y.2, z.1, z.2, ?_, ?_, ?_, ?_, p.1, p.2⟩ <;> (simp only [stOf]; omega)

theorem state_ok {l : List Fx} (g : GoodTr l) {k : Int} (h1 : (fxAt l 0).t ≤ k) (h2 : k < (fxAt l (l.length - 1)).t) : GoodSt (stAt l k) := by
  obtain ⟨i, a, b, c, d⟩ := seg_ex g.lo h1 h2
  unfold stAt
  rw [d]
  exact state_of (g.pts _ (by omega)) (g.pts _ a) b c

/-- what Exposure answers -/
def expoOf (T : Ty) (l : List Fx) (r : Pl) (c d : Int) : Int :=
  sumF (heardAt T l r) (max c (fxAt l 0).t) (min d (fxAt l (l.length - 1)).t - max c (fxAt l 0).t).toNat

theorem expo_in {T : Ty} {l : List Fx} {r : Pl} {c d : Int} (h1 : (fxAt l 0).t ≤ c) (h2 : d ≤ (fxAt l (l.length - 1)).t) :
    expoOf T l r c d = sumF (heardAt T l r) c (d - c).toNat := by
  unfold expoOf
  rw [show max c (fxAt l 0).t = c by omega, show min d (fxAt l (l.length - 1)).t = d by omega]

theorem expo_cuts {T : Ty} {l : List Fx} {r : Pl} {a b c d : Int} (h0 : (fxAt l 0).t ≤ a) (h1 : a ≤ b) (h2 : b ≤ c) (h3 : c ≤ d) (h4 : d ≤ (fxAt l (l.length - 1)).t) :
    expoOf T l r a b + expoOf T l r b c + expoOf T l r c d = expoOf T l r a d := by
  rw [expo_in (by omega) (by omega), expo_in (by omega) (by omega), expo_in (by omega) (by omega), expo_in (by omega) (by omega)]
  exact sumF_cuts _ h1 h2 h3

variable {T : Ty}

theorem expo_range (gT : GoodTy T) {l : List Fx} (g : GoodTr l) (r : Pl) (c d : Int) : 0 ≤ expoOf T l r c d ∧ expoOf T l r c d ≤ 200000000000 := by
  unfold expoOf
  constructor
  · exact sumF_nonneg (fun k => (heard_range gT _ r).1)
  · have h := sumF_upto (f := heardAt T l r) (a := max c (fxAt l 0).t) (c := 200000000) (n := (min d (fxAt l (l.length - 1)).t - max c (fxAt l 0).t).toNat) (fun k => (heard_range gT _ r).2)
    have := g.last
    have hn : (((min d (fxAt l (l.length - 1)).t - max c (fxAt l 0).t).toNat : Nat) : Int) ≤ 1000 := by omega
    have := Int.mul_le_mul_of_nonneg_right hn (show (0 : Int) ≤ 200000000 by decide)
    omega

theorem expo_whole (gT : GoodTy T) {l : List Fx} (g : GoodTr l) (r : Pl) :
    encLow T l r (l.length - 1) ≤ expoOf T l r (fxAt l 0).t (fxAt l (l.length - 1)).t ∧ expoOf T l r (fxAt l 0).t (fxAt l (l.length - 1)).t ≤ encHigh T l r (l.length - 1) := by
  rw [expo_in (Int.le_refl _) (Int.le_refl _)]
  have := g.lo
  exact enclosed gT g.up r (l.length - 1) (by omega)

/-- what is heard tick by tick -/
def allOf (T : Ty) (l : List Fx) (r : Pl) : List Int :=
  (List.range ((fxAt l (l.length - 1)).t - (fxAt l 0).t).toNat).map (fun i : Nat => heardAt T l r ((fxAt l 0).t + i))

theorem all_sum (T : Ty) (l : List Fx) (r : Pl) (k : Nat) : ((allOf T l r).drop k ++ (allOf T l r).take k).sum = expoOf T l r (fxAt l 0).t (fxAt l (l.length - 1)).t := by
  rw [sum_turn, expo_in (Int.le_refl _) (Int.le_refl _)]
  exact sumF_list _ _ _

theorem all_len (T : Ty) (l : List Fx) (r : Pl) : (allOf T l r).length = ((fxAt l (l.length - 1)).t - (fxAt l 0).t).toNat := by
  simp [allOf]

theorem all_at {T : Ty} {l : List Fx} {r : Pl} {i : Nat} (h : i < (allOf T l r).length) : (allOf T l r).getD i 0 = heardAt T l r ((fxAt l 0).t + i) := by
  rw [List.getD_eq_getElem?_getD, List.getElem?_eq_getElem h]
  simp [allOf]

theorem all_range (gT : GoodTy T) (l : List Fx) (r : Pl) : ∀ x, x ∈ allOf T l r → 0 ≤ x ∧ x ≤ 200000000 := by
  intro x hx
  simp only [allOf, List.mem_map, List.mem_range] at hx
  obtain ⟨i, _, rfl⟩ := hx
  exact heard_range gT _ r

/-- the first of the greatest, however it is looked for -/
theorem first_most {f : Int → Int} {a : Int} {n : Nat} {i : Nat} (h : ∀ i : Nat, i < n → 0 ≤ f (a + i)) (hi : i < n)
    (h1 : ∀ j : Nat, j < n → f (a + j) ≤ f (a + i)) (h2 : ∀ j : Nat, j < i → f (a + j) < f (a + i)) :
    maxF f a n = (f (a + i), a + i) := by
  obtain ⟨k1, k2⟩ := maxF_spec f a n h
  obtain ⟨_, j, j1, j2, j3, j4⟩ := k2 (by omega)
  have e : j = i := by
    rcases Nat.lt_trichotomy i j with q | q | q
    · have := j4 i q; have := h1 j j1; omega
    · exact q.symm
    · have := h2 j q; have := k1 i hi; omega
  rw [e] at j2 j3
  exact Prod.ext j3.symm j2

end Go.Proofs.Bell
