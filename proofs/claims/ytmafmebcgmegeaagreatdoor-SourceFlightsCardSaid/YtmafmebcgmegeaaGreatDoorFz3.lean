/- Texts Ib2 Ib3 Ib4 Ib5 I1 of the proof. -/
import Derived.Test.YtmafmebcgmegeaaGreatDoorFz2
import Derived.StillTailTactics
set_option autoImplicit false
set_option relaxedAutoImplicit false
namespace Go.Proofs.Bell
/-! The faults of types and tracks (chapter 2), as functions of their data: what CheckType and CheckTrack answer, and what a type or a track without fault keeps. -/
def inR (n lo hi : Int) : Int := if n < lo ∨ hi < n then 3 else 0
def firstE : List Int → Int
  | [] => 0
  | e :: l => if e = 0 then firstE l else e
theorem firstE_zero {l : List Int} : firstE l = 0 ↔ ∀ e, e ∈ l → e = 0 := by
  induction l with
  | nil => simp [firstE]
  | cons a l ih =>
    simp only [firstE]
    split
    · rename_i h; rw [ih]; simp [h]
    · rename_i h; simp [h]
def eachE (f : Int → Int) (l : List Int) : Int := firstE (l.map f)
theorem eachE_zero {f : Int → Int} {l : List Int} : eachE f l = 0 ↔ ∀ x, x ∈ l → f x = 0 := by
  unfold eachE; rw [firstE_zero]; simp
def cntE (n limit : Nat) : Int := if n = 0 then 12 else if limit < n then 5 else 0
theorem cntE_zero {n k : Nat} : cntE n k = 0 ↔ 0 < n ∧ n ≤ k := by
  unfold cntE
  split
  · simp; omega
  · split
    · simp; omega
    · simp; omega
theorem inR_zero {n lo hi : Int} : inR n lo hi = 0 ↔ lo ≤ n ∧ n ≤ hi := by
  unfold inR
  split
  · simp; omega
  · simp; omega
def thenE (a b : Int) : Int := if a = 0 then b else a
theorem thenE_zero {a b : Int} : thenE a b = 0 ↔ a = 0 ∧ b = 0 := by
  unfold thenE; split <;> simp_all
def shE (l : List Int) : Int := thenE (firstE [cntE l.length 8, eachE (fun n => inR n 0 1000) l]) (if l.sum = 1000 then 0 else 1)
def asc : Int → List Int → Bool
  | _, [] => true
  | a, b :: l => decide (a < b) && asc b l
def sqE (l : List Int) : Int := thenE (firstE [cntE l.length 8, eachE (fun n => inR n 0 100000000000) l]) (if l.headD 0 = 0 ∧ asc (l.headD 0) l.tail then 0 else 11)
def ruleOk : Int → List Int → List Int → Bool
  | _, _, [] => true
  | a, prev, b :: l => decide (prev.headD 0 ≤ b) && decide (b ≤ a) && ruleOk b prev.tail l
def setE (m : Nat) (bp : Int) (be : List Int) (s : Int × List Int) : Int :=
  thenE (firstE [inR s.1 1 100, if s.1 ≤ bp then 11 else 0, if s.2.length = m then 0 else 2, eachE (fun n => inR n 0 100000000) s.2]) (if ruleOk (s.2.headD 0) be s.2 then 0 else 21)
def setsE (m : Nat) : Int → List Int → Sets → Int
  | _, _, [] => 0
  | bp, be, s :: l => thenE (setE m bp be s) (setsE m s.1 s.2 l)
def tyE (name : Int) (shares : List Int) (T : Ty) : Int :=
  thenE (firstE [name, shE shares, eachE (fun n => inR n 0 2000) T.direct, inR T.side 0 1000, sqE T.squares, cntE T.sets.length 6])
    (setsE T.squares.length 0 (List.replicate T.squares.length 0) T.sets)
theorem ruleOk_at {a : Int} {prev l : List Int} (h : ruleOk a prev l = true) :
    (∀ i, i < l.length → prev.getD i 0 ≤ l.getD i 0) ∧ (∀ i, i < l.length → l.getD i 0 ≤ a) ∧ (∀ i j, i ≤ j → j < l.length → l.getD j 0 ≤ l.getD i 0) := by
  induction l generalizing a prev with
  | nil => exact ⟨fun i hi => by simp at hi, fun i hi => by simp at hi, fun i j _ hj => by simp at hj⟩
  | cons b l ih =>
    simp only [ruleOk, Bool.and_eq_true, decide_eq_true_eq] at h; obtain ⟨⟨h1, h2⟩, h3⟩ := h; obtain ⟨k1, k2, k3⟩ := ih h3; refine ⟨?_, ?_, ?_⟩
    · intro i hi
      cases i with
      | zero => cases prev <;> simpa using h1
      | succ i =>
        have := k1 i (by simpa using hi)
        cases prev with
        | nil => simpa using this
        | cons p prev => simpa using this
    · intro i hi
      cases i with
      | zero => simpa using h2
      | succ i => have := k2 i (by simpa using hi); simp only [List.getD_cons_succ]; omega
    · intro i j hij hj
      cases j with
      | zero => have : i = 0 := by omega
                subst this; exact Int.le_refl _
      | succ j =>
        cases i with
        | zero => have := k2 j (by simpa using hj); simpa using this
        | succ i => have := k3 i j (by omega) (by simpa using hj); simpa using this
theorem setE_zero {m : Nat} {bp : Int} {be : List Int} {s : Int × List Int} (h : setE m bp be s = 0) :
    (1 ≤ s.1 ∧ s.1 ≤ 100) ∧ bp < s.1 ∧ s.2.length = m ∧ (∀ x, x ∈ s.2 → 0 ≤ x ∧ x ≤ 100000000) ∧ ruleOk (s.2.headD 0) be s.2 = true := by
  unfold setE at h; rw [thenE_zero, firstE_zero] at h; obtain ⟨h1, h2⟩ := h; have a1 := inR_zero.1 (h1 (inR s.1 1 100) (by simp)); have a2 := h1 (if s.1 ≤ bp then 11 else 0) (by simp); have a3 := h1 (if s.2.length = m then 0 else 2) (by simp); have a4 := eachE_zero.1 (h1 (eachE (fun n => inR n 0 100000000) s.2) (by simp)); refine ⟨a1, ?_, ?_, fun x hx => inR_zero.1 (a4 x hx), ?_⟩
  · split at a2 <;> omega
  · split at a3
    · assumption
    · omega
  · split at h2
    · assumption
    · omega
theorem setsE_zero {m : Nat} {bp : Int} {be : List Int} {s : Sets} (h : setsE m bp be s = 0) :
    (∀ i, i < s.length → bp < ePow s i ∧ 1 ≤ ePow s i ∧ ePow s i ≤ 100) ∧
    (∀ i, i < s.length → ((s.getD i (0, [])).2).length = m) ∧
    (∀ i j, i < j → j < s.length → ePow s i < ePow s j) ∧
    (∀ i r, i < s.length → r < m → 0 ≤ eAt s i r ∧ eAt s i r ≤ 100000000) ∧
    (∀ i r, i < s.length → r < m → be.getD r 0 ≤ eAt s i r) ∧
    (∀ i j r, i ≤ j → j < s.length → r < m → eAt s i r ≤ eAt s j r) ∧
    (∀ i r r', i < s.length → r ≤ r' → r' < m → eAt s i r' ≤ eAt s i r) := by
  induction s generalizing bp be with
  | nil => refine ⟨?_, ?_, ?_, ?_, ?_, ?_, ?_⟩ <;> intros <;> rename_i h <;> simp at * 
  | cons a s ih =>
    simp only [setsE] at h; rw [thenE_zero] at h; obtain ⟨b1, b2, b3, b4, b5⟩ := setE_zero h.1; obtain ⟨c1, c2, c3, c4, c5, c6, c7⟩ := ih h.2; obtain ⟨d1, d2, d3⟩ := ruleOk_at b5; have e0 : ∀ r, eAt (a :: s) 0 r = a.2.getD r 0 := fun r => rfl
    have e1 : ∀ i r, eAt (a :: s) (i + 1) r = eAt s i r := fun i r => by simp [eAt]
    have p0 : ePow (a :: s) 0 = a.1 := rfl; have p1 : ∀ i, ePow (a :: s) (i + 1) = ePow s i := fun i => by simp [ePow]
    have hmem : ∀ r, r < m → a.2.getD r 0 ∈ a.2 := fun r hr => getD_mem (by omega)
    refine ⟨?_, ?_, ?_, ?_, ?_, ?_, ?_⟩
    · intro i hi
      cases i with
      | zero => rw [p0]; omega
      | succ i => rw [p1]; have := c1 i (by simpa using hi); omega
    · intro i hi
      cases i with
      | zero => simpa using b3
      | succ i => simpa using c2 i (by simpa using hi)
    · intro i j hij hj
      cases j with
      | zero => omega
      | succ j =>
        have hj' : j < s.length := by simpa using hj
        cases i with
        | zero => rw [p0, p1]; exact (c1 j hj').1
        | succ i => rw [p1, p1]; exact c3 i j (by omega) hj'
    · intro i r hi hr
      cases i with
      | zero => rw [e0]; exact b4 _ (hmem r hr)
      | succ i => rw [e1]; exact c4 i r (by simpa using hi) hr
    · intro i r hi hr
      cases i with
      | zero => rw [e0]; exact d1 r (by omega)
      | succ i => rw [e1]; have := c5 i r (by simpa using hi) hr; have := d1 r (by omega); omega
    · intro i j r hij hj hr
      cases j with
      | zero => have : i = 0 := by omega
                subst this; exact Int.le_refl _
      | succ j =>
        have hj' : j < s.length := by simpa using hj
        cases i with
        | zero => rw [e0, e1]; exact c5 j r hj' hr
        | succ i => rw [e1, e1]; exact c6 i j r (by omega) hj' hr
    · intro i r r' hi hrr hr
      cases i with
      | zero => rw [e0, e0]; exact d3 r r' hrr (by omega)
      | succ i => rw [e1, e1]; exact c7 i r r' (by simpa using hi) hrr hr
theorem good_of {name : Int} {shares : List Int} {T : Ty} (hl : T.direct.length = 8) (h : tyE name shares T = 0) : GoodTy T := by
  unfold tyE at h; rw [thenE_zero, firstE_zero] at h; obtain ⟨h1, h2⟩ := h; have a1 := eachE_zero.1 (h1 (eachE (fun n => inR n 0 2000) T.direct) (by simp)); have a2 := inR_zero.1 (h1 (inR T.side 0 1000) (by simp)); have a3 := h1 (sqE T.squares) (by simp); have a4 := cntE_zero.1 (h1 (cntE T.sets.length 6) (by simp)); unfold sqE at a3; rw [thenE_zero, firstE_zero] at a3; have a5 := cntE_zero.1 (a3.1 (cntE T.squares.length 8) (by simp)); obtain ⟨c1, c2, c3, c4, c5, c6, c7⟩ := setsE_zero h2
  exact { dir := fun i hi => inR_zero.1 (a1 _ (getD_mem (by omega)))
          dlen := hl
          side0 := a2.1
          side1 := a2.2
          sq := a5.1
          sets := { some := a4.1, up := c3, ord := c6, down := c7, lo := fun i r hi hr => (c4 i r hi hr).1, hi := fun i r hi hr => (c4 i r hi hr).2 } }
/-! ### Tracks -/
structure GoodTr (l : List Fx) : Prop where
  lo : 2 ≤ l.length
  hi : l.length ≤ 16
  up : Ticks l
  pts : ∀ i, i < l.length → GoodFx (fxAt l i)
  last : (fxAt l (l.length - 1)).t - (fxAt l 0).t ≤ 1000
end Go.Proofs.Bell

set_option autoImplicit false
set_option relaxedAutoImplicit false
namespace Go.Proofs.Bell
/-! What TopBellCut says, of lists alone: the states of a valid track are valid, exposures of spans that follow one another add up, the maximum is the first of the greatest. -/
theorem fxAt_get {l : List Fx} {j : Nat} (hj : j < l.length) : fxAt l j = l[j] := by
  unfold fxAt; rw [List.getD_eq_getElem?_getD, List.getElem?_eq_getElem hj]; rfl
theorem seg_ex {l : List Fx} (h : 2 ≤ l.length) {k : Int} (h1 : (fxAt l 0).t ≤ k) (h2 : k < (fxAt l (l.length - 1)).t) :
    ∃ i, i + 1 < l.length ∧ (fxAt l i).t ≤ k ∧ k < (fxAt l (i + 1)).t ∧ segIx l k = i := by
  have hl : l.findIdx (fun p => decide (k < p.t)) < l.length := by
    apply Nat.lt_of_not_le
    intro hle; have := List.not_of_lt_findIdx (p := fun p : Fx => decide (k < p.t)) (xs := l) (i := l.length - 1) (by omega); rw [fxAt_get (by omega)] at h2
    simp at this
    omega
  have h3 := of_decide_eq_true (List.findIdx_getElem (p := fun p : Fx => decide (k < p.t)) (xs := l) (w := hl))
  have h0 : l.findIdx (fun p => decide (k < p.t)) ≠ 0 := by
    intro e; have e1 : fxAt l (l.findIdx (fun p => decide (k < p.t))) = l[l.findIdx (fun p => decide (k < p.t))] := fxAt_get hl; rw [← e1, e] at h3
    omega
  have h4 := List.not_of_lt_findIdx (p := fun p : Fx => decide (k < p.t)) (xs := l) (i := l.findIdx (fun p => decide (k < p.t)) - 1) (by omega); refine ⟨l.findIdx (fun p => decide (k < p.t)) - 1, by omega, ?_, ?_, rfl⟩
  · rw [fxAt_get (by omega)]
    simp at h4
    omega
  · have e : l.findIdx (fun p => decide (k < p.t)) - 1 + 1 = l.findIdx (fun p => decide (k < p.t)) := by omega
    rw [e, fxAt_get hl]; exact h3
structure GoodSt (s : St) : Prop where
  x0 : -100000 ≤ s.x
  x1 : s.x ≤ 100000
  y0 : -100000 ≤ s.y
  y1 : s.y ≤ 100000
  z0 : 0 ≤ s.z
  z1 : s.z ≤ 20000
  hx0 : -200000 ≤ s.hx
  hx1 : s.hx ≤ 200000
  hy0 : -200000 ≤ s.hy
  hy1 : s.hy ≤ 200000
  p0 : 1 ≤ s.p
  p1 : s.p ≤ 100
theorem state_of {a b : Fx} {k : Int} (ga : GoodFx a) (gb : GoodFx b) (h1 : a.t ≤ k) (h2 : k < b.t) : GoodSt (stOf a b k) := by
  obtain ⟨q1, q2, q3⟩ := part_ok h1 h2; have x := betw_bounds (a := a.x) (b := b.x) (lo := -100000) (hi := 100000) q1 q2 q3 ga.x0 gb.x0 ga.x1 gb.x1; have y := betw_bounds (a := a.y) (b := b.y) (lo := -100000) (hi := 100000) q1 q2 q3 ga.y0 gb.y0 ga.y1 gb.y1; have z := betw_bounds (a := a.z) (b := b.z) (lo := 0) (hi := 20000) q1 q2 q3 ga.z0 gb.z0 ga.z1 gb.z1; have p := betw_bounds (a := a.p) (b := b.p) (lo := 1) (hi := 100) q1 q2 q3 ga.p0 gb.p0 ga.p1 gb.p1; have := ga.x0; have := ga.x1; have := gb.x0; have := gb.x1; have := ga.y0; have := ga.y1; have := gb.y0; have := gb.y1; refine ⟨x.1, x.2, y.1, y.2, z.1, z.2, ?_, ?_, ?_, ?_, p.1, p.2⟩ <;> (simp only [stOf]; omega)
theorem state_ok {l : List Fx} (g : GoodTr l) {k : Int} (h1 : (fxAt l 0).t ≤ k) (h2 : k < (fxAt l (l.length - 1)).t) : GoodSt (stAt l k) := by
  obtain ⟨i, a, b, c, d⟩ := seg_ex g.lo h1 h2; unfold stAt; rw [d]; exact state_of (g.pts _ (by omega)) (g.pts _ a) b c
def expoOf (T : Ty) (l : List Fx) (r : Pl) (c d : Int) : Int :=
  sumF (heardAt T l r) (max c (fxAt l 0).t) (min d (fxAt l (l.length - 1)).t - max c (fxAt l 0).t).toNat
variable {T : Ty}
theorem expo_range (gT : GoodTy T) {l : List Fx} (g : GoodTr l) (r : Pl) (c d : Int) : 0 ≤ expoOf T l r c d ∧ expoOf T l r c d ≤ 200000000000 := by
  unfold expoOf
  constructor
  · exact sumF_nonneg (fun k => (heard_range gT _ r).1)
  · have h := sumF_upto (f := heardAt T l r) (a := max c (fxAt l 0).t) (c := 200000000) (n := (min d (fxAt l (l.length - 1)).t - max c (fxAt l 0).t).toNat) (fun k => (heard_range gT _ r).2); have := g.last; have hn : (((min d (fxAt l (l.length - 1)).t - max c (fxAt l 0).t).toNat : Nat) : Int) ≤ 1000 := by omega
    have := Int.mul_le_mul_of_nonneg_right hn (show (0 : Int) ≤ 200000000 by decide)
    omega
end Go.Proofs.Bell

set_option autoImplicit false
set_option relaxedAutoImplicit false
namespace Go.Proofs.Bell
/-! What SourceTurned and SourceCut say, of numbers and lists alone: sectors of turned directions; greater powers and greater energies. -/
def secOf (u v : Int) : Nat :=
  if (u > v ∧ v ≥ 0) ∨ (u = 0 ∧ v = 0) then 0
  else if v ≥ u ∧ u > 0 then 1
  else if v > -u ∧ -u ≥ 0 then 2
  else if -u ≥ v ∧ v > 0 then 3
  else if -u > -v ∧ -v ≥ 0 then 4
  else if -v ≥ -u ∧ -u > 0 then 5
  else if -v > u ∧ u ≥ 0 then 6
  else 7
theorem sector_is (hx hy x y : Int) : sectorOf hx hy x y = secOf (hx * x + hy * y) (hx * y - hy * x) := rfl
/-! ### Greater powers, greater energies -/
theorem ruleOk_of {a : Int} {prev l : List Int} (h1 : ∀ i, i < l.length → prev.getD i 0 ≤ l.getD i 0) (h2 : ∀ i, i < l.length → l.getD i 0 ≤ a) (h3 : ∀ i j, i ≤ j → j < l.length → l.getD j 0 ≤ l.getD i 0) : ruleOk a prev l = true := by
  induction l generalizing a prev with
  | nil => rfl
  | cons b l ih =>
    simp only [ruleOk, Bool.and_eq_true, decide_eq_true_eq]; refine ⟨⟨?_, ?_⟩, ih ?_ ?_ ?_⟩
    · have := h1 0 (by simp)
      cases prev <;> simpa using this
    · simpa using h2 0 (by simp)
    · intro i hi; have := h1 (i + 1) (by simpa using hi)
      cases prev <;> simpa using this
    · intro i hi; have := h3 0 (i + 1) (by omega) (by simpa using hi)
      simpa using this
    · intro i j hij hj; have := h3 (i + 1) (j + 1) (by omega) (by simpa using hj)
      simpa using this
end Go.Proofs.Bell

set_option autoImplicit false
set_option relaxedAutoImplicit false
namespace Go.Proofs.Bell
/-! The reference of chapter 2 looks for the same numbers another way: it finds the same. -/
/-! ### Reaches -/
def reachR (l : List Int) (sq : Int) : Nat → Nat
  | 0 => 0
  | n + 1 => if l.getD n 0 ≤ sq then n else reachR l sq n
theorem asc_at {a : Int} {l : List Int} (h : asc a l = true) : (∀ i, i < l.length → a < l.getD i 0) ∧ ∀ i j, i < j → j < l.length → l.getD i 0 < l.getD j 0 := by
  induction l generalizing a with
  | nil => exact ⟨fun i hi => by simp at hi, fun i j _ hj => by simp at hj⟩
  | cons b l ih =>
    simp only [asc, Bool.and_eq_true, decide_eq_true_eq] at h; obtain ⟨c1, c2⟩ := ih h.2; refine ⟨?_, ?_⟩
    · intro i hi
      cases i with
      | zero => simpa using h.1
      | succ i => have := c1 i (by simpa using hi); simp only [List.getD_cons_succ]; omega
    · intro i j hij hj
      cases j with
      | zero => omega
      | succ j =>
        have hj' : j < l.length := by simpa using hj
        cases i with
        | zero => simpa using c1 j hj'
        | succ i => simpa using c2 i j (by omega) hj'
structure GoodSq (l : List Int) : Prop where
  some : 0 < l.length
  zero : l.getD 0 0 = 0
  up : ∀ i j, i < j → j < l.length → l.getD i 0 < l.getD j 0
theorem squares_of {l : List Int} (h : sqE l = 0) : GoodSq l := by
  unfold sqE at h; rw [thenE_zero, firstE_zero] at h; have a1 := cntE_zero.1 (h.1 (cntE l.length 8) (by simp))
  have a2 : l.headD 0 = 0 ∧ asc (l.headD 0) l.tail = true := by
    have := h.2
    split at this
    · assumption
    · omega
  cases l with
  | nil => simp at a1
  | cons b l =>
    obtain ⟨c1, c2⟩ := asc_at a2.2; simp only [List.headD_cons, List.tail_cons] at a2 c1 c2; refine ⟨a1.1, by simpa using a2.1, ?_⟩; intro i j hij hj
    cases j with
    | zero => omega
    | succ j =>
      have hj' : j < l.length := by simpa using hj
      cases i with
      | zero => simpa using c1 j hj'
      | succ i => simpa using c2 i j (by omega) hj'
theorem reach_before {l : List Int} {sq : Int} {i : Nat} (h : i < l.findIdx (fun x => decide (sq < x))) : l.getD i 0 ≤ sq := by
  have hl : i < l.length := Nat.lt_of_lt_of_le h List.findIdx_le_length; have := List.not_of_lt_findIdx (p := fun x : Int => decide (sq < x)) (xs := l) h; rw [List.getD_eq_getElem?_getD, List.getElem?_eq_getElem hl]
  simpa using this
theorem reach_from {l : List Int} (g : GoodSq l) {sq : Int} {i : Nat} (hi : i < l.length) (h : l.findIdx (fun x => decide (sq < x)) ≤ i) : sq < l.getD i 0 := by
  have hl : l.findIdx (fun x => decide (sq < x)) < l.length := by omega
  have h3 := of_decide_eq_true (List.findIdx_getElem (p := fun x : Int => decide (sq < x)) (xs := l) (w := hl))
  have e : l.getD (l.findIdx (fun x => decide (sq < x))) 0 = l[l.findIdx (fun x => decide (sq < x))] := by
    rw [List.getD_eq_getElem?_getD, List.getElem?_eq_getElem hl]; rfl
  rw [← e] at h3; rcases Nat.lt_or_ge (l.findIdx (fun x => decide (sq < x))) i with q | q
  · have := g.up _ i q hi; omega
  · have : i = l.findIdx (fun x => decide (sq < x)) := by omega
    rw [this]; exact h3
theorem reachR_is {l : List Int} (g : GoodSq l) {sq : Int} (n : Nat) (hn : n ≤ l.length) : reachR l sq n = min n (l.findIdx (fun x => decide (sq < x))) - 1 := by
  induction n with
  | zero => simp [reachR]
  | succ n ih =>
    simp only [reachR]; rcases Nat.lt_or_ge n (l.findIdx (fun x => decide (sq < x))) with q | q
    · rw [if_pos (reach_before q)]; omega
    · have := reach_from g (sq := sq) (i := n) (by omega) q; rw [if_neg (by omega), ih (by omega)]; omega
theorem reachR_reach {l : List Int} (g : GoodSq l) {sq : Int} : reachR l sq l.length = reachOf l sq := by
  rw [reachR_is g l.length (Nat.le_refl _)]; unfold reachOf; have := List.findIdx_le_length (xs := l) (p := fun x => decide (sq < x))
  omega
/-! ### Emissions -/
theorem betw_all {a b w : Int} (h : 0 < w) : betw a b w w = b := by
  unfold betw; rw [Int.mul_ediv_cancel _ (by omega)]
  omega
def emisR (s : Sets) (r : Nat) (power : Int) : Int :=
  if ePow s (s.length - 1) ≤ power then eAt s (s.length - 1) r
  else if nextOf s power = 0 ∨ power = ePow s (nextOf s power) then eAt s (nextOf s power) r
  else betw (eAt s (nextOf s power - 1) r) (eAt s (nextOf s power) r) (power - ePow s (nextOf s power - 1)) (ePow s (nextOf s power) - ePow s (nextOf s power - 1))
theorem emisR_is {s : Sets} {m : Nat} (g : GoodSets s m) (r : Nat) (p : Int) : emisR s r p = emis s r p := by
  have h0 := g.some; have hn := next_le s p; unfold emisR emis
  by_cases h1 : nextOf s p = s.length
  · rw [if_pos h1]; have := next_before (s := s) (p := p) (i := s.length - 1) (by omega); rw [if_pos (by omega)]
  · have hlt : nextOf s p < s.length := by omega
    have h4 := next_at hlt; rw [if_neg h1]
    by_cases h2 : ePow s (s.length - 1) ≤ p
    · have e : nextOf s p = s.length - 1 := by
        rcases Nat.lt_or_ge (nextOf s p) (s.length - 1) with q | q
        · have := g.up _ (s.length - 1) q (by omega); omega
        · omega
      rw [if_pos h2]; rw [e] at h4 ⊢
      by_cases h3 : s.length - 1 = 0
      · rw [if_pos h3, h3]
      · rw [if_neg h3]; have := g.up (s.length - 1 - 1) (s.length - 1) (by omega) (by omega); have hp : p = ePow s (s.length - 1) := by omega
        rw [hp, betw_all (by omega)]
    · rw [if_neg h2]
      by_cases h3 : nextOf s p = 0
      · rw [if_pos (.inl h3), if_pos h3, h3]
      · rw [if_neg h3]
        by_cases h5 : p = ePow s (nextOf s p)
        · rw [if_pos (.inr h5)]; have := g.up (nextOf s p - 1) (nextOf s p) (by omega) hlt; rw [← h5] at this ⊢; rw [betw_all (by omega)]
        · rw [if_neg (by intro q; rcases q with q | q; exact h3 q; exact h5 q)]
/-! ### Sectors -/
def turnR : Nat → Int → Int → Nat → Int × Int × Nat
  | 0, u, v, n => (u, v, n)
  | k + 1, u, v, n => if u > 0 ∧ v ≥ 0 then (u, v, n) else turnR k v (-u) (n + 2)
def sectorR (u v : Int) : Nat :=
  if u = 0 ∧ v = 0 then 0
  else if (turnR 4 u v 0).1 ≤ (turnR 4 u v 0).2.1 then (turnR 4 u v 0).2.2 + 1 else (turnR 4 u v 0).2.2
theorem sectorR_is (u v : Int) : sectorR u v = secOf u v := by
  unfold sectorR secOf; simp only [turnR]
  repeat' split
  all_goals (first | omega | (simp only [] at *) ) <;> (try omega)
/-! ### Floors, ceilings, distances -/
theorem floorR_is {n d : Int} (h : 0 < d) : (if n < n.tdiv d * d then n.tdiv d - 1 else n.tdiv d) = n / d := by
  rw [← floor_is h]; have h1 := Int.tmod_add_mul_tdiv n d; have e : n.tdiv d * d = d * n.tdiv d := Int.mul_comm _ _; rw [e]
  by_cases q : n.tmod d < 0
  · rw [if_pos q, if_pos (by omega)]
  · rw [if_neg q, if_neg (by omega)]
/-! ### Segments -/
/-! ### Bands -/
end Go.Proofs.Bell

namespace Go.Proofs.YtmafmebcgmegeaaGreatDoor
open Go.RowKit
theorem srcFar_st (x : Int) (w : World) : Calls Tryz.prog 162 #[.int .i64 x] w fun e w' => e = .returned (.int .i64 (withinE x (-100000) 100000)) ∧ w' = w := by
  go_enter Tryz.func162, Tryz.ntmps162
  go_wp2_with fail
  refine (within_any _ _ _ _).mono ?_; rintro e w' ⟨rfl, rfl⟩; go_wp2; go_ret; exact ⟨rfl, rfl⟩
theorem srcHeight_st (x : Int) (w : World) : Calls Tryz.prog 163 #[.int .i64 x] w fun e w' => e = .returned (.int .i64 (withinE x 0 20000)) ∧ w' = w := by
  go_enter Tryz.func163, Tryz.ntmps163
  go_wp2_with fail
  refine (within_any _ _ _ _).mono ?_; rintro e w' ⟨rfl, rfl⟩; go_wp2; go_ret; exact ⟨rfl, rfl⟩
theorem srcPower_st (x : Int) (w : World) : Calls Tryz.prog 88 #[.int .i64 x] w fun e w' => e = .returned (.int .i64 (withinE x 1 100)) ∧ w' = w := by
  go_enter Tryz.func88, Tryz.ntmps88
  go_wp2_with fail
  refine (within_any _ _ _ _).mono ?_; rintro e w' ⟨rfl, rfl⟩; go_wp2; go_ret; exact ⟨rfl, rfl⟩
theorem srcTick_st (x : Int) (w : World) : Calls Tryz.prog 128 #[.int .i64 x] w fun e w' => e = .returned (.int .i64 (withinE x 0 100000000)) ∧ w' = w := by
  go_enter Tryz.func128, Tryz.ntmps128
  go_wp2_with fail
  refine (within_any _ _ _ _).mono ?_; rintro e w' ⟨rfl, rfl⟩; go_wp2; go_ret; exact ⟨rfl, rfl⟩
theorem srcFactor_st (x : Int) (w : World) : Calls Tryz.prog 112 #[.int .i64 x] w fun e w' => e = .returned (.int .i64 (withinE x 0 1000)) ∧ w' = w := by
  go_enter Tryz.func112, Tryz.ntmps112
  go_wp2_with fail
  refine (within_any _ _ _ _).mono ?_; rintro e w' ⟨rfl, rfl⟩; go_wp2; go_ret; exact ⟨rfl, rfl⟩
theorem srcDirect_st (x : Int) (w : World) : Calls Tryz.prog 111 #[.int .i64 x] w fun e w' => e = .returned (.int .i64 (withinE x 0 2000)) ∧ w' = w := by
  go_enter Tryz.func111, Tryz.ntmps111
  go_wp2_with fail
  refine (within_any _ _ _ _).mono ?_; rintro e w' ⟨rfl, rfl⟩; go_wp2; go_ret; exact ⟨rfl, rfl⟩
theorem srcSquare_st (x : Int) (w : World) : Calls Tryz.prog 89 #[.int .i64 x] w fun e w' => e = .returned (.int .i64 (withinE x 0 100000000000)) ∧ w' = w := by
  go_enter Tryz.func89, Tryz.ntmps89
  go_wp2_with fail
  refine (within_any _ _ _ _).mono ?_; rintro e w' ⟨rfl, rfl⟩; go_wp2; go_ret; exact ⟨rfl, rfl⟩
theorem srcEmission_st (x : Int) (w : World) : Calls Tryz.prog 174 #[.int .i64 x] w fun e w' => e = .returned (.int .i64 (withinE x 0 100000000)) ∧ w' = w := by
  go_enter Tryz.func174, Tryz.ntmps174
  go_wp2_with fail
  refine (within_any _ _ _ _).mono ?_; rintro e w' ⟨rfl, rfl⟩; go_wp2; go_ret; exact ⟨rfl, rfl⟩
theorem enters_srcFactor (args : Array Value) (W : World) : (callFunc 112 args).run Tryz.prog W = .ok (.enter 112 args) W := by kernel_rfl
theorem enters_srcDirect (args : Array Value) (W : World) : (callFunc 111 args).run Tryz.prog W = .ok (.enter 111 args) W := by kernel_rfl
theorem enters_srcSquare (args : Array Value) (W : World) : (callFunc 89 args).run Tryz.prog W = .ok (.enter 89 args) W := by kernel_rfl
theorem enters_srcEmission (args : Array Value) (W : World) : (callFunc 174 args).run Tryz.prog W = .ok (.enter 174 args) W := by kernel_rfl
def placeE (x y z : Int) : Int := firstE [withinE x (-100000) 100000, withinE y (-100000) 100000, withinE z 0 20000]
def dirE (x y : Int) : Int := firstE [withinE x (-200000) 200000, withinE y (-200000) 200000]
set_option maxHeartbeats 400000 in
set_option maxRecDepth 100000 in
theorem checkPlace_any (x y z : Int) (w : World) :
    Calls Tryz.prog 94 #[.agg #[.int .i64 x, .int .i64 y, .int .i64 z]] w fun e w' => e = .returned (.int .i64 (placeE x y z)) ∧ Below w.heap.size w w' := by
  go_enter Tryz.func94, Tryz.ntmps94
  go_wp2_with fail
  refine wp_region_still_tail 9 (by kernel_rfl) (by kernel_rfl) ?_; simp only [List.take_succ_cons, List.take_zero, List.drop_succ_cons, List.drop_zero]
  change wpStill _ _ (World.drew _) _ _ _
  repeat still_step
  still_call (srcFar_st _ _)
  repeat still_step
  still_call (srcFar_st _ _)
  repeat still_step
  still_call (srcHeight_st _ _)
  repeat still_step
  refine wpStill_nil ?_
  change wpList _ _ _ _ _ (World.drew _)
  go_wp2_with fail
  refine (first3 _ _ (withinE x (-100000) 100000) (withinE y (-100000) 100000) (withinE z 0 20000) _ (by go_simp) (by go_simp) (by go_simp)).mono ?_; rintro e w1 ⟨rfl, rfl⟩; go_wp2; go_ret; exact ⟨rfl, (((Below.refl _ _).alloc (Nat.le_refl _) _).drew).alloc (by simp) _⟩
set_option maxHeartbeats 400000 in
set_option maxRecDepth 100000 in
theorem checkDirection_any (x y : Int) (w : World) :
    Calls Tryz.prog 91 #[.agg #[.int .i64 x, .int .i64 y]] w fun e w' => e = .returned (.int .i64 (dirE x y)) ∧ Below w.heap.size w w' := by
  go_enter Tryz.func91, Tryz.ntmps91
  go_wp2_with fail
  refine wp_region_still_tail 6 (by kernel_rfl) (by kernel_rfl) ?_; simp only [List.take_succ_cons, List.take_zero, List.drop_succ_cons, List.drop_zero]
  change wpStill _ _ (World.drew _) _ _ _
  repeat still_step
  still_call (within_st _ _ _ _)
  repeat still_step
  still_call (within_st _ _ _ _)
  repeat still_step
  refine wpStill_nil ?_
  change wpList _ _ _ _ _ (World.drew _)
  go_wp2_with fail
  refine (first2 _ _ (withinE x (-200000) 200000) (withinE y (-200000) 200000) _ (by go_simp) (by go_simp)).mono ?_; rintro e w1 ⟨rfl, rfl⟩; go_wp2; go_ret; exact ⟨rfl, (((Below.refl _ _).alloc (Nat.le_refl _) _).drew).alloc (by simp) _⟩
def fixE (t x y z p : Int) : Int := firstE [withinE t 0 100000000, placeE x y z, withinE p 1 100]
/-! Arithmetic. -/
theorem floor_st (n d : Int) (w : World) (h1 : -9000000000000000000 ≤ n) (h2 : n ≤ 9000000000000000000) (h3 : 1 ≤ d) (h4 : d ≤ 1000000000) :
    Calls Tryz.prog 211 #[.int .i64 n, .int .i64 d] w fun e w' => e = .returned (.int .i64 (n / d)) ∧ w' = w := by
  have hf := Bell.floor_is (n := n) (d := d) (by omega); have k1 : (n.tdiv d).natAbs ≤ n.natAbs := by rw [Int.natAbs_tdiv]; exact Nat.div_le_self _ _
  have k2 : (n.tmod d).natAbs < d.natAbs := by rw [Int.natAbs_tmod]; exact Nat.mod_lt _ (by omega)
  have q1 : -9000000000000000000 ≤ n.tdiv d := by omega
  have q2 : n.tdiv d ≤ 9000000000000000000 := by omega
  have q3 : -9000000000000000000 ≤ n.tmod d := by omega
  have q4 : n.tmod d ≤ 9000000000000000000 := by omega
  have HF := Lib.hid hf; clear hf k1 k2
  by_cases hneg : n.tmod d < 0
  · have hs : Hid (n / d = n.tdiv d - 1) := by show _ = _; rw [← HF.out, if_pos hneg]
    go_enter Tryz.func211, Tryz.ntmps211
    go_wp2
    go_ret
    exact ⟨ret_int hs.out.symm, rfl⟩
  · have hs : Hid (n / d = n.tdiv d) := by show _ = _; rw [← HF.out, if_neg hneg]
    go_enter Tryz.func211, Tryz.ntmps211
    go_wp2
    go_ret
    exact ⟨ret_int hs.out.symm, rfl⟩
end Go.Proofs.YtmafmebcgmegeaaGreatDoor
