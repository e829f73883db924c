import Derived.Test.YtnbionhahifacaaDoorIb1
set_option autoImplicit false
set_option relaxedAutoImplicit false
namespace Go.Proofs.Bell

/-! The faults of types and tracks (chapter 2), as functions of their data: what CheckType and CheckTrack answer, and what a type or a track without fault keeps. -/

def inR (n lo hi : Int) : Int := if n < lo ∨ hi < n then 3 else 0

def firstE : List Int → Int
  | [] => 0
  | e :: l => if e = 0 then firstE l else e

theorem firstE_zero {l : List Int} : firstE l = 0 ↔ ∀ e, e ∈ l → e = 0 := by
  induction l with
  | nil => simp [firstE]
  | cons a l ih =>
    simp only [firstE]
    split
    · rename_i h; rw [ih]; simp [h]
    · rename_i h; simp [h]

def eachE (f : Int → Int) (l : List Int) : Int := firstE (l.map f)

theorem eachE_zero {f : Int → Int} {l : List Int} : eachE f l = 0 ↔ ∀ x, x ∈ l → f x = 0 := by
  unfold eachE; rw [firstE_zero]; simp

def cntE (n limit : Nat) : Int := if n = 0 then 12 else if limit < n then 5 else 0

theorem cntE_zero {n k : Nat} : cntE n k = 0 ↔ 0 < n ∧ n ≤ k := by
  unfold cntE
  split
  · simp; omega
  · split
    · simp; omega
    · simp; omega

theorem inR_zero {n lo hi : Int} : inR n lo hi = 0 ↔ lo ≤ n ∧ n ≤ hi := by
  unfold inR
  split
  · simp; omega
  · simp; omega

/-- one error if there is none before it -/
def thenE (a b : Int) : Int := if a = 0 then b else a

theorem thenE_zero {a b : Int} : thenE a b = 0 ↔ a = 0 ∧ b = 0 := by
  unfold thenE; split <;> simp_all

def shE (l : List Int) : Int := thenE (firstE [cntE l.length 8, eachE (fun n => inR n 0 1000) l]) (if l.sum = 1000 then 0 else 1)

/-- is each number above the one before it? -/
def asc : Int → List Int → Bool
  | _, [] => true
  | a, b :: l => decide (a < b) && asc b l

def sqE (l : List Int) : Int := thenE (firstE [cntE l.length 8, eachE (fun n => inR n 0 100000000000) l]) (if l.headD 0 = 0 ∧ asc (l.headD 0) l.tail then 0 else 11)

/-- from the energy `a` on, none is above the one before it, nor below the one of `prev` -/
def ruleOk : Int → List Int → List Int → Bool
  | _, _, [] => true
  | a, prev, b :: l => decide (prev.headD 0 ≤ b) && decide (b ≤ a) && ruleOk b prev.tail l

def setE (m : Nat) (bp : Int) (be : List Int) (s : Int × List Int) : Int :=
  thenE (firstE [inR s.1 1 100, if s.1 ≤ bp then 11 else 0, if s.2.length = m then 0 else 2, eachE (fun n => inR n 0 100000000) s.2]) (if ruleOk (s.2.headD 0) be s.2 then 0 else 21)

def setsE (m : Nat) : Int → List Int → Sets → Int
  | _, _, [] => 0
  | bp, be, s :: l => thenE (setE m bp be s) (setsE m s.1 s.2 l)

def tyE (name : Int) (shares : List Int) (T : Ty) : Int :=
  thenE (firstE [name, shE shares, eachE (fun n => inR n 0 2000) T.direct, inR T.side 0 1000, sqE T.squares, cntE T.sets.length 6])
    (setsE T.squares.length 0 (List.replicate T.squares.length 0) T.sets)

theorem ruleOk_at {a : Int} {prev l : List Int} (h : ruleOk a prev l = true) :
    (∀ i, i < l.length → prev.getD i 0 ≤ l.getD i 0) ∧ (∀ i, i < l.length → l.getD i 0 ≤ a) ∧ (∀ i j, i ≤ j → j < l.length → l.getD j 0 ≤ l.getD i 0) := by
  induction l generalizing a prev with
  | nil => exact ⟨fun i hi => by simp at hi, fun i hi => by simp at hi, fun i j _ hj => by simp at hj⟩
  | cons b l ih =>
    simp only [ruleOk, Bool.and_eq_true, decide_eq_true_eq] at h
    obtain ⟨⟨h1, h2⟩, h3⟩ := h
    obtain ⟨k1, k2, k3⟩ := ih h3
    refine ⟨?_, ?_, ?_⟩
    · intro i hi
      cases i with
      | zero => cases prev <;> simpa using h1
      | succ i =>
        have := k1 i (by simpa using hi)
        cases prev with
        | nil => simpa using this
        | cons p prev => simpa using this
    · intro i hi
      cases i with
      | zero => simpa using h2
      | succ i => have := k2 i (by simpa using hi); simp only [List.getD_cons_succ]; omega
    · intro i j hij hj
      cases j with
      | zero => have : i = 0 := by omega
                subst this; exact Int.le_refl _
      | succ j =>
        cases i with
        | zero => have := k2 j (by simpa using hj); simpa using this
        | succ i => have := k3 i j (by omega) (by simpa using hj); simpa using this

theorem setE_zero {m : Nat} {bp : Int} {be : List Int} {s : Int × List Int} (h : setE m bp be s = 0) :
    (1 ≤ s.1 ∧ s.1 ≤ 100) ∧ bp < s.1 ∧ s.2.length = m ∧ (∀ x, x ∈ s.2 → 0 ≤ x ∧ x ≤ 100000000) ∧ ruleOk (s.2.headD 0) be s.2 = true := by
  unfold setE at h
  rw [thenE_zero, firstE_zero] at h
  obtain ⟨h1, h2⟩ := h
  have a1 := inR_zero.1 (h1 (inR s.1 1 100) (by simp))
  have a2 := h1 (if s.1 ≤ bp then 11 else 0) (by simp)
  have a3 := h1 (if s.2.length = m then 0 else 2) (by simp)
  have a4 := eachE_zero.1 (h1 (eachE (fun n => inR n 0 100000000) s.2) (by simp))
  refine ⟨a1, ?_, ?_, fun x hx => inR_zero.1 (a4 x hx), ?_⟩
  · split at a2 <;> omega
  · split at a3
    · assumption
    · omega
  · split at h2
    · assumption
    · omega

/-- what is known of the settings behind one with the power `bp` and the energies `be` -/
theorem setsE_zero {m : Nat} {bp : Int} {be : List Int} {s : Sets} (h : setsE m bp be s = 0) :
    (∀ i, i < s.length → bp < ePow s i ∧ 1 ≤ ePow s i ∧ ePow s i ≤ 100) ∧
    (∀ i, i < s.length → ((s.getD i (0, [])).2).length = m) ∧
    (∀ i j, i < j → j < s.length → ePow s i < ePow s j) ∧
    (∀ i r, i < s.length → r < m → 0 ≤ eAt s i r ∧ eAt s i r ≤ 100000000) ∧
    (∀ i r, i < s.length → r < m → be.getD r 0 ≤ eAt s i r) ∧
    (∀ i j r, i ≤ j → j < s.length → r < m → eAt s i r ≤ eAt s j r) ∧
    (∀ i r r', i < s.length → r ≤ r' → r' < m → eAt s i r' ≤ eAt s i r) := by
  induction s generalizing bp be with
  | nil => refine ⟨?_, ?_, ?_, ?_, ?_, ?_, ?_⟩ <;> intros <;> rename_i h <;> simp at * 
  | cons a s ih =>
    simp only [setsE] at h
    rw [thenE_zero] at h
    obtain ⟨b1, b2, b3, b4, b5⟩ := setE_zero h.1
    obtain ⟨c1, c2, c3, c4, c5, c6, c7⟩ := ih h.2
    obtain ⟨d1, d2, d3⟩ := ruleOk_at b5
    have e0 : ∀ r, eAt (a :: s) 0 r = a.2.getD r 0 := fun r => rfl
    have e1 : ∀ i r, eAt (a :: s) (i + 1) r = eAt s i r := fun i r => by simp [eAt]
    have p0 : ePow (a :: s) 0 = a.1 := rfl
    have p1 : ∀ i, ePow (a :: s) (i + 1) = ePow s i := fun i => by simp [ePow]
    have hmem : ∀ r, r < m → a.2.getD r 0 ∈ a.2 := fun r hr => getD_mem (by omega)
    refine ⟨?_, ?_, ?_, ?_, ?_, ?_, ?_⟩
    · intro i hi
      cases i with
      | zero => rw [p0]; omega
      | succ i => rw [p1]; have := c1 i (by simpa using hi); omega
    · intro i hi
      cases i with
      | zero => simpa using b3
      | succ i => simpa using c2 i (by simpa using hi)
    · intro i j hij hj
      cases j with
      | zero => omega
      | succ j =>
        have hj' : j < s.length := by simpa using hj
        cases i with
        | zero => rw [p0, p1]; exact (c1 j hj').1
        | succ i => rw [p1, p1]; exact c3 i j (by omega) hj'
    · intro i r hi hr
      cases i with
      | zero => rw [e0]; exact b4 _ (hmem r hr)
      | succ i => rw [e1]; exact c4 i r (by simpa using hi) hr
    · intro i r hi hr
      cases i with
      | zero => rw [e0]; exact d1 r (by omega)
      | succ i => rw [e1]; have := c5 i r (by simpa using hi) hr; have := d1 r (by omega); omega
    · intro i j r hij hj hr
      cases j with
      | zero => have : i = 0 := by omega
                subst this; exact Int.le_refl _
      | succ j =>
        have hj' : j < s.length := by simpa using hj
        cases i with
        | zero => rw [e0, e1]; exact c5 j r hj' hr
        | succ i => rw [e1, e1]; exact c6 i j r (by omega) hj' hr
    · intro i r r' hi hrr hr
      cases i with
      | zero => rw [e0, e0]; exact d3 r r' hrr (by omega)
      | succ i => rw [e1, e1]; exact c7 i r r' (by simpa using hi) hrr hr

theorem good_of {name : Int} {shares : List Int} {T : Ty} (hl : T.direct.length = 8) (h : tyE name shares T = 0) : GoodTy T := by
  unfold tyE at h
  rw [thenE_zero, firstE_zero] at h
  obtain ⟨h1, h2⟩ := h
  have a1 := eachE_zero.1 (h1 (eachE (fun n => inR n 0 2000) T.direct) (by simp))
  have a2 := inR_zero.1 (h1 (inR T.side 0 1000) (by simp))
  have a3 := h1 (sqE T.squares) (by simp)
  have a4 := cntE_zero.1 (h1 (cntE T.sets.length 6) (by simp))
  unfold sqE at a3
  rw [thenE_zero, firstE_zero] at a3
  have a5 := cntE_zero.1 (a3.1 (cntE T.squares.length 8) (by simp))
  obtain ⟨c1, c2, c3, c4, c5, c6, c7⟩ := setsE_zero h2
  exact { dir := fun i hi => inR_zero.1 (a1 _ (getD_mem (by omega)))
          dlen := hl
          side0 := a2.1
          side1 := a2.2
          sq := a5.1
          sets := { some := a4.1, up := c3, ord := c6, down := c7, lo := fun i r hi hr => (c4 i r hi hr).1, hi := fun i r hi hr => (c4 i r hi hr).2 } }

/-! ### Tracks -/

def plE (x y z : Int) : Int := firstE [inR x (-100000) 100000, inR y (-100000) 100000, inR z 0 20000]

def fxE (a : Fx) : Int := firstE [inR a.t 0 100000000, plE a.x a.y a.z, inR a.p 1 100]

/-- the faults of the points behind one at the tick `b` -/
def ptsE : Int → List Fx → Int
  | _, [] => 0
  | b, a :: l => thenE (firstE [fxE a, if a.t ≤ b then 11 else 0]) (ptsE a.t l)

def trE (l : List Fx) : Int :=
  thenE (firstE [if l.length < 2 then 16 else 0, if 16 < l.length then 5 else 0])
    (thenE (ptsE (-1) l) (if 1000 < (fxAt l (l.length - 1)).t - (fxAt l 0).t then 14 else 0))

theorem fxE_zero {a : Fx} (h : fxE a = 0) : GoodFx a := by
  unfold fxE at h
  rw [firstE_zero] at h
  have h1 := inR_zero.1 (h _ (by simp) : inR a.t 0 100000000 = 0)
  have h2 := h (plE a.x a.y a.z) (by simp)
  have h3 := inR_zero.1 (h (inR a.p 1 100) (by simp))
  unfold plE at h2
  rw [firstE_zero] at h2
  have k1 := inR_zero.1 (h2 (inR a.x (-100000) 100000) (by simp))
  have k2 := inR_zero.1 (h2 (inR a.y (-100000) 100000) (by simp))
  have k3 := inR_zero.1 (h2 (inR a.z 0 20000) (by simp))
  exact ⟨h1.1, h1.2, k1.1, k1.2, k2.1, k2.2, k3.1, k3.2, h3.1, h3.2⟩

theorem ptsE_zero {b : Int} {l : List Fx} (h : ptsE b l = 0) :
    (∀ i, i < l.length → GoodFx (fxAt l i) ∧ b < (fxAt l i).t) ∧ Ticks l := by
  induction l generalizing b with
  | nil => exact ⟨fun i hi => by simp at hi, fun i j _ hj => by simp at hj⟩
  | cons a l ih =>
    simp only [ptsE] at h
    rw [thenE_zero, firstE_zero] at h
    obtain ⟨c1, c2⟩ := ih h.2
    have g := fxE_zero (h.1 (fxE a) (by simp))
    have o := h.1 (if a.t ≤ b then 11 else 0) (by simp)
    have o' : b < a.t := by split at o <;> omega
    have e0 : fxAt (a :: l) 0 = a := rfl
    have e1 : ∀ i, fxAt (a :: l) (i + 1) = fxAt l i := fun i => by simp [fxAt]
    refine ⟨?_, ?_⟩
    · intro i hi
      cases i with
      | zero => rw [e0]; exact ⟨g, o'⟩
      | succ i => rw [e1]; have := c1 i (by simpa using hi); exact ⟨this.1, by omega⟩
    · intro i j hij hj
      cases j with
      | zero => omega
      | succ j =>
        have hj' : j < l.length := by simpa using hj
        cases i with
        | zero => rw [e0, e1]; exact (c1 j hj').2
        | succ i => rw [e1, e1]; exact c2 i j (by omega) hj'

structure GoodTr (l : List Fx) : Prop where
  lo : 2 ≤ l.length
  hi : l.length ≤ 16
  up : Ticks l
  pts : ∀ i, i < l.length → GoodFx (fxAt l i)
  last : (fxAt l (l.length - 1)).t - (fxAt l 0).t ≤ 1000

theorem track_of {l : List Fx} (h : trE l = 0) : GoodTr l := by
  unfold trE at h
  rw [thenE_zero, thenE_zero, firstE_zero] at h
  obtain ⟨h1, h2, h3⟩ := h
  have a1 := h1 (if l.length < 2 then 16 else 0) (by simp)
  have a2 := h1 (if 16 < l.length then 5 else 0) (by simp)
  obtain ⟨c1, c2⟩ := ptsE_zero h2
  refine ⟨?_, ?_, c2, fun i hi => (c1 i hi).1, ?_⟩
  · split at a1 <;> omega
  · split at a2 <;> omega
  · split at h3 <;> omega

end Go.Proofs.Bell
