/- Texts Ib1 Ib2 Ib3 Ib4 Ib5 of the proof. -/
import Derived.Test.YtmafmebcgmegeaaGreatDoorRows
set_option autoImplicit false
set_option relaxedAutoImplicit false
namespace Go.Proofs.Bell
/-! The plain mathematics of what is heard from a track (chapter 2): numbers between two others, emissions of settings, boxes, sums over ticks, and enclosures. No program is looked at. -/
/-- the number that lies part `p` of `w` from `a` towards `b`, rounded downwards -/
def betw (a b p w : Int) : Int := a + (b - a) * p / w
theorem floor_is {n d : Int} (h : 0 < d) : (if n.tmod d < 0 then n.tdiv d - 1 else n.tdiv d) = n / d := by
  have h1 := Int.tmod_add_mul_tdiv n d
  have h2 := Int.tmod_lt_of_pos n h
  have h3 := Int.lt_tmod_of_pos n h
  split
  · rename_i hn
    symm
    rw [Int.ediv_eq_iff_of_pos h]
    constructor <;> grind
  · rename_i hn
    symm
    rw [Int.ediv_eq_iff_of_pos h]
    constructor <;> grind
theorem betw_eq {a b p w : Int} (h : 0 < w) : betw a b p w = (a * w + (b - a) * p) / w := by
  unfold betw
  rw [Int.add_comm (a * w), Int.add_mul_ediv_right _ _ (by omega)]
  omega
theorem betw_mono {a b a' b' p w : Int} (h : 0 < w) (hp : 0 ≤ p) (hq : p ≤ w) (ha : a ≤ a') (hb : b ≤ b') : betw a b p w ≤ betw a' b' p w := by
  rw [betw_eq h, betw_eq h]
  apply Int.ediv_le_ediv h
  have h1 : 0 ≤ (a' - a) * (w - p) := Int.mul_nonneg (by omega) (by omega)
  have h2 : 0 ≤ (b' - b) * p := Int.mul_nonneg (by omega) (by omega)
  grind
theorem betw_same {a p w : Int} : betw a a p w = a := by
  unfold betw; simp
theorem betw_bounds {a b p w lo hi : Int} (h : 0 < w) (hp : 0 ≤ p) (hq : p ≤ w) (ha : lo ≤ a) (hb : lo ≤ b) (ha' : a ≤ hi) (hb' : b ≤ hi) : lo ≤ betw a b p w ∧ betw a b p w ≤ hi := by
  constructor
  · have := betw_mono h hp hq ha hb; rwa [betw_same] at this
  · have := betw_mono h hp hq ha' hb'; rwa [betw_same] at this
/-! ### Emissions -/
abbrev Sets := List (Int × List Int)
def ePow (s : Sets) (k : Nat) : Int := (s.getD k (0, [])).1
def eAt (s : Sets) (k r : Nat) : Int := ((s.getD k (0, [])).2).getD r 0
def nextOf (s : Sets) (power : Int) : Nat := s.findIdx (fun x => decide (power ≤ x.1))
def reachOf (l : List Int) (sq : Int) : Nat := l.findIdx (fun x => decide (sq < x)) - 1
def emis (s : Sets) (r : Nat) (power : Int) : Int :=
  if nextOf s power = s.length then eAt s (s.length - 1) r
  else if nextOf s power = 0 then eAt s 0 r
  else betw (eAt s (nextOf s power - 1) r) (eAt s (nextOf s power) r) (power - ePow s (nextOf s power - 1)) (ePow s (nextOf s power) - ePow s (nextOf s power - 1))
/-- settings without a fault, for `m` squares -/
structure GoodSets (s : Sets) (m : Nat) : Prop where
  some : 0 < s.length
  up : ∀ i j, i < j → j < s.length → ePow s i < ePow s j
  ord : ∀ i j r, i ≤ j → j < s.length → r < m → eAt s i r ≤ eAt s j r
  down : ∀ i r r', i < s.length → r ≤ r' → r' < m → eAt s i r' ≤ eAt s i r
  lo : ∀ i r, i < s.length → r < m → 0 ≤ eAt s i r
  hi : ∀ i r, i < s.length → r < m → eAt s i r ≤ 100000000
theorem next_le (s : Sets) (p : Int) : nextOf s p ≤ s.length := List.findIdx_le_length
theorem next_at {s : Sets} {p : Int} (h : nextOf s p < s.length) : p ≤ ePow s (nextOf s p) := by
  have := List.findIdx_getElem (p := fun x : Int × List Int => decide (p ≤ x.1)) (xs := s) (w := h)
  unfold ePow
  rw [List.getD_eq_getElem?_getD, List.getElem?_eq_getElem h]
  exact of_decide_eq_true this
theorem next_before {s : Sets} {p : Int} {i : Nat} (h : i < nextOf s p) : ePow s i < p := by
  have hl : i < s.length := Nat.lt_of_lt_of_le h (next_le s p)
  have := List.not_of_lt_findIdx (p := fun x : Int × List Int => decide (p ≤ x.1)) (xs := s) h
  unfold ePow
  rw [List.getD_eq_getElem?_getD, List.getElem?_eq_getElem hl]
  simpa using this
theorem reach_lt {l : List Int} {q : Int} (h : 0 < l.length) : reachOf l q < l.length := by
  unfold reachOf
  have := List.findIdx_le_length (xs := l) (p := fun x => decide (q < x))
  omega
variable {s : Sets} {m : Nat}
theorem emis_bounds (g : GoodSets s m) {r : Nat} (p : Int) {lo hi : Int} (hlo : ∀ i, i < s.length → lo ≤ eAt s i r) (hhi : ∀ i, i < s.length → eAt s i r ≤ hi) : lo ≤ emis s r p ∧ emis s r p ≤ hi := by
  have hn := next_le s p
  have h0 := g.some
  unfold emis
  split
  · exact ⟨hlo _ (by omega), hhi _ (by omega)⟩
  · split
    · exact ⟨hlo _ (by omega), hhi _ (by omega)⟩
    · rename_i h1 h2
      have h3 : nextOf s p < s.length := by omega
      have h4 := next_at h3
      have h5 := next_before (s := s) (p := p) (i := nextOf s p - 1) (by omega)
      exact betw_bounds (by omega) (by omega) (by omega) (hlo _ (by omega)) (hlo _ h3) (hhi _ (by omega)) (hhi _ h3)
theorem emis_range (g : GoodSets s m) {r : Nat} (hr : r < m) (p : Int) : 0 ≤ emis s r p ∧ emis s r p ≤ 100000000 :=
  emis_bounds g p (fun i h => g.lo i r h hr) (fun i h => g.hi i r h hr)
/-! ### Boxes -/
def nearOf (lo hi : Int) : Int := max (max lo (-hi)) 0
def farOf (lo hi : Int) : Int := max (-lo) hi
/-! ### Sums over ticks -/
def sumF (f : Int → Int) (a : Int) : Nat → Int
  | 0 => 0
  | n + 1 => sumF f a n + f (a + n)
theorem sumF_list (f : Int → Int) (a : Int) (n : Nat) : ((List.range n).map (fun i : Nat => f (a + i))).sum = sumF f a n := by
  induction n with
  | zero => rfl
  | succ n ih => rw [List.range_succ, List.map_append, List.sum_append, ih]; simp [sumF]
/-! ### Tracks and states -/
structure Fx where
  t : Int
  x : Int
  y : Int
  z : Int
  p : Int
structure St where
  x : Int
  y : Int
  z : Int
  hx : Int
  hy : Int
  p : Int
def fxAt (l : List Fx) (i : Nat) : Fx := l.getD i ⟨0, 0, 0, 0, 0⟩
def segIx (l : List Fx) (k : Int) : Nat := l.findIdx (fun p => decide (k < p.t)) - 1
def stOf (a b : Fx) (k : Int) : St :=
  ⟨betw a.x b.x (k - a.t) (b.t - a.t), betw a.y b.y (k - a.t) (b.t - a.t), betw a.z b.z (k - a.t) (b.t - a.t), b.x - a.x, b.y - a.y, betw a.p b.p (k - a.t) (b.t - a.t)⟩
def stAt (l : List Fx) (k : Int) : St := stOf (fxAt l (segIx l k)) (fxAt l (segIx l k + 1)) k
structure GoodFx (a : Fx) : Prop where
  t0 : 0 ≤ a.t
  t1 : a.t ≤ 100000000
  x0 : -100000 ≤ a.x
  x1 : a.x ≤ 100000
  y0 : -100000 ≤ a.y
  y1 : a.y ≤ 100000
  z0 : 0 ≤ a.z
  z1 : a.z ≤ 20000
  p0 : 1 ≤ a.p
  p1 : a.p ≤ 100
/-- ticks that ascend from point to point -/
def Ticks (l : List Fx) : Prop := ∀ i j, i < j → j < l.length → (fxAt l i).t < (fxAt l j).t
theorem part_ok {a b : Fx} {k : Int} (h1 : a.t ≤ k) (h2 : k < b.t) : 0 < b.t - a.t ∧ 0 ≤ k - a.t ∧ k - a.t ≤ b.t - a.t := by omega
/-! ### What is heard -/
structure Ty where
  direct : List Int
  side : Int
  squares : List Int
  sets : Sets
structure GoodTy (T : Ty) : Prop where
  dir : ∀ i, i < 8 → 0 ≤ T.direct.getD i 0 ∧ T.direct.getD i 0 ≤ 2000
  dlen : T.direct.length = 8
  side0 : 0 ≤ T.side
  side1 : T.side ≤ 1000
  sq : 0 < T.squares.length
  sets : GoodSets T.sets T.squares.length
def sectorOf (hx hy x y : Int) : Nat :=
  let u := hx * x + hy * y
  let v := hx * y - hy * x
  if (u > v ∧ v ≥ 0) ∨ (u = 0 ∧ v = 0) then 0
  else if v ≥ u ∧ u > 0 then 1
  else if v > -u ∧ -u ≥ 0 then 2
  else if -u ≥ v ∧ v > 0 then 3
  else if -u > -v ∧ -v ≥ 0 then 4
  else if -v ≥ -u ∧ -u > 0 then 5
  else if -v > u ∧ u ≥ 0 then 6
  else 7
theorem sector_lt (hx hy x y : Int) : sectorOf hx hy x y < 8 := by
  unfold sectorOf
  simp only
  repeat' split
  all_goals omega
structure Pl where
  x : Int
  y : Int
  z : Int
def sqOf (x y z : Int) : Int := x * x + y * y + z * z
def energyOf (T : Ty) (s : St) (r : Pl) : Int :=
  emis T.sets (reachOf T.squares (sqOf (r.x - s.x) (r.y - s.y) (r.z - s.z))) s.p * T.direct.getD (sectorOf s.hx s.hy (r.x - s.x) (r.y - s.y)) 0
def steepOf (s : St) (r : Pl) : Prop := (r.x - s.x) * (r.x - s.x) + (r.y - s.y) * (r.y - s.y) ≤ 4 * (r.z - s.z) * (r.z - s.z)
instance (s : St) (r : Pl) : Decidable (steepOf s r) := inferInstanceAs (Decidable (_ ≤ _))
def heardOf (T : Ty) (s : St) (r : Pl) : Int :=
  if steepOf s r then energyOf T s r / 1000 else energyOf T s r * T.side / 1000000
variable {T : Ty}
theorem heard_between (g : GoodTy T) {s : St} {r : Pl} {E D F G : Int}
    (h1 : E ≤ emis T.sets (reachOf T.squares (sqOf (r.x - s.x) (r.y - s.y) (r.z - s.z))) s.p)
    (h2 : emis T.sets (reachOf T.squares (sqOf (r.x - s.x) (r.y - s.y) (r.z - s.z))) s.p ≤ F)
    (hE : 0 ≤ E) (hD : 0 ≤ D)
    (h3 : ∀ i, i < 8 → D ≤ T.direct.getD i 0) (h4 : ∀ i, i < 8 → T.direct.getD i 0 ≤ G) :
    E * D * T.side / 1000000 ≤ heardOf T s r ∧ heardOf T s r * 1000 ≤ F * G := by
  have k3 := h3 _ (sector_lt s.hx s.hy (r.x - s.x) (r.y - s.y))
  have k4 := h4 _ (sector_lt s.hx s.hy (r.x - s.x) (r.y - s.y))
  have hl : E * D ≤ energyOf T s r := Int.mul_le_mul h1 k3 hD (by omega)
  have hh : energyOf T s r ≤ F * G := Int.mul_le_mul h2 k4 (by omega) (by omega)
  have h0 : 0 ≤ E * D := Int.mul_nonneg hE hD
  have s0 := g.side0
  have s1 := g.side1
  unfold heardOf
  split
  · constructor
    · have a1 : E * D * T.side ≤ energyOf T s r * 1000 := Int.mul_le_mul hl s1 s0 (by omega)
      have a2 := Int.ediv_le_ediv (c := 1000000) (by decide) a1
      omega
    · omega
  · constructor
    · exact Int.ediv_le_ediv (by decide) (Int.mul_le_mul_of_nonneg_right hl s0)
    · have a1 : energyOf T s r * T.side ≤ energyOf T s r * 1000 := Int.mul_le_mul_of_nonneg_left s1 (by omega)
      omega
theorem heard_range (g : GoodTy T) (s : St) (r : Pl) : 0 ≤ heardOf T s r ∧ heardOf T s r ≤ 200000000 := by
  have e := emis_range g.sets (reach_lt (q := sqOf (r.x - s.x) (r.y - s.y) (r.z - s.z)) g.sq) s.p
  have := heard_between g (s := s) (r := r) (E := 0) (D := 0) (F := 100000000) (G := 2000) e.1 e.2 (by omega) (by omega) (fun i h => (g.dir i h).1) (fun i h => (g.dir i h).2)
  omega
/-! ### Enclosures -/
def dLow (l : List Int) : Int := l.foldl min (l.headD 0)
def dHigh (l : List Int) : Int := l.foldl max (l.headD 0)
theorem foldl_min_le (l : List Int) (a : Int) : l.foldl min a ≤ a ∧ ∀ x, x ∈ l → l.foldl min a ≤ x := by
  induction l generalizing a with
  | nil => simp
  | cons b l ih =>
    have := ih (min a b)
    refine ⟨by simp only [List.foldl_cons]; omega, ?_⟩
    intro x hx
    simp only [List.foldl_cons]
    rcases List.mem_cons.1 hx with e | e
    · subst e; omega
    · exact this.2 x e
theorem le_foldl_max (l : List Int) (a : Int) : a ≤ l.foldl max a ∧ ∀ x, x ∈ l → x ≤ l.foldl max a := by
  induction l generalizing a with
  | nil => simp
  | cons b l ih =>
    have := ih (max a b)
    refine ⟨by simp only [List.foldl_cons]; omega, ?_⟩
    intro x hx
    simp only [List.foldl_cons]
    rcases List.mem_cons.1 hx with e | e
    · subst e; omega
    · exact this.2 x e
theorem foldl_min_ge {l : List Int} {a c : Int} (ha : c ≤ a) (h : ∀ x, x ∈ l → c ≤ x) : c ≤ l.foldl min a := by
  induction l generalizing a with
  | nil => exact ha
  | cons b l ih =>
    simp only [List.foldl_cons]
    have := h b (by simp)
    exact ih (by omega) (fun x hx => h x (by simp [hx]))
theorem getD_mem {l : List Int} {i : Nat} (h : i < l.length) : l.getD i 0 ∈ l := by
  rw [List.getD_eq_getElem?_getD, List.getElem?_eq_getElem h]; simp
def sqNear (a b : Fx) (r : Pl) : Int :=
  nearOf (min (a.x - r.x) (b.x - r.x)) (max (a.x - r.x) (b.x - r.x)) * nearOf (min (a.x - r.x) (b.x - r.x)) (max (a.x - r.x) (b.x - r.x)) + nearOf (min (a.y - r.y) (b.y - r.y)) (max (a.y - r.y) (b.y - r.y)) * nearOf (min (a.y - r.y) (b.y - r.y)) (max (a.y - r.y) (b.y - r.y)) + nearOf (min (a.z - r.z) (b.z - r.z)) (max (a.z - r.z) (b.z - r.z)) * nearOf (min (a.z - r.z) (b.z - r.z)) (max (a.z - r.z) (b.z - r.z))
def sqFar (a b : Fx) (r : Pl) : Int :=
  farOf (min (a.x - r.x) (b.x - r.x)) (max (a.x - r.x) (b.x - r.x)) * farOf (min (a.x - r.x) (b.x - r.x)) (max (a.x - r.x) (b.x - r.x)) + farOf (min (a.y - r.y) (b.y - r.y)) (max (a.y - r.y) (b.y - r.y)) * farOf (min (a.y - r.y) (b.y - r.y)) (max (a.y - r.y) (b.y - r.y)) + farOf (min (a.z - r.z) (b.z - r.z)) (max (a.z - r.z) (b.z - r.z)) * farOf (min (a.z - r.z) (b.z - r.z)) (max (a.z - r.z) (b.z - r.z))
def leastOf (T : Ty) (a b : Fx) (r : Pl) : Int := emis T.sets (reachOf T.squares (sqFar a b r)) (min a.p b.p) * dLow T.direct * T.side / 1000000
def mostOf (T : Ty) (a b : Fx) (r : Pl) : Int := emis T.sets (reachOf T.squares (sqNear a b r)) (max a.p b.p) * dHigh T.direct
def lowOf (T : Ty) (a b : Fx) (r : Pl) : Int := (b.t - a.t) * leastOf T a b r
def highOf (T : Ty) (a b : Fx) (r : Pl) : Int := ((b.t - a.t) * mostOf T a b r + 1000 - 1) / 1000
/-- what the segments up to the point `n` sum up to -/
def encLow (T : Ty) (l : List Fx) (r : Pl) : Nat → Int
  | 0 => 0
  | n + 1 => encLow T l r n + lowOf T (fxAt l n) (fxAt l (n + 1)) r
def encHigh (T : Ty) (l : List Fx) (r : Pl) : Nat → Int
  | 0 => 0
  | n + 1 => encHigh T l r n + highOf T (fxAt l n) (fxAt l (n + 1)) r
def heardAt (T : Ty) (l : List Fx) (r : Pl) (k : Int) : Int := heardOf T (stAt l k) r
/-! ### The maximum -/
/-- the greatest of `f a .. f (a + n - 1)` and the first place where it is, the way the program looks for it -/
def maxF (f : Int → Int) (a : Int) : Nat → Int × Int
  | 0 => (-1, 0)
  | n + 1 => if (maxF f a n).1 < f (a + n) then (f (a + n), a + n) else maxF f a n
theorem maxF_spec (f : Int → Int) (a : Int) (n : Nat) (h : ∀ i : Nat, i < n → 0 ≤ f (a + i)) :
    (∀ i : Nat, i < n → f (a + i) ≤ (maxF f a n).1) ∧ (0 < n → 0 ≤ (maxF f a n).1 ∧ ∃ i : Nat, i < n ∧ (maxF f a n).2 = a + i ∧ f (a + i) = (maxF f a n).1 ∧ ∀ j : Nat, j < i → f (a + j) < f (a + i)) := by
  induction n with
  | zero => exact ⟨fun i hi => by omega, fun hn => by omega⟩
  | succ n ih =>
    have ih := ih (fun i hi => h i (by omega))
    have hn := h n (by omega)
    simp only [maxF]
    split
    · rename_i hlt
      refine ⟨?_, fun _ => ⟨hn, n, by omega, rfl, rfl, ?_⟩⟩
      · intro i hi
        rcases Nat.lt_or_ge i n with hq | hq
        · have := ih.1 i hq; simp only; omega
        · have : i = n := by omega
          subst this; exact Int.le_refl _
      · intro j hj
        have := ih.1 j hj; omega
    · rename_i hlt
      refine ⟨?_, ?_⟩
      · intro i hi
        rcases Nat.lt_or_ge i n with hq | hq
        · exact ih.1 i hq
        · have : i = n := by omega
          subst this; omega
      · intro _
        rcases Nat.eq_zero_or_pos n with e | e
        · subst e; simp [maxF] at hlt; simp at hn; omega
        · obtain ⟨k1, i, k2, k3, k4, k5⟩ := ih.2 e
          exact ⟨k1, i, by omega, k3, k4, k5⟩
end Go.Proofs.Bell

set_option autoImplicit false
set_option relaxedAutoImplicit false
namespace Go.Proofs.Bell
/-! The faults of types and tracks (chapter 2), as functions of their data: what CheckType and CheckTrack answer, and what a type or a track without fault keeps. -/
def inR (n lo hi : Int) : Int := if n < lo ∨ hi < n then 3 else 0
def firstE : List Int → Int
  | [] => 0
  | e :: l => if e = 0 then firstE l else e
theorem firstE_zero {l : List Int} : firstE l = 0 ↔ ∀ e, e ∈ l → e = 0 := by
  induction l with
  | nil => simp [firstE]
  | cons a l ih =>
    simp only [firstE]
    split
    · rename_i h; rw [ih]; simp [h]
    · rename_i h; simp [h]
def eachE (f : Int → Int) (l : List Int) : Int := firstE (l.map f)
theorem eachE_zero {f : Int → Int} {l : List Int} : eachE f l = 0 ↔ ∀ x, x ∈ l → f x = 0 := by
  unfold eachE; rw [firstE_zero]; simp
def cntE (n limit : Nat) : Int := if n = 0 then 12 else if limit < n then 5 else 0
theorem cntE_zero {n k : Nat} : cntE n k = 0 ↔ 0 < n ∧ n ≤ k := by
  unfold cntE
  split
  · simp; omega
  · split
    · simp; omega
    · simp; omega
theorem inR_zero {n lo hi : Int} : inR n lo hi = 0 ↔ lo ≤ n ∧ n ≤ hi := by
  unfold inR
  split
  · simp; omega
  · simp; omega
/-- one error if there is none before it -/
def thenE (a b : Int) : Int := if a = 0 then b else a
theorem thenE_zero {a b : Int} : thenE a b = 0 ↔ a = 0 ∧ b = 0 := by
  unfold thenE; split <;> simp_all
def shE (l : List Int) : Int := thenE (firstE [cntE l.length 8, eachE (fun n => inR n 0 1000) l]) (if l.sum = 1000 then 0 else 1)
/-- is each number above the one before it? -/
def asc : Int → List Int → Bool
  | _, [] => true
  | a, b :: l => decide (a < b) && asc b l
def sqE (l : List Int) : Int := thenE (firstE [cntE l.length 8, eachE (fun n => inR n 0 100000000000) l]) (if l.headD 0 = 0 ∧ asc (l.headD 0) l.tail then 0 else 11)
/-- from the energy `a` on, none is above the one before it, nor below the one of `prev` -/
def ruleOk : Int → List Int → List Int → Bool
  | _, _, [] => true
  | a, prev, b :: l => decide (prev.headD 0 ≤ b) && decide (b ≤ a) && ruleOk b prev.tail l
def setE (m : Nat) (bp : Int) (be : List Int) (s : Int × List Int) : Int :=
  thenE (firstE [inR s.1 1 100, if s.1 ≤ bp then 11 else 0, if s.2.length = m then 0 else 2, eachE (fun n => inR n 0 100000000) s.2]) (if ruleOk (s.2.headD 0) be s.2 then 0 else 21)
def setsE (m : Nat) : Int → List Int → Sets → Int
  | _, _, [] => 0
  | bp, be, s :: l => thenE (setE m bp be s) (setsE m s.1 s.2 l)
def tyE (name : Int) (shares : List Int) (T : Ty) : Int :=
  thenE (firstE [name, shE shares, eachE (fun n => inR n 0 2000) T.direct, inR T.side 0 1000, sqE T.squares, cntE T.sets.length 6])
    (setsE T.squares.length 0 (List.replicate T.squares.length 0) T.sets)
theorem ruleOk_at {a : Int} {prev l : List Int} (h : ruleOk a prev l = true) :
    (∀ i, i < l.length → prev.getD i 0 ≤ l.getD i 0) ∧ (∀ i, i < l.length → l.getD i 0 ≤ a) ∧ (∀ i j, i ≤ j → j < l.length → l.getD j 0 ≤ l.getD i 0) := by
  induction l generalizing a prev with
  | nil => exact ⟨fun i hi => by simp at hi, fun i hi => by simp at hi, fun i j _ hj => by simp at hj⟩
  | cons b l ih =>
    simp only [ruleOk, Bool.and_eq_true, decide_eq_true_eq] at h
    obtain ⟨⟨h1, h2⟩, h3⟩ := h
    obtain ⟨k1, k2, k3⟩ := ih h3
    refine ⟨?_, ?_, ?_⟩
    · intro i hi
      cases i with
      | zero => cases prev <;> simpa using h1
      | succ i =>
        have := k1 i (by simpa using hi)
        cases prev with
        | nil => simpa using this
        | cons p prev => simpa using this
    · intro i hi
      cases i with
      | zero => simpa using h2
      | succ i => have := k2 i (by simpa using hi); simp only [List.getD_cons_succ]; omega
    · intro i j hij hj
      cases j with
      | zero => have : i = 0 := by omega
                subst this; exact Int.le_refl _
      | succ j =>
        cases i with
        | zero => have := k2 j (by simpa using hj); simpa using this
        | succ i => have := k3 i j (by omega) (by simpa using hj); simpa using this
theorem setE_zero {m : Nat} {bp : Int} {be : List Int} {s : Int × List Int} (h : setE m bp be s = 0) :
    (1 ≤ s.1 ∧ s.1 ≤ 100) ∧ bp < s.1 ∧ s.2.length = m ∧ (∀ x, x ∈ s.2 → 0 ≤ x ∧ x ≤ 100000000) ∧ ruleOk (s.2.headD 0) be s.2 = true := by
  unfold setE at h
  rw [thenE_zero, firstE_zero] at h
  obtain ⟨h1, h2⟩ := h
  have a1 := inR_zero.1 (h1 (inR s.1 1 100) (by simp))
  have a2 := h1 (if s.1 ≤ bp then 11 else 0) (by simp)
  have a3 := h1 (if s.2.length = m then 0 else 2) (by simp)
  have a4 := eachE_zero.1 (h1 (eachE (fun n => inR n 0 100000000) s.2) (by simp))
  refine ⟨a1, ?_, ?_, fun x hx => inR_zero.1 (a4 x hx), ?_⟩
  · split at a2 <;> omega
  · split at a3
    · assumption
    · omega
  · split at h2
    · assumption
    · omega
/-- what is known of the settings behind one with the power `bp` and the energies `be` -/
theorem setsE_zero {m : Nat} {bp : Int} {be : List Int} {s : Sets} (h : setsE m bp be s = 0) :
    (∀ i, i < s.length → bp < ePow s i ∧ 1 ≤ ePow s i ∧ ePow s i ≤ 100) ∧
    (∀ i, i < s.length → ((s.getD i (0, [])).2).length = m) ∧
    (∀ i j, i < j → j < s.length → ePow s i < ePow s j) ∧
    (∀ i r, i < s.length → r < m → 0 ≤ eAt s i r ∧ eAt s i r ≤ 100000000) ∧
    (∀ i r, i < s.length → r < m → be.getD r 0 ≤ eAt s i r) ∧
    (∀ i j r, i ≤ j → j < s.length → r < m → eAt s i r ≤ eAt s j r) ∧
    (∀ i r r', i < s.length → r ≤ r' → r' < m → eAt s i r' ≤ eAt s i r) := by
  induction s generalizing bp be with
  | nil => refine ⟨?_, ?_, ?_, ?_, ?_, ?_, ?_⟩ <;> intros <;> rename_i h <;> simp at * 
  | cons a s ih =>
    simp only [setsE] at h
    rw [thenE_zero] at h
    obtain ⟨b1, b2, b3, b4, b5⟩ := setE_zero h.1
    obtain ⟨c1, c2, c3, c4, c5, c6, c7⟩ := ih h.2
    obtain ⟨d1, d2, d3⟩ := ruleOk_at b5
    have e0 : ∀ r, eAt (a :: s) 0 r = a.2.getD r 0 := fun r => rfl
    have e1 : ∀ i r, eAt (a :: s) (i + 1) r = eAt s i r := fun i r => by simp [eAt]
    have p0 : ePow (a :: s) 0 = a.1 := rfl
    have p1 : ∀ i, ePow (a :: s) (i + 1) = ePow s i := fun i => by simp [ePow]
    have hmem : ∀ r, r < m → a.2.getD r 0 ∈ a.2 := fun r hr => getD_mem (by omega)
    refine ⟨?_, ?_, ?_, ?_, ?_, ?_, ?_⟩
    · intro i hi
      cases i with
      | zero => rw [p0]; omega
      | succ i => rw [p1]; have := c1 i (by simpa using hi); omega
    · intro i hi
      cases i with
      | zero => simpa using b3
      | succ i => simpa using c2 i (by simpa using hi)
    · intro i j hij hj
      cases j with
      | zero => omega
      | succ j =>
        have hj' : j < s.length := by simpa using hj
        cases i with
        | zero => rw [p0, p1]; exact (c1 j hj').1
        | succ i => rw [p1, p1]; exact c3 i j (by omega) hj'
    · intro i r hi hr
      cases i with
      | zero => rw [e0]; exact b4 _ (hmem r hr)
      | succ i => rw [e1]; exact c4 i r (by simpa using hi) hr
    · intro i r hi hr
      cases i with
      | zero => rw [e0]; exact d1 r (by omega)
      | succ i => rw [e1]; have := c5 i r (by simpa using hi) hr; have := d1 r (by omega); omega
    · intro i j r hij hj hr
      cases j with
      | zero => have : i = 0 := by omega
                subst this; exact Int.le_refl _
      | succ j =>
        have hj' : j < s.length := by simpa using hj
        cases i with
        | zero => rw [e0, e1]; exact c5 j r hj' hr
        | succ i => rw [e1, e1]; exact c6 i j r (by omega) hj' hr
    · intro i r r' hi hrr hr
      cases i with
      | zero => rw [e0, e0]; exact d3 r r' hrr (by omega)
      | succ i => rw [e1, e1]; exact c7 i r r' (by simpa using hi) hrr hr
theorem good_of {name : Int} {shares : List Int} {T : Ty} (hl : T.direct.length = 8) (h : tyE name shares T = 0) : GoodTy T := by
  unfold tyE at h
  rw [thenE_zero, firstE_zero] at h
  obtain ⟨h1, h2⟩ := h
  have a1 := eachE_zero.1 (h1 (eachE (fun n => inR n 0 2000) T.direct) (by simp))
  have a2 := inR_zero.1 (h1 (inR T.side 0 1000) (by simp))
  have a3 := h1 (sqE T.squares) (by simp)
  have a4 := cntE_zero.1 (h1 (cntE T.sets.length 6) (by simp))
  unfold sqE at a3
  rw [thenE_zero, firstE_zero] at a3
  have a5 := cntE_zero.1 (a3.1 (cntE T.squares.length 8) (by simp))
  obtain ⟨c1, c2, c3, c4, c5, c6, c7⟩ := setsE_zero h2
  exact { dir := fun i hi => inR_zero.1 (a1 _ (getD_mem (by omega)))
          dlen := hl
          side0 := a2.1
          side1 := a2.2
          sq := a5.1
          sets := { some := a4.1, up := c3, ord := c6, down := c7, lo := fun i r hi hr => (c4 i r hi hr).1, hi := fun i r hi hr => (c4 i r hi hr).2 } }
/-! ### Tracks -/
structure GoodTr (l : List Fx) : Prop where
  lo : 2 ≤ l.length
  hi : l.length ≤ 16
  up : Ticks l
  pts : ∀ i, i < l.length → GoodFx (fxAt l i)
  last : (fxAt l (l.length - 1)).t - (fxAt l 0).t ≤ 1000
end Go.Proofs.Bell

set_option autoImplicit false
set_option relaxedAutoImplicit false
namespace Go.Proofs.Bell
/-! What TopBellCut says, of lists alone: the states of a valid track are valid, exposures of spans that follow one another add up, the maximum is the first of the greatest. -/
theorem fxAt_get {l : List Fx} {j : Nat} (hj : j < l.length) : fxAt l j = l[j] := by
  unfold fxAt; rw [List.getD_eq_getElem?_getD, List.getElem?_eq_getElem hj]; rfl
theorem seg_ex {l : List Fx} (h : 2 ≤ l.length) {k : Int} (h1 : (fxAt l 0).t ≤ k) (h2 : k < (fxAt l (l.length - 1)).t) :
    ∃ i, i + 1 < l.length ∧ (fxAt l i).t ≤ k ∧ k < (fxAt l (i + 1)).t ∧ segIx l k = i := by
  have hl : l.findIdx (fun p => decide (k < p.t)) < l.length := by
    apply Nat.lt_of_not_le
    intro hle
    have := List.not_of_lt_findIdx (p := fun p : Fx => decide (k < p.t)) (xs := l) (i := l.length - 1) (by omega)
    rw [fxAt_get (by omega)] at h2
    simp at this
    omega
  have h3 := of_decide_eq_true (List.findIdx_getElem (p := fun p : Fx => decide (k < p.t)) (xs := l) (w := hl))
  have h0 : l.findIdx (fun p => decide (k < p.t)) ≠ 0 := by
    intro e
    have e1 : fxAt l (l.findIdx (fun p => decide (k < p.t))) = l[l.findIdx (fun p => decide (k < p.t))] := fxAt_get hl
    rw [← e1, e] at h3
    omega
  have h4 := List.not_of_lt_findIdx (p := fun p : Fx => decide (k < p.t)) (xs := l) (i := l.findIdx (fun p => decide (k < p.t)) - 1) (by omega)
  refine ⟨l.findIdx (fun p => decide (k < p.t)) - 1, by omega, ?_, ?_, rfl⟩
  · rw [fxAt_get (by omega)]
    simp at h4
    omega
  · have e : l.findIdx (fun p => decide (k < p.t)) - 1 + 1 = l.findIdx (fun p => decide (k < p.t)) := by omega
    rw [e, fxAt_get hl]; exact h3
structure GoodSt (s : St) : Prop where
  x0 : -100000 ≤ s.x
  x1 : s.x ≤ 100000
  y0 : -100000 ≤ s.y
  y1 : s.y ≤ 100000
  z0 : 0 ≤ s.z
  z1 : s.z ≤ 20000
  hx0 : -200000 ≤ s.hx
  hx1 : s.hx ≤ 200000
  hy0 : -200000 ≤ s.hy
  hy1 : s.hy ≤ 200000
  p0 : 1 ≤ s.p
  p1 : s.p ≤ 100
theorem state_of {a b : Fx} {k : Int} (ga : GoodFx a) (gb : GoodFx b) (h1 : a.t ≤ k) (h2 : k < b.t) : GoodSt (stOf a b k) := by
  obtain ⟨q1, q2, q3⟩ := part_ok h1 h2
  have x := betw_bounds (a := a.x) (b := b.x) (lo := -100000) (hi := 100000) q1 q2 q3 ga.x0 gb.x0 ga.x1 gb.x1
  have y := betw_bounds (a := a.y) (b := b.y) (lo := -100000) (hi := 100000) q1 q2 q3 ga.y0 gb.y0 ga.y1 gb.y1
  have z := betw_bounds (a := a.z) (b := b.z) (lo := 0) (hi := 20000) q1 q2 q3 ga.z0 gb.z0 ga.z1 gb.z1
  have p := betw_bounds (a := a.p) (b := b.p) (lo := 1) (hi := 100) q1 q2 q3 ga.p0 gb.p0 ga.p1 gb.p1
  have := ga.x0; have := ga.x1; have := gb.x0; have := gb.x1
  have := ga.y0; have := ga.y1; have := gb.y0; have := gb.y1
  refine ⟨x.1, x.2, y.1, y.2, z.1, z.2, ?_, ?_, ?_, ?_, p.1, p.2⟩ <;> (simp only [stOf]; omega)
theorem state_ok {l : List Fx} (g : GoodTr l) {k : Int} (h1 : (fxAt l 0).t ≤ k) (h2 : k < (fxAt l (l.length - 1)).t) : GoodSt (stAt l k) := by
  obtain ⟨i, a, b, c, d⟩ := seg_ex g.lo h1 h2
  unfold stAt
  rw [d]
  exact state_of (g.pts _ (by omega)) (g.pts _ a) b c
/-- what Exposure answers -/
def expoOf (T : Ty) (l : List Fx) (r : Pl) (c d : Int) : Int :=
  sumF (heardAt T l r) (max c (fxAt l 0).t) (min d (fxAt l (l.length - 1)).t - max c (fxAt l 0).t).toNat
variable {T : Ty}
end Go.Proofs.Bell

set_option autoImplicit false
set_option relaxedAutoImplicit false
namespace Go.Proofs.Bell
/-! What SourceTurned and SourceCut say, of numbers and lists alone: sectors of turned directions; greater powers and greater energies. -/
/-- the sector by the product `u` along the heading and the product `v` to its left -/
def secOf (u v : Int) : Nat :=
  if (u > v ∧ v ≥ 0) ∨ (u = 0 ∧ v = 0) then 0
  else if v ≥ u ∧ u > 0 then 1
  else if v > -u ∧ -u ≥ 0 then 2
  else if -u ≥ v ∧ v > 0 then 3
  else if -u > -v ∧ -v ≥ 0 then 4
  else if -v ≥ -u ∧ -u > 0 then 5
  else if -v > u ∧ u ≥ 0 then 6
  else 7
theorem sector_is (hx hy x y : Int) : sectorOf hx hy x y = secOf (hx * x + hy * y) (hx * y - hy * x) := rfl
/-! ### Greater powers, greater energies -/
theorem ruleOk_of {a : Int} {prev l : List Int} (h1 : ∀ i, i < l.length → prev.getD i 0 ≤ l.getD i 0) (h2 : ∀ i, i < l.length → l.getD i 0 ≤ a) (h3 : ∀ i j, i ≤ j → j < l.length → l.getD j 0 ≤ l.getD i 0) : ruleOk a prev l = true := by
  induction l generalizing a prev with
  | nil => rfl
  | cons b l ih =>
    simp only [ruleOk, Bool.and_eq_true, decide_eq_true_eq]
    refine ⟨⟨?_, ?_⟩, ih ?_ ?_ ?_⟩
    · have := h1 0 (by simp)
      cases prev <;> simpa using this
    · simpa using h2 0 (by simp)
    · intro i hi
      have := h1 (i + 1) (by simpa using hi)
      cases prev <;> simpa using this
    · intro i hi
      have := h3 0 (i + 1) (by omega) (by simpa using hi)
      simpa using this
    · intro i j hij hj
      have := h3 (i + 1) (j + 1) (by omega) (by simpa using hj)
      simpa using this
end Go.Proofs.Bell

set_option autoImplicit false
set_option relaxedAutoImplicit false
namespace Go.Proofs.Bell
/-! The reference of chapter 2 looks for the same numbers another way: it finds the same. -/
/-! ### Reaches -/
/-- the reference's reach behind `n` rounds -/
def reachR (l : List Int) (sq : Int) : Nat → Nat
  | 0 => 0
  | n + 1 => if l.getD n 0 ≤ sq then n else reachR l sq n
theorem asc_at {a : Int} {l : List Int} (h : asc a l = true) : (∀ i, i < l.length → a < l.getD i 0) ∧ ∀ i j, i < j → j < l.length → l.getD i 0 < l.getD j 0 := by
  induction l generalizing a with
  | nil => exact ⟨fun i hi => by simp at hi, fun i j _ hj => by simp at hj⟩
  | cons b l ih =>
    simp only [asc, Bool.and_eq_true, decide_eq_true_eq] at h
    obtain ⟨c1, c2⟩ := ih h.2
    refine ⟨?_, ?_⟩
    · intro i hi
      cases i with
      | zero => simpa using h.1
      | succ i => have := c1 i (by simpa using hi); simp only [List.getD_cons_succ]; omega
    · intro i j hij hj
      cases j with
      | zero => omega
      | succ j =>
        have hj' : j < l.length := by simpa using hj
        cases i with
        | zero => simpa using c1 j hj'
        | succ i => simpa using c2 i j (by omega) hj'
/-- squares without fault -/
structure GoodSq (l : List Int) : Prop where
  some : 0 < l.length
  zero : l.getD 0 0 = 0
  up : ∀ i j, i < j → j < l.length → l.getD i 0 < l.getD j 0
theorem squares_of {l : List Int} (h : sqE l = 0) : GoodSq l := by
  unfold sqE at h
  rw [thenE_zero, firstE_zero] at h
  have a1 := cntE_zero.1 (h.1 (cntE l.length 8) (by simp))
  have a2 : l.headD 0 = 0 ∧ asc (l.headD 0) l.tail = true := by
    have := h.2
    split at this
    · assumption
    · omega
  cases l with
  | nil => simp at a1
  | cons b l =>
    obtain ⟨c1, c2⟩ := asc_at a2.2
    simp only [List.headD_cons, List.tail_cons] at a2 c1 c2
    refine ⟨a1.1, by simpa using a2.1, ?_⟩
    intro i j hij hj
    cases j with
    | zero => omega
    | succ j =>
      have hj' : j < l.length := by simpa using hj
      cases i with
      | zero => simpa using c1 j hj'
      | succ i => simpa using c2 i j (by omega) hj'
theorem reach_before {l : List Int} {sq : Int} {i : Nat} (h : i < l.findIdx (fun x => decide (sq < x))) : l.getD i 0 ≤ sq := by
  have hl : i < l.length := Nat.lt_of_lt_of_le h List.findIdx_le_length
  have := List.not_of_lt_findIdx (p := fun x : Int => decide (sq < x)) (xs := l) h
  rw [List.getD_eq_getElem?_getD, List.getElem?_eq_getElem hl]
  simpa using this
theorem reach_from {l : List Int} (g : GoodSq l) {sq : Int} {i : Nat} (hi : i < l.length) (h : l.findIdx (fun x => decide (sq < x)) ≤ i) : sq < l.getD i 0 := by
  have hl : l.findIdx (fun x => decide (sq < x)) < l.length := by omega
  have h3 := of_decide_eq_true (List.findIdx_getElem (p := fun x : Int => decide (sq < x)) (xs := l) (w := hl))
  have e : l.getD (l.findIdx (fun x => decide (sq < x))) 0 = l[l.findIdx (fun x => decide (sq < x))] := by
    rw [List.getD_eq_getElem?_getD, List.getElem?_eq_getElem hl]; rfl
  rw [← e] at h3
  rcases Nat.lt_or_ge (l.findIdx (fun x => decide (sq < x))) i with q | q
  · have := g.up _ i q hi; omega
  · have : i = l.findIdx (fun x => decide (sq < x)) := by omega
    rw [this]; exact h3
theorem reachR_is {l : List Int} (g : GoodSq l) {sq : Int} (n : Nat) (hn : n ≤ l.length) : reachR l sq n = min n (l.findIdx (fun x => decide (sq < x))) - 1 := by
  induction n with
  | zero => simp [reachR]
  | succ n ih =>
    simp only [reachR]
    rcases Nat.lt_or_ge n (l.findIdx (fun x => decide (sq < x))) with q | q
    · rw [if_pos (reach_before q)]; omega
    · have := reach_from g (sq := sq) (i := n) (by omega) q
      rw [if_neg (by omega), ih (by omega)]; omega
theorem reachR_reach {l : List Int} (g : GoodSq l) {sq : Int} : reachR l sq l.length = reachOf l sq := by
  rw [reachR_is g l.length (Nat.le_refl _)]
  unfold reachOf
  have := List.findIdx_le_length (xs := l) (p := fun x => decide (sq < x))
  omega
/-! ### Emissions -/
theorem betw_all {a b w : Int} (h : 0 < w) : betw a b w w = b := by
  unfold betw
  rw [Int.mul_ediv_cancel _ (by omega)]
  omega
/-- the reference's emission by the index of the first power that is not below -/
def emisR (s : Sets) (r : Nat) (power : Int) : Int :=
  if ePow s (s.length - 1) ≤ power then eAt s (s.length - 1) r
  else if nextOf s power = 0 ∨ power = ePow s (nextOf s power) then eAt s (nextOf s power) r
  else betw (eAt s (nextOf s power - 1) r) (eAt s (nextOf s power) r) (power - ePow s (nextOf s power - 1)) (ePow s (nextOf s power) - ePow s (nextOf s power - 1))
theorem emisR_is {s : Sets} {m : Nat} (g : GoodSets s m) (r : Nat) (p : Int) : emisR s r p = emis s r p := by
  have h0 := g.some
  have hn := next_le s p
  unfold emisR emis
  by_cases h1 : nextOf s p = s.length
  · rw [if_pos h1]
    have := next_before (s := s) (p := p) (i := s.length - 1) (by omega)
    rw [if_pos (by omega)]
  · have hlt : nextOf s p < s.length := by omega
    have h4 := next_at hlt
    rw [if_neg h1]
    by_cases h2 : ePow s (s.length - 1) ≤ p
    · have e : nextOf s p = s.length - 1 := by
        rcases Nat.lt_or_ge (nextOf s p) (s.length - 1) with q | q
        · have := g.up _ (s.length - 1) q (by omega); omega
        · omega
      rw [if_pos h2]
      rw [e] at h4 ⊢
      by_cases h3 : s.length - 1 = 0
      · rw [if_pos h3, h3]
      · rw [if_neg h3]
        have := g.up (s.length - 1 - 1) (s.length - 1) (by omega) (by omega)
        have hp : p = ePow s (s.length - 1) := by omega
        rw [hp, betw_all (by omega)]
    · rw [if_neg h2]
      by_cases h3 : nextOf s p = 0
      · rw [if_pos (.inl h3), if_pos h3, h3]
      · rw [if_neg h3]
        by_cases h5 : p = ePow s (nextOf s p)
        · rw [if_pos (.inr h5)]
          have := g.up (nextOf s p - 1) (nextOf s p) (by omega) hlt
          rw [← h5] at this ⊢
          rw [betw_all (by omega)]
        · rw [if_neg (by intro q; rcases q with q | q; exact h3 q; exact h5 q)]
/-! ### Sectors -/
/-- the reference's turning back by quarters -/
def turnR : Nat → Int → Int → Nat → Int × Int × Nat
  | 0, u, v, n => (u, v, n)
  | k + 1, u, v, n => if u > 0 ∧ v ≥ 0 then (u, v, n) else turnR k v (-u) (n + 2)
def sectorR (u v : Int) : Nat :=
  if u = 0 ∧ v = 0 then 0
  else if (turnR 4 u v 0).1 ≤ (turnR 4 u v 0).2.1 then (turnR 4 u v 0).2.2 + 1 else (turnR 4 u v 0).2.2
theorem sectorR_is (u v : Int) : sectorR u v = secOf u v := by
  unfold sectorR secOf
  simp only [turnR]
  repeat' split
  all_goals (first | omega | (simp only [] at *) ) <;> (try omega)
/-! ### Floors, ceilings, distances -/
theorem floorR_is {n d : Int} (h : 0 < d) : (if n < n.tdiv d * d then n.tdiv d - 1 else n.tdiv d) = n / d := by
  rw [← floor_is h]
  have h1 := Int.tmod_add_mul_tdiv n d
  have e : n.tdiv d * d = d * n.tdiv d := Int.mul_comm _ _
  rw [e]
  by_cases q : n.tmod d < 0
  · rw [if_pos q, if_pos (by omega)]
  · rw [if_neg q, if_neg (by omega)]
theorem near_is (n a b : Int) : max (max 0 (min a b - n)) (n - max a b) = nearOf (min (a - n) (b - n)) (max (a - n) (b - n)) := by
  unfold nearOf; omega
theorem far_is (n a b : Int) : max (n - min a b) (max a b - n) = farOf (min (a - n) (b - n)) (max (a - n) (b - n)) := by
  unfold farOf; omega
/-! ### Segments -/
/-! ### Bands -/
end Go.Proofs.Bell
