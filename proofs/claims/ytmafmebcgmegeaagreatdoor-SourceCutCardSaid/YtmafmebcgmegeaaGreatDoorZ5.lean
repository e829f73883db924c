/- Texts Ib1 of the proof. -/
import Derived.Test.YtmafmebcgmegeaaGreatDoorRows
set_option autoImplicit false
set_option relaxedAutoImplicit false
namespace Go.Proofs.Bell
/-! The plain mathematics of what is heard from a track (chapter 2): numbers between two others, emissions of settings, boxes, sums over ticks, and enclosures. No program is looked at. -/
/-- the number that lies part `p` of `w` from `a` towards `b`, rounded downwards -/
def betw (a b p w : Int) : Int := a + (b - a) * p / w
theorem floor_is {n d : Int} (h : 0 < d) : (if n.tmod d < 0 then n.tdiv d - 1 else n.tdiv d) = n / d := by
  have h1 := Int.tmod_add_mul_tdiv n d
  have h2 := Int.tmod_lt_of_pos n h
  have h3 := Int.lt_tmod_of_pos n h
  split
  · rename_i hn
    symm
    rw [Int.ediv_eq_iff_of_pos h]
    constructor <;> grind
  · rename_i hn
    symm
    rw [Int.ediv_eq_iff_of_pos h]
    constructor <;> grind
theorem betw_eq {a b p w : Int} (h : 0 < w) : betw a b p w = (a * w + (b - a) * p) / w := by
  unfold betw
  rw [Int.add_comm (a * w), Int.add_mul_ediv_right _ _ (by omega)]
  omega
theorem betw_mono {a b a' b' p w : Int} (h : 0 < w) (hp : 0 ≤ p) (hq : p ≤ w) (ha : a ≤ a') (hb : b ≤ b') : betw a b p w ≤ betw a' b' p w := by
  rw [betw_eq h, betw_eq h]
  apply Int.ediv_le_ediv h
  have h1 : 0 ≤ (a' - a) * (w - p) := Int.mul_nonneg (by omega) (by omega)
  have h2 : 0 ≤ (b' - b) * p := Int.mul_nonneg (by omega) (by omega)
  grind
theorem betw_same {a p w : Int} : betw a a p w = a := by
  unfold betw; simp
theorem betw_bounds {a b p w lo hi : Int} (h : 0 < w) (hp : 0 ≤ p) (hq : p ≤ w) (ha : lo ≤ a) (hb : lo ≤ b) (ha' : a ≤ hi) (hb' : b ≤ hi) : lo ≤ betw a b p w ∧ betw a b p w ≤ hi := by
  constructor
  · have := betw_mono h hp hq ha hb; rwa [betw_same] at this
  · have := betw_mono h hp hq ha' hb'; rwa [betw_same] at this
theorem betw_part {a b p p' w : Int} (h : 0 < w) (hab : a ≤ b) (hp : p ≤ p') : betw a b p w ≤ betw a b p' w := by
  unfold betw
  have : (b - a) * p ≤ (b - a) * p' := Int.mul_le_mul_of_nonneg_left hp (by omega)
  have := Int.ediv_le_ediv h this
  omega
/-! ### Emissions -/
abbrev Sets := List (Int × List Int)
def ePow (s : Sets) (k : Nat) : Int := (s.getD k (0, [])).1
def eAt (s : Sets) (k r : Nat) : Int := ((s.getD k (0, [])).2).getD r 0
def nextOf (s : Sets) (power : Int) : Nat := s.findIdx (fun x => decide (power ≤ x.1))
def reachOf (l : List Int) (sq : Int) : Nat := l.findIdx (fun x => decide (sq < x)) - 1
def emis (s : Sets) (r : Nat) (power : Int) : Int :=
  if nextOf s power = s.length then eAt s (s.length - 1) r
  else if nextOf s power = 0 then eAt s 0 r
  else betw (eAt s (nextOf s power - 1) r) (eAt s (nextOf s power) r) (power - ePow s (nextOf s power - 1)) (ePow s (nextOf s power) - ePow s (nextOf s power - 1))
/-- settings without a fault, for `m` squares -/
structure GoodSets (s : Sets) (m : Nat) : Prop where
  some : 0 < s.length
  up : ∀ i j, i < j → j < s.length → ePow s i < ePow s j
  ord : ∀ i j r, i ≤ j → j < s.length → r < m → eAt s i r ≤ eAt s j r
  down : ∀ i r r', i < s.length → r ≤ r' → r' < m → eAt s i r' ≤ eAt s i r
  lo : ∀ i r, i < s.length → r < m → 0 ≤ eAt s i r
  hi : ∀ i r, i < s.length → r < m → eAt s i r ≤ 100000000
theorem next_le (s : Sets) (p : Int) : nextOf s p ≤ s.length := List.findIdx_le_length
theorem next_at {s : Sets} {p : Int} (h : nextOf s p < s.length) : p ≤ ePow s (nextOf s p) := by
  have := List.findIdx_getElem (p := fun x : Int × List Int => decide (p ≤ x.1)) (xs := s) (w := h)
  unfold ePow
  rw [List.getD_eq_getElem?_getD, List.getElem?_eq_getElem h]
  exact of_decide_eq_true this
theorem next_before {s : Sets} {p : Int} {i : Nat} (h : i < nextOf s p) : ePow s i < p := by
  have hl : i < s.length := Nat.lt_of_lt_of_le h (next_le s p)
  have := List.not_of_lt_findIdx (p := fun x : Int × List Int => decide (p ≤ x.1)) (xs := s) h
  unfold ePow
  rw [List.getD_eq_getElem?_getD, List.getElem?_eq_getElem hl]
  simpa using this
theorem next_mono {s : Sets} {p p' : Int} (h : p ≤ p') : nextOf s p ≤ nextOf s p' := by
  apply Nat.le_of_not_lt
  intro hlt
  have h1 := next_before hlt
  have h2 := next_at (s := s) (p := p') (Nat.lt_of_lt_of_le hlt (next_le s p))
  omega
theorem reach_mono {l : List Int} {q q' : Int} (h : q ≤ q') : reachOf l q ≤ reachOf l q' := by
  unfold reachOf
  apply Nat.sub_le_sub_right
  apply Nat.le_of_not_lt
  intro hlt
  have hl := Nat.lt_of_lt_of_le hlt (List.findIdx_le_length (xs := l) (p := fun x => decide (q < x)))
  have h1 := List.not_of_lt_findIdx (p := fun x : Int => decide (q < x)) (xs := l) hlt
  have h2 := List.findIdx_getElem (p := fun x : Int => decide (q' < x)) (xs := l) (w := hl)
  simp at h1 h2
  omega
theorem reach_lt {l : List Int} {q : Int} (h : 0 < l.length) : reachOf l q < l.length := by
  unfold reachOf
  have := List.findIdx_le_length (xs := l) (p := fun x => decide (q < x))
  omega
variable {s : Sets} {m : Nat}
theorem emis_bounds (g : GoodSets s m) {r : Nat} (p : Int) {lo hi : Int} (hlo : ∀ i, i < s.length → lo ≤ eAt s i r) (hhi : ∀ i, i < s.length → eAt s i r ≤ hi) : lo ≤ emis s r p ∧ emis s r p ≤ hi := by
  have hn := next_le s p
  have h0 := g.some
  unfold emis
  split
  · exact ⟨hlo _ (by omega), hhi _ (by omega)⟩
  · split
    · exact ⟨hlo _ (by omega), hhi _ (by omega)⟩
    · rename_i h1 h2
      have h3 : nextOf s p < s.length := by omega
      have h4 := next_at h3
      have h5 := next_before (s := s) (p := p) (i := nextOf s p - 1) (by omega)
      exact betw_bounds (by omega) (by omega) (by omega) (hlo _ (by omega)) (hlo _ h3) (hhi _ (by omega)) (hhi _ h3)
theorem emis_range (g : GoodSets s m) {r : Nat} (hr : r < m) (p : Int) : 0 ≤ emis s r p ∧ emis s r p ≤ 100000000 :=
  emis_bounds g p (fun i h => g.lo i r h hr) (fun i h => g.hi i r h hr)
theorem emis_far (g : GoodSets s m) {r r' : Nat} (h : r ≤ r') (hr : r' < m) (p : Int) : emis s r' p ≤ emis s r p := by
  have hn := next_le s p
  have h0 := g.some
  unfold emis
  split
  · exact g.down _ _ _ (by omega) h hr
  · split
    · exact g.down _ _ _ (by omega) h hr
    · rename_i h1 h2
      have h3 : nextOf s p < s.length := by omega
      have h4 := next_at h3
      have h5 := next_before (s := s) (p := p) (i := nextOf s p - 1) (by omega)
      exact betw_mono (by omega) (by omega) (by omega) (g.down _ _ _ (by omega) h hr) (g.down _ _ _ h3 h hr)
theorem emis_next (g : GoodSets s m) {r : Nat} (hr : r < m) {p : Int} (h : nextOf s p < s.length) : emis s r p ≤ eAt s (nextOf s p) r := by
  unfold emis
  split
  · omega
  · split
    · rename_i h1 h2; rw [h2]; exact Int.le_refl _
    · rename_i h1 h2
      have h4 := next_at h
      have h5 := next_before (s := s) (p := p) (i := nextOf s p - 1) (by omega)
      exact (betw_bounds (lo := eAt s (nextOf s p - 1) r) (by omega) (by omega) (by omega) (Int.le_refl _) (g.ord _ _ _ (by omega) h hr) (g.ord _ _ _ (by omega) h hr) (Int.le_refl _)).2
theorem emis_prev (g : GoodSets s m) {r : Nat} (hr : r < m) {p : Int} (h : 0 < nextOf s p) : eAt s (nextOf s p - 1) r ≤ emis s r p := by
  have hn := next_le s p
  unfold emis
  split
  · rename_i h1; rw [h1]; exact Int.le_refl _
  · split
    · omega
    · rename_i h1 h2
      have h3 : nextOf s p < s.length := by omega
      have h4 := next_at h3
      have h5 := next_before (s := s) (p := p) (i := nextOf s p - 1) (by omega)
      exact (betw_bounds (hi := eAt s (nextOf s p) r) (by omega) (by omega) (by omega) (Int.le_refl _) (g.ord _ _ _ (by omega) h3 hr) (g.ord _ _ _ (by omega) h3 hr) (Int.le_refl _)).1
theorem emis_power (g : GoodSets s m) {r : Nat} (hr : r < m) {p p' : Int} (h : p ≤ p') : emis s r p ≤ emis s r p' := by
  have hm := next_mono (s := s) h
  have hn := next_le s p'
  by_cases he : nextOf s p = nextOf s p'
  · unfold emis
    rw [← he]
    split
    · exact Int.le_refl _
    · split
      · exact Int.le_refl _
      · rename_i h1 h2
        have h3 : nextOf s p < s.length := by omega
        have h4 := next_at h3
        have h5 := next_before (s := s) (p := p) (i := nextOf s p - 1) (by omega)
        exact betw_part (by omega) (g.ord _ _ _ (by omega) h3 hr) (by omega)
  · have h1 : nextOf s p < s.length := by omega
    have h2 := emis_next g hr h1
    have h3 := emis_prev g hr (p := p') (by omega)
    have h4 := g.ord (nextOf s p) (nextOf s p' - 1) r (by omega) (by omega) hr
    omega
/-! ### Boxes -/
def nearOf (lo hi : Int) : Int := max (max lo (-hi)) 0
def farOf (lo hi : Int) : Int := max (-lo) hi
theorem sq_le {a b : Int} (h0 : 0 ≤ a) (h : a ≤ b) : a * a ≤ b * b := Int.mul_le_mul h h h0 (by omega)
theorem reach_sq {lo hi x : Int} (h1 : lo ≤ x) (h2 : x ≤ hi) : nearOf lo hi * nearOf lo hi ≤ x * x ∧ x * x ≤ farOf lo hi * farOf lo hi := by
  rcases Int.le_total 0 x with h | h
  · exact ⟨sq_le (by unfold nearOf; omega) (by unfold nearOf; omega), sq_le h (by unfold farOf; omega)⟩
  · have e : x * x = (-x) * (-x) := by grind
    rw [e]
    exact ⟨sq_le (by unfold nearOf; omega) (by unfold nearOf; omega), sq_le (by omega) (by unfold farOf; omega)⟩
/-! ### Sums over ticks -/
def sumF (f : Int → Int) (a : Int) : Nat → Int
  | 0 => 0
  | n + 1 => sumF f a n + f (a + n)
theorem sumF_add (f : Int → Int) (a : Int) (m n : Nat) : sumF f a (m + n) = sumF f a m + sumF f (a + m) n := by
  induction n with
  | zero => simp [sumF]
  | succ n ih =>
    rw [← Nat.add_assoc]
    simp only [sumF, ih]
    have : a + ((m + n : Nat) : Int) = a + m + n := by omega
    rw [this]; omega
theorem sumF_lo {f : Int → Int} {a lo : Int} {n : Nat} (h : ∀ i : Nat, i < n → lo ≤ f (a + i)) : n * lo ≤ sumF f a n := by
  induction n with
  | zero => simp [sumF]
  | succ n ih =>
    simp only [sumF]
    have := ih (fun i hi => h i (by omega))
    have := h n (by omega)
    have e : ((n + 1 : Nat) : Int) * lo = n * lo + lo := by rw [Int.natCast_succ]; grind
    omega
theorem sumF_hi {f : Int → Int} {a hi : Int} {n : Nat} (h : ∀ i : Nat, i < n → f (a + i) * 1000 ≤ hi) : sumF f a n * 1000 ≤ n * hi := by
  induction n with
  | zero => simp [sumF]
  | succ n ih =>
    simp only [sumF]
    have := ih (fun i hi => h i (by omega))
    have := h n (by omega)
    have e : ((n + 1 : Nat) : Int) * hi = n * hi + hi := by rw [Int.natCast_succ]; grind
    omega
theorem sumF_list (f : Int → Int) (a : Int) (n : Nat) : ((List.range n).map (fun i : Nat => f (a + i))).sum = sumF f a n := by
  induction n with
  | zero => rfl
  | succ n ih => rw [List.range_succ, List.map_append, List.sum_append, ih]; simp [sumF]
/-! ### Tracks and states -/
structure Fx where
  t : Int
  x : Int
  y : Int
  z : Int
  p : Int
structure St where
  x : Int
  y : Int
  z : Int
  hx : Int
  hy : Int
  p : Int
def fxAt (l : List Fx) (i : Nat) : Fx := l.getD i ⟨0, 0, 0, 0, 0⟩
def segIx (l : List Fx) (k : Int) : Nat := l.findIdx (fun p => decide (k < p.t)) - 1
def stOf (a b : Fx) (k : Int) : St :=
  ⟨betw a.x b.x (k - a.t) (b.t - a.t), betw a.y b.y (k - a.t) (b.t - a.t), betw a.z b.z (k - a.t) (b.t - a.t), b.x - a.x, b.y - a.y, betw a.p b.p (k - a.t) (b.t - a.t)⟩
def stAt (l : List Fx) (k : Int) : St := stOf (fxAt l (segIx l k)) (fxAt l (segIx l k + 1)) k
structure GoodFx (a : Fx) : Prop where
  t0 : 0 ≤ a.t
  t1 : a.t ≤ 100000000
  x0 : -100000 ≤ a.x
  x1 : a.x ≤ 100000
  y0 : -100000 ≤ a.y
  y1 : a.y ≤ 100000
  z0 : 0 ≤ a.z
  z1 : a.z ≤ 20000
  p0 : 1 ≤ a.p
  p1 : a.p ≤ 100
/-- ticks that ascend from point to point -/
def Ticks (l : List Fx) : Prop := ∀ i j, i < j → j < l.length → (fxAt l i).t < (fxAt l j).t
theorem seg_is {l : List Fx} (h : Ticks l) {i : Nat} (hi : i + 1 < l.length) {k : Int} (h1 : (fxAt l i).t ≤ k) (h2 : k < (fxAt l (i + 1)).t) : segIx l k = i := by
  have hle := List.findIdx_le_length (xs := l) (p := fun p => decide (k < p.t))
  have g : ∀ j, (hj : j < l.length) → fxAt l j = l[j] := by
    intro j hj; unfold fxAt; rw [List.getD_eq_getElem?_getD, List.getElem?_eq_getElem hj]; rfl
  have e : l.findIdx (fun p => decide (k < p.t)) = i + 1 := by
    apply Nat.le_antisymm
    · apply Nat.le_of_not_lt
      intro hlt
      have := List.not_of_lt_findIdx (p := fun p : Fx => decide (k < p.t)) (xs := l) hlt
      have e1 := g (i + 1) hi
      rw [← e1] at this
      simp at this
      omega
    · apply Nat.le_of_not_lt
      intro hlt
      have hl : l.findIdx (fun p => decide (k < p.t)) < l.length := by omega
      have := List.findIdx_getElem (p := fun p : Fx => decide (k < p.t)) (xs := l) (w := hl)
      have h3 : k < (l[l.findIdx (fun p => decide (k < p.t))]).t := of_decide_eq_true this
      rw [← g _ hl] at h3
      rcases Nat.lt_or_ge (l.findIdx (fun p => decide (k < p.t))) i with hq | hq
      · have := h _ i hq (by omega); omega
      · have e2 : l.findIdx (fun p => decide (k < p.t)) = i := by omega
        rw [e2] at h3; omega
  unfold segIx
  omega
theorem part_ok {a b : Fx} {k : Int} (h1 : a.t ≤ k) (h2 : k < b.t) : 0 < b.t - a.t ∧ 0 ≤ k - a.t ∧ k - a.t ≤ b.t - a.t := by omega
/-! ### What is heard -/
structure Ty where
  direct : List Int
  side : Int
  squares : List Int
  sets : Sets
structure GoodTy (T : Ty) : Prop where
  dir : ∀ i, i < 8 → 0 ≤ T.direct.getD i 0 ∧ T.direct.getD i 0 ≤ 2000
  dlen : T.direct.length = 8
  side0 : 0 ≤ T.side
  side1 : T.side ≤ 1000
  sq : 0 < T.squares.length
  sets : GoodSets T.sets T.squares.length
def sectorOf (hx hy x y : Int) : Nat :=
  let u := hx * x + hy * y
  let v := hx * y - hy * x
  if (u > v ∧ v ≥ 0) ∨ (u = 0 ∧ v = 0) then 0
  else if v ≥ u ∧ u > 0 then 1
  else if v > -u ∧ -u ≥ 0 then 2
  else if -u ≥ v ∧ v > 0 then 3
  else if -u > -v ∧ -v ≥ 0 then 4
  else if -v ≥ -u ∧ -u > 0 then 5
  else if -v > u ∧ u ≥ 0 then 6
  else 7
theorem sector_lt (hx hy x y : Int) : sectorOf hx hy x y < 8 := by
  unfold sectorOf
  simp only
  repeat' split
  all_goals omega
structure Pl where
  x : Int
  y : Int
  z : Int
def sqOf (x y z : Int) : Int := x * x + y * y + z * z
def energyOf (T : Ty) (s : St) (r : Pl) : Int :=
  emis T.sets (reachOf T.squares (sqOf (r.x - s.x) (r.y - s.y) (r.z - s.z))) s.p * T.direct.getD (sectorOf s.hx s.hy (r.x - s.x) (r.y - s.y)) 0
def steepOf (s : St) (r : Pl) : Prop := (r.x - s.x) * (r.x - s.x) + (r.y - s.y) * (r.y - s.y) ≤ 4 * (r.z - s.z) * (r.z - s.z)
instance (s : St) (r : Pl) : Decidable (steepOf s r) := inferInstanceAs (Decidable (_ ≤ _))
def heardOf (T : Ty) (s : St) (r : Pl) : Int :=
  if steepOf s r then energyOf T s r / 1000 else energyOf T s r * T.side / 1000000
variable {T : Ty}
theorem heard_between (g : GoodTy T) {s : St} {r : Pl} {E D F G : Int}
    (h1 : E ≤ emis T.sets (reachOf T.squares (sqOf (r.x - s.x) (r.y - s.y) (r.z - s.z))) s.p)
    (h2 : emis T.sets (reachOf T.squares (sqOf (r.x - s.x) (r.y - s.y) (r.z - s.z))) s.p ≤ F)
    (hE : 0 ≤ E) (hD : 0 ≤ D)
    (h3 : ∀ i, i < 8 → D ≤ T.direct.getD i 0) (h4 : ∀ i, i < 8 → T.direct.getD i 0 ≤ G) :
    E * D * T.side / 1000000 ≤ heardOf T s r ∧ heardOf T s r * 1000 ≤ F * G := by
  have k3 := h3 _ (sector_lt s.hx s.hy (r.x - s.x) (r.y - s.y))
  have k4 := h4 _ (sector_lt s.hx s.hy (r.x - s.x) (r.y - s.y))
  have hl : E * D ≤ energyOf T s r := Int.mul_le_mul h1 k3 hD (by omega)
  have hh : energyOf T s r ≤ F * G := Int.mul_le_mul h2 k4 (by omega) (by omega)
  have h0 : 0 ≤ E * D := Int.mul_nonneg hE hD
  have s0 := g.side0
  have s1 := g.side1
  unfold heardOf
  split
  · constructor
    · have a1 : E * D * T.side ≤ energyOf T s r * 1000 := Int.mul_le_mul hl s1 s0 (by omega)
      have a2 := Int.ediv_le_ediv (c := 1000000) (by decide) a1
      omega
    · omega
  · constructor
    · exact Int.ediv_le_ediv (by decide) (Int.mul_le_mul_of_nonneg_right hl s0)
    · have a1 : energyOf T s r * T.side ≤ energyOf T s r * 1000 := Int.mul_le_mul_of_nonneg_left s1 (by omega)
      omega
theorem heard_range (g : GoodTy T) (s : St) (r : Pl) : 0 ≤ heardOf T s r ∧ heardOf T s r ≤ 200000000 := by
  have e := emis_range g.sets (reach_lt (q := sqOf (r.x - s.x) (r.y - s.y) (r.z - s.z)) g.sq) s.p
  have := heard_between g (s := s) (r := r) (E := 0) (D := 0) (F := 100000000) (G := 2000) e.1 e.2 (by omega) (by omega) (fun i h => (g.dir i h).1) (fun i h => (g.dir i h).2)
  omega
/-! ### Enclosures -/
def dLow (l : List Int) : Int := l.foldl min (l.headD 0)
def dHigh (l : List Int) : Int := l.foldl max (l.headD 0)
theorem foldl_min_le (l : List Int) (a : Int) : l.foldl min a ≤ a ∧ ∀ x, x ∈ l → l.foldl min a ≤ x := by
  induction l generalizing a with
  | nil => simp
  | cons b l ih =>
    have := ih (min a b)
    refine ⟨by simp only [List.foldl_cons]; omega, ?_⟩
    intro x hx
    simp only [List.foldl_cons]
    rcases List.mem_cons.1 hx with e | e
    · subst e; omega
    · exact this.2 x e
theorem le_foldl_max (l : List Int) (a : Int) : a ≤ l.foldl max a ∧ ∀ x, x ∈ l → x ≤ l.foldl max a := by
  induction l generalizing a with
  | nil => simp
  | cons b l ih =>
    have := ih (max a b)
    refine ⟨by simp only [List.foldl_cons]; omega, ?_⟩
    intro x hx
    simp only [List.foldl_cons]
    rcases List.mem_cons.1 hx with e | e
    · subst e; omega
    · exact this.2 x e
theorem foldl_min_ge {l : List Int} {a c : Int} (ha : c ≤ a) (h : ∀ x, x ∈ l → c ≤ x) : c ≤ l.foldl min a := by
  induction l generalizing a with
  | nil => exact ha
  | cons b l ih =>
    simp only [List.foldl_cons]
    have := h b (by simp)
    exact ih (by omega) (fun x hx => h x (by simp [hx]))
theorem getD_mem {l : List Int} {i : Nat} (h : i < l.length) : l.getD i 0 ∈ l := by
  rw [List.getD_eq_getElem?_getD, List.getElem?_eq_getElem h]; simp
def sqNear (a b : Fx) (r : Pl) : Int :=
  nearOf (min (a.x - r.x) (b.x - r.x)) (max (a.x - r.x) (b.x - r.x)) * nearOf (min (a.x - r.x) (b.x - r.x)) (max (a.x - r.x) (b.x - r.x)) + nearOf (min (a.y - r.y) (b.y - r.y)) (max (a.y - r.y) (b.y - r.y)) * nearOf (min (a.y - r.y) (b.y - r.y)) (max (a.y - r.y) (b.y - r.y)) + nearOf (min (a.z - r.z) (b.z - r.z)) (max (a.z - r.z) (b.z - r.z)) * nearOf (min (a.z - r.z) (b.z - r.z)) (max (a.z - r.z) (b.z - r.z))
def sqFar (a b : Fx) (r : Pl) : Int :=
  farOf (min (a.x - r.x) (b.x - r.x)) (max (a.x - r.x) (b.x - r.x)) * farOf (min (a.x - r.x) (b.x - r.x)) (max (a.x - r.x) (b.x - r.x)) + farOf (min (a.y - r.y) (b.y - r.y)) (max (a.y - r.y) (b.y - r.y)) * farOf (min (a.y - r.y) (b.y - r.y)) (max (a.y - r.y) (b.y - r.y)) + farOf (min (a.z - r.z) (b.z - r.z)) (max (a.z - r.z) (b.z - r.z)) * farOf (min (a.z - r.z) (b.z - r.z)) (max (a.z - r.z) (b.z - r.z))
theorem betw_reach {a b p w r : Int} (h : 0 < w) (hp : 0 ≤ p) (hq : p ≤ w) :
    nearOf (min (a - r) (b - r)) (max (a - r) (b - r)) * nearOf (min (a - r) (b - r)) (max (a - r) (b - r)) ≤ (r - betw a b p w) * (r - betw a b p w) ∧ (r - betw a b p w) * (r - betw a b p w) ≤ farOf (min (a - r) (b - r)) (max (a - r) (b - r)) * farOf (min (a - r) (b - r)) (max (a - r) (b - r)) := by
  have hb := betw_bounds (a := a) (b := b) (lo := min a b) (hi := max a b) h hp hq (by omega) (by omega) (by omega) (by omega)
  have e : (r - betw a b p w) * (r - betw a b p w) = (betw a b p w - r) * (betw a b p w - r) := by grind
  rw [e]
  exact reach_sq (x := betw a b p w - r) (lo := min (a - r) (b - r)) (hi := max (a - r) (b - r)) (by omega) (by omega)
theorem square_in {a b : Fx} {k : Int} (r : Pl) (h1 : a.t ≤ k) (h2 : k < b.t) :
    sqNear a b r ≤ sqOf (r.x - (stOf a b k).x) (r.y - (stOf a b k).y) (r.z - (stOf a b k).z) ∧ sqOf (r.x - (stOf a b k).x) (r.y - (stOf a b k).y) (r.z - (stOf a b k).z) ≤ sqFar a b r := by
  obtain ⟨q1, q2, q3⟩ := part_ok h1 h2
  have hx := betw_reach (a := a.x) (b := b.x) (r := r.x) q1 q2 q3
  have hy := betw_reach (a := a.y) (b := b.y) (r := r.y) q1 q2 q3
  have hz := betw_reach (a := a.z) (b := b.z) (r := r.z) q1 q2 q3
  unfold sqNear sqFar sqOf stOf
  simp only
  omega
def leastOf (T : Ty) (a b : Fx) (r : Pl) : Int := emis T.sets (reachOf T.squares (sqFar a b r)) (min a.p b.p) * dLow T.direct * T.side / 1000000
def mostOf (T : Ty) (a b : Fx) (r : Pl) : Int := emis T.sets (reachOf T.squares (sqNear a b r)) (max a.p b.p) * dHigh T.direct
def lowOf (T : Ty) (a b : Fx) (r : Pl) : Int := (b.t - a.t) * leastOf T a b r
def highOf (T : Ty) (a b : Fx) (r : Pl) : Int := ((b.t - a.t) * mostOf T a b r + 1000 - 1) / 1000
theorem heard_enclosed (g : GoodTy T) {a b : Fx} {k : Int} (r : Pl) (h1 : a.t ≤ k) (h2 : k < b.t) :
    leastOf T a b r ≤ heardOf T (stOf a b k) r ∧ heardOf T (stOf a b k) r * 1000 ≤ mostOf T a b r := by
  obtain ⟨q1, q2, q3⟩ := part_ok h1 h2
  have hs := square_in r h1 h2
  have hp := betw_bounds (a := a.p) (b := b.p) (lo := min a.p b.p) (hi := max a.p b.p) q1 q2 q3 (by omega) (by omega) (by omega) (by omega)
  have e1 := emis_far g.sets (reach_mono (l := T.squares) hs.2) (reach_lt g.sq) (min a.p b.p)
  have e2 := emis_power g.sets (reach_lt (q := sqOf (r.x - (stOf a b k).x) (r.y - (stOf a b k).y) (r.z - (stOf a b k).z)) g.sq) (p := min a.p b.p) (p' := (stOf a b k).p) hp.1
  have e3 := emis_far g.sets (reach_mono (l := T.squares) hs.1) (reach_lt g.sq) (max a.p b.p)
  have e4 := emis_power g.sets (reach_lt (q := sqOf (r.x - (stOf a b k).x) (r.y - (stOf a b k).y) (r.z - (stOf a b k).z)) g.sq) (p := (stOf a b k).p) (p' := max a.p b.p) hp.2
  have e0 := (emis_range g.sets (reach_lt (q := sqFar a b r) g.sq) (min a.p b.p)).1
  have hd : ∀ i, i < 8 → dLow T.direct ≤ T.direct.getD i 0 := fun i hi => (foldl_min_le T.direct (T.direct.headD 0)).2 _ (getD_mem (by rw [g.dlen]; exact hi))
  have hd' : ∀ i, i < 8 → T.direct.getD i 0 ≤ dHigh T.direct := fun i hi => (le_foldl_max T.direct (T.direct.headD 0)).2 _ (getD_mem (by rw [g.dlen]; exact hi))
  have hd0 : 0 ≤ dLow T.direct := by
    apply foldl_min_ge
    · have := (g.dir 0 (by omega)).1
      rw [List.getD_eq_getElem?_getD] at this
      rw [List.headD_eq_head?_getD, List.head?_eq_getElem?]; exact this
    · intro x hx
      obtain ⟨i, hi, rfl⟩ := List.mem_iff_getElem.1 hx
      have := (g.dir i (by rw [← g.dlen]; exact hi)).1
      rw [List.getD_eq_getElem?_getD, List.getElem?_eq_getElem hi] at this
      exact this
  exact heard_between g (Int.le_trans e1 e2) (Int.le_trans e4 e3) e0 hd0 hd hd'
/-- what the segments up to the point `n` sum up to -/
def encLow (T : Ty) (l : List Fx) (r : Pl) : Nat → Int
  | 0 => 0
  | n + 1 => encLow T l r n + lowOf T (fxAt l n) (fxAt l (n + 1)) r
def encHigh (T : Ty) (l : List Fx) (r : Pl) : Nat → Int
  | 0 => 0
  | n + 1 => encHigh T l r n + highOf T (fxAt l n) (fxAt l (n + 1)) r
def heardAt (T : Ty) (l : List Fx) (r : Pl) (k : Int) : Int := heardOf T (stAt l k) r
theorem enclosed (g : GoodTy T) {l : List Fx} (h : Ticks l) (r : Pl) (n : Nat) (hn : n < l.length) :
    encLow T l r n ≤ sumF (heardAt T l r) (fxAt l 0).t ((fxAt l n).t - (fxAt l 0).t).toNat ∧ sumF (heardAt T l r) (fxAt l 0).t ((fxAt l n).t - (fxAt l 0).t).toNat ≤ encHigh T l r n := by
  induction n with
  | zero => simp [encLow, encHigh, sumF]
  | succ n ih =>
    have ih := ih (by omega)
    have hlt := h n (n + 1) (by omega) hn
    have h0 : (fxAt l 0).t ≤ (fxAt l n).t := by
      rcases Nat.eq_zero_or_pos n with e | e
      · rw [e]; exact Int.le_refl _
      · exact Int.le_of_lt (h 0 n e (by omega))
    have e : ((fxAt l (n + 1)).t - (fxAt l 0).t).toNat = ((fxAt l n).t - (fxAt l 0).t).toNat + ((fxAt l (n + 1)).t - (fxAt l n).t).toNat := by omega
    rw [e, sumF_add]
    have ea : (fxAt l 0).t + ((((fxAt l n).t - (fxAt l 0).t).toNat : Nat) : Int) = (fxAt l n).t := by omega
    rw [ea]
    have hk : ∀ i : Nat, i < ((fxAt l (n + 1)).t - (fxAt l n).t).toNat → leastOf T (fxAt l n) (fxAt l (n + 1)) r ≤ heardAt T l r ((fxAt l n).t + i) ∧ heardAt T l r ((fxAt l n).t + i) * 1000 ≤ mostOf T (fxAt l n) (fxAt l (n + 1)) r := by
      intro i hi
      have hs : segIx l ((fxAt l n).t + i) = n := seg_is h hn (by omega) (by omega)
      have := heard_enclosed g (a := fxAt l n) (b := fxAt l (n + 1)) (k := (fxAt l n).t + i) r (by omega) (by omega)
      unfold heardAt stAt
      rw [hs]
      exact this
    have b1 := sumF_lo (fun i hi => (hk i hi).1)
    have b2 := sumF_hi (fun i hi => (hk i hi).2)
    have et : ((((fxAt l (n + 1)).t - (fxAt l n).t).toNat : Nat) : Int) = (fxAt l (n + 1)).t - (fxAt l n).t := by omega
    rw [et] at b1 b2
    simp only [encLow, encHigh, lowOf, highOf]
    constructor
    · exact Int.add_le_add ih.1 b1
    · refine Int.add_le_add ih.2 ?_
      omega
/-! ### The maximum -/
/-- the greatest of `f a .. f (a + n - 1)` and the first place where it is, the way the program looks for it -/
def maxF (f : Int → Int) (a : Int) : Nat → Int × Int
  | 0 => (-1, 0)
  | n + 1 => if (maxF f a n).1 < f (a + n) then (f (a + n), a + n) else maxF f a n
theorem maxF_spec (f : Int → Int) (a : Int) (n : Nat) (h : ∀ i : Nat, i < n → 0 ≤ f (a + i)) :
    (∀ i : Nat, i < n → f (a + i) ≤ (maxF f a n).1) ∧ (0 < n → 0 ≤ (maxF f a n).1 ∧ ∃ i : Nat, i < n ∧ (maxF f a n).2 = a + i ∧ f (a + i) = (maxF f a n).1 ∧ ∀ j : Nat, j < i → f (a + j) < f (a + i)) := by
  induction n with
  | zero => exact ⟨fun i hi => by omega, fun hn => by omega⟩
  | succ n ih =>
    have ih := ih (fun i hi => h i (by omega))
    have hn := h n (by omega)
    simp only [maxF]
    split
    · rename_i hlt
      refine ⟨?_, fun _ => ⟨hn, n, by omega, rfl, rfl, ?_⟩⟩
      · intro i hi
        rcases Nat.lt_or_ge i n with hq | hq
        · have := ih.1 i hq; simp only; omega
        · have : i = n := by omega
          subst this; exact Int.le_refl _
      · intro j hj
        have := ih.1 j hj; omega
    · rename_i hlt
      refine ⟨?_, ?_⟩
      · intro i hi
        rcases Nat.lt_or_ge i n with hq | hq
        · exact ih.1 i hq
        · have : i = n := by omega
          subst this; omega
      · intro _
        rcases Nat.eq_zero_or_pos n with e | e
        · subst e; simp [maxF] at hlt; simp at hn; omega
        · obtain ⟨k1, i, k2, k3, k4, k5⟩ := ih.2 e
          exact ⟨k1, i, by omega, k3, k4, k5⟩
/-- the ticks from `from` to `to`, cut at two places between them -/
theorem sumF_cuts (f : Int → Int) {a b c d : Int} (h1 : a ≤ b) (h2 : b ≤ c) (h3 : c ≤ d) :
    sumF f a (b - a).toNat + sumF f b (c - b).toNat + sumF f c (d - c).toNat = sumF f a (d - a).toNat := by
  have e : (d - a).toNat = ((b - a).toNat + (c - b).toNat) + (d - c).toNat := by omega
  rw [e, sumF_add, sumF_add]
  have e1 : a + (((b - a).toNat : Nat) : Int) = b := by omega
  have e2 : a + ((((b - a).toNat + (c - b).toNat : Nat)) : Int) = c := by omega
  rw [e1, e2]
theorem sumF_nonneg {f : Int → Int} {a : Int} {n : Nat} (h : ∀ k, 0 ≤ f k) : 0 ≤ sumF f a n := by
  induction n with
  | zero => exact Int.le_refl _
  | succ n ih => simp only [sumF]; have := h (a + n); omega
theorem sumF_upto {f : Int → Int} {a c : Int} {n : Nat} (h : ∀ k, f k ≤ c) : sumF f a n ≤ n * c := by
  induction n with
  | zero => simp [sumF]
  | succ n ih =>
    simp only [sumF]
    have := h (a + n)
    have e : ((n + 1 : Nat) : Int) * c = n * c + c := by rw [Int.natCast_succ]; grind
    omega
end Go.Proofs.Bell
