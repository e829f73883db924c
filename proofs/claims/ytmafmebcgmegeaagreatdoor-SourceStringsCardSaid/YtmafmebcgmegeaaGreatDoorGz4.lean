/- Part. -/
import Derived.Test.YtmafmebcgmegeaaGreatDoorGz1
import Derived.Test.YtmafmebcgmegeaaGreatDoorGz3
import Derived.StillTailTactics
import Derived.Test.YtmafmebcgmegeaaGreatDoorGz2
import Derived.ChangeKeysEq
import Derived.Deep.Cut
set_option autoImplicit false
set_option relaxedAutoImplicit false
namespace Go.Proofs.Bell
/-! The faults of types and tracks (chapter 2), as functions of their data: what CheckType and CheckTrack answer, and what a type or a track without fault keeps. -/
def inR (n lo hi : Int) : Int := if n < lo ∨ hi < n then 3 else 0
def firstE : List Int -> Int
 | [] => 0
 | e :: l => if e = 0 then firstE l else e
theorem firstE_zero {l : List Int} : firstE l = 0 ↔ ∀ e, e ∈ l -> e = 0 := by
 induction l with
 | nil => simp [firstE]
 | cons a l ih =>
   simp only [firstE]
   split
   ·rename_i h; rw [ih]; simp [h]
   ·rename_i h; simp [h]
def eachE (f : Int -> Int) (l : List Int) : Int := firstE (l.map f)
theorem eachE_zero {f : Int -> Int} {l : List Int} : eachE f l = 0 ↔ ∀ x, x ∈ l -> f x = 0 := by
 unfold eachE; rw [firstE_zero]; simp
def cntE (n limit : Nat) : Int := if n = 0 then 12 else if limit < n then 5 else 0
theorem cntE_zero {n k : Nat} : cntE n k = 0 ↔ 0 < n /\ n <= k := by
 unfold cntE
 split
 ·simp; omega
 ·split
  ·simp; omega
  ·simp; omega
theorem inR_zero {n lo hi : Int} : inR n lo hi = 0 ↔ lo <= n /\ n <= hi := by
 unfold inR
 split
 ·simp; omega
 ·simp; omega
def thenE (a b : Int) : Int := if a = 0 then b else a
theorem thenE_zero {a b : Int} : thenE a b = 0 ↔ a = 0 /\ b = 0 := by
 unfold thenE; split <;> simp_all
def shE (l : List Int) : Int := thenE (firstE [cntE l.length 8, eachE (fun n => inR n 0 1000) l]) (if l.sum = 1000 then 0 else 1)
def asc : Int -> List Int -> Bool
 | _, [] => true
 | a, b :: l => decide (a < b) && asc b l
def sqE (l : List Int) : Int := thenE (firstE [cntE l.length 8, eachE (fun n => inR n 0 100000000000) l]) (if l.headD 0 = 0 /\ asc (l.headD 0) l.tail then 0 else 11)
def ruleOk : Int -> List Int -> List Int -> Bool
 | _, _, [] => true
 | a, prev, b :: l => decide (prev.headD 0 <= b) && decide (b <= a) && ruleOk b prev.tail l
def setE (m : Nat) (bp : Int) (be : List Int) (s : Int × List Int) : Int :=
 thenE (firstE [inR s.1 1 100, if s.1 <= bp then 11 else 0, if s.2.length = m then 0 else 2, eachE (fun n => inR n 0 100000000) s.2]) (if ruleOk (s.2.headD 0) be s.2 then 0 else 21)
def setsE (m : Nat) : Int -> List Int -> Sets -> Int
 | _, _, [] => 0
 | bp, be, s :: l => thenE (setE m bp be s) (setsE m s.1 s.2 l)
def tyE (name : Int) (shares : List Int) (T : Ty) : Int :=
 thenE (firstE [name, shE shares, eachE (fun n => inR n 0 2000) T.direct, inR T.side 0 1000, sqE T.squares, cntE T.sets.length 6])
  (setsE T.squares.length 0 (List.replicate T.squares.length 0) T.sets)
theorem ruleOk_at {a : Int} {prev l : List Int} (h : ruleOk a prev l = true) :
  (∀ i, i < l.length -> prev.getD i 0 <= l.getD i 0) /\ (∀ i, i < l.length -> l.getD i 0 <= a) /\ (∀ i j, i <= j -> j < l.length -> l.getD j 0 <= l.getD i 0) := by
 induction l generalizing a prev with
 | nil => exact ⟨fun i hi => by simp at hi, fun i hi => by simp at hi, fun i j _ hj => by simp at hj⟩
 | cons b l ih =>
   simp only [ruleOk, Bool.and_eq_true, decide_eq_true_eq] at h; obtain ⟨⟨h1, h2⟩, h3⟩ := h; obtain ⟨k1, k2, k3⟩ := ih h3; refine ⟨?_, ?_, ?_⟩
   ·intro i hi
    cases i with
    | zero => cases prev <;> simpa using h1
    | succ i =>
      have := k1 i (by simpa using hi)
      cases prev with
      | nil => simpa using this
      | cons p prev => simpa using this
   ·intro i hi
    cases i with
    | zero => simpa using h2
    | succ i => have := k2 i (by simpa using hi); simp only [List.getD_cons_succ]; omega
   ·intro i j hij hj
    cases j with
    | zero => have : i = 0 := by omega
              subst this; exact Int.le_refl _
    | succ j =>
      cases i with
      | zero => have := k2 j (by simpa using hj); simpa using this
      | succ i => have := k3 i j (by omega) (by simpa using hj); simpa using this
theorem setE_zero {m : Nat} {bp : Int} {be : List Int} {s : Int × List Int} (h : setE m bp be s = 0) :
  (1 <= s.1 /\ s.1 <= 100) /\ bp < s.1 /\ s.2.length = m /\ (∀ x, x ∈ s.2 -> 0 <= x /\ x <= 100000000) /\ ruleOk (s.2.headD 0) be s.2 = true := by
 unfold setE at h; rw [thenE_zero, firstE_zero] at h; obtain ⟨h1, h2⟩ := h; have a1 := inR_zero.1 (h1 (inR s.1 1 100) (by simp)); have a2 := h1 (if s.1 <= bp then 11 else 0) (by simp); have a3 := h1 (if s.2.length = m then 0 else 2) (by simp); have a4 := eachE_zero.1 (h1 (eachE (fun n => inR n 0 100000000) s.2) (by simp)); refine ⟨a1, ?_, ?_, fun x hx => inR_zero.1 (a4 x hx), ?_⟩
 ·split at a2 <;> omega
 ·split at a3
  ·assumption
  ·omega
 ·split at h2
  ·assumption
  ·omega
theorem setsE_zero {m : Nat} {bp : Int} {be : List Int} {s : Sets} (h : setsE m bp be s = 0) :
  (∀ i, i < s.length -> bp < ePow s i /\ 1 <= ePow s i /\ ePow s i <= 100) /\
  (∀ i, i < s.length -> ((s.getD i (0, [])).2).length = m) /\
  (∀ i j, i < j -> j < s.length -> ePow s i < ePow s j) /\
  (∀ i r, i < s.length -> r < m -> 0 <= eAt s i r /\ eAt s i r <= 100000000) /\
  (∀ i r, i < s.length -> r < m -> be.getD r 0 <= eAt s i r) /\
  (∀ i j r, i <= j -> j < s.length -> r < m -> eAt s i r <= eAt s j r) /\
  (∀ i r r', i < s.length -> r <= r' -> r' < m -> eAt s i r' <= eAt s i r) := by
 induction s generalizing bp be with
 | nil => refine ⟨?_, ?_, ?_, ?_, ?_, ?_, ?_⟩ <;> intros <;> rename_i h <;> simp at * 
 | cons a s ih =>
   simp only [setsE] at h; rw [thenE_zero] at h; obtain ⟨b1, b2, b3, b4, b5⟩ := setE_zero h.1; obtain ⟨c1, c2, c3, c4, c5, c6, c7⟩ := ih h.2; obtain ⟨d1, d2, d3⟩ := ruleOk_at b5; have e0 : ∀ r, eAt (a :: s) 0 r = a.2.getD r 0 := fun r => rfl
   have e1 : ∀ i r, eAt (a :: s) (i + 1) r = eAt s i r := fun i r => by simp [eAt]
   have p0 : ePow (a :: s) 0 = a.1 := rfl; have p1 : ∀ i, ePow (a :: s) (i + 1) = ePow s i := fun i => by simp [ePow]
   have hmem : ∀ r, r < m -> a.2.getD r 0 ∈ a.2 := fun r hr => getD_mem (by omega)
   refine ⟨?_, ?_, ?_, ?_, ?_, ?_, ?_⟩
   ·intro i hi
    cases i with
    | zero => rw [p0]; omega
    | succ i => rw [p1]; have := c1 i (by simpa using hi); omega
   ·intro i hi
    cases i with
    | zero => simpa using b3
    | succ i => simpa using c2 i (by simpa using hi)
   ·intro i j hij hj
    cases j with
    | zero => omega
    | succ j =>
      have hj' : j < s.length := by simpa using hj
      cases i with
      | zero => rw [p0, p1]; exact (c1 j hj').1
      | succ i => rw [p1, p1]; exact c3 i j (by omega) hj'
   ·intro i r hi hr
    cases i with
    | zero => rw [e0]; exact b4 _ (hmem r hr)
    | succ i => rw [e1]; exact c4 i r (by simpa using hi) hr
   ·intro i r hi hr
    cases i with
    | zero => rw [e0]; exact d1 r (by omega)
    | succ i => rw [e1]; have := c5 i r (by simpa using hi) hr; have := d1 r (by omega); omega
   ·intro i j r hij hj hr
    cases j with
    | zero => have : i = 0 := by omega
              subst this; exact Int.le_refl _
    | succ j =>
      have hj' : j < s.length := by simpa using hj
      cases i with
      | zero => rw [e0, e1]; exact c5 j r hj' hr
      | succ i => rw [e1, e1]; exact c6 i j r (by omega) hj' hr
   ·intro i r r' hi hrr hr
    cases i with
    | zero => rw [e0, e0]; exact d3 r r' hrr (by omega)
    | succ i => rw [e1, e1]; exact c7 i r r' (by simpa using hi) hrr hr
theorem good_of {name : Int} {shares : List Int} {T : Ty} (hl : T.direct.length = 8) (h : tyE name shares T = 0) : GoodTy T := by
 unfold tyE at h; rw [thenE_zero, firstE_zero] at h; obtain ⟨h1, h2⟩ := h; have a1 := eachE_zero.1 (h1 (eachE (fun n => inR n 0 2000) T.direct) (by simp)); have a2 := inR_zero.1 (h1 (inR T.side 0 1000) (by simp)); have a3 := h1 (sqE T.squares) (by simp); have a4 := cntE_zero.1 (h1 (cntE T.sets.length 6) (by simp)); unfold sqE at a3; rw [thenE_zero, firstE_zero] at a3; have a5 := cntE_zero.1 (a3.1 (cntE T.squares.length 8) (by simp)); obtain ⟨c1, c2, c3, c4, c5, c6, c7⟩ := setsE_zero h2
 exact { dir := fun i hi => inR_zero.1 (a1 _ (getD_mem (by omega)))
         dlen := hl
         side0 := a2.1
         side1 := a2.2
         sq := a5.1
         sets := { some := a4.1, up := c3, ord := c6, down := c7, lo := fun i r hi hr => (c4 i r hi hr).1, hi := fun i r hi hr => (c4 i r hi hr).2 } }
/-! ### Tracks -/
structure GoodTr (l : List Fx) : Prop where
 lo : 2 <= l.length
 hi : l.length <= 16
 up : Ticks l
 pts : ∀ i, i < l.length -> GoodFx (fxAt l i)
 last : (fxAt l (l.length - 1)).t - (fxAt l 0).t <= 1000
end Go.Proofs.Bell
set_option autoImplicit false
set_option relaxedAutoImplicit false
namespace Go.Proofs.Bell
/-! What TopBellCut says, of lists alone: the states of a valid track are valid, exposures of spans that follow one another add up, the maximum is the first of the greatest. -/
theorem fxAt_get {l : List Fx} {j : Nat} (hj : j < l.length) : fxAt l j = l[j] := by
 unfold fxAt; rw [List.getD_eq_getElem?_getD, List.getElem?_eq_getElem hj]; rfl
theorem seg_ex {l : List Fx} (h : 2 <= l.length) {k : Int} (h1 : (fxAt l 0).t <= k) (h2 : k < (fxAt l (l.length - 1)).t) :
  ∃ i, i + 1 < l.length /\ (fxAt l i).t <= k /\ k < (fxAt l (i + 1)).t /\ segIx l k = i := by
 have hl : l.findIdx (fun p => decide (k < p.t)) < l.length := by
  apply Nat.lt_of_not_le
  intro hle; have := List.not_of_lt_findIdx (p := fun p : Fx => decide (k < p.t)) (xs := l) (i := l.length - 1) (by omega); rw [fxAt_get (by omega)] at h2
  simp at this
  omega
 have h3 := of_decide_eq_true (List.findIdx_getElem (p := fun p : Fx => decide (k < p.t)) (xs := l) (w := hl))
 have h0 : l.findIdx (fun p => decide (k < p.t)) ≠ 0 := by
  intro e; have e1 : fxAt l (l.findIdx (fun p => decide (k < p.t))) = l[l.findIdx (fun p => decide (k < p.t))] := fxAt_get hl; rw [<- e1, e] at h3
  omega
 have h4 := List.not_of_lt_findIdx (p := fun p : Fx => decide (k < p.t)) (xs := l) (i := l.findIdx (fun p => decide (k < p.t)) - 1) (by omega); refine ⟨l.findIdx (fun p => decide (k < p.t)) - 1, by omega, ?_, ?_, rfl⟩
 ·rw [fxAt_get (by omega)]
  simp at h4
  omega
 ·have e : l.findIdx (fun p => decide (k < p.t)) - 1 + 1 = l.findIdx (fun p => decide (k < p.t)) := by omega
  rw [e, fxAt_get hl]; exact h3
structure GoodSt (s : St) : Prop where
 x0 : -100000 <= s.x
 x1 : s.x <= 100000
 y0 : -100000 <= s.y
 y1 : s.y <= 100000
 z0 : 0 <= s.z
 z1 : s.z <= 20000
 hx0 : -200000 <= s.hx
 hx1 : s.hx <= 200000
 hy0 : -200000 <= s.hy
 hy1 : s.hy <= 200000
 p0 : 1 <= s.p
 p1 : s.p <= 100
theorem state_of {a b : Fx} {k : Int} (ga : GoodFx a) (gb : GoodFx b) (h1 : a.t <= k) (h2 : k < b.t) : GoodSt (stOf a b k) := by
 obtain ⟨q1, q2, q3⟩ := part_ok h1 h2; have x := betw_bounds (a := a.x) (b := b.x) (lo := -100000) (hi := 100000) q1 q2 q3 ga.x0 gb.x0 ga.x1 gb.x1; have y := betw_bounds (a := a.y) (b := b.y) (lo := -100000) (hi := 100000) q1 q2 q3 ga.y0 gb.y0 ga.y1 gb.y1; have z := betw_bounds (a := a.z) (b := b.z) (lo := 0) (hi := 20000) q1 q2 q3 ga.z0 gb.z0 ga.z1 gb.z1; have p := betw_bounds (a := a.p) (b := b.p) (lo := 1) (hi := 100) q1 q2 q3 ga.p0 gb.p0 ga.p1 gb.p1; have := ga.x0; have := ga.x1; have := gb.x0; have := gb.x1; have := ga.y0; have := ga.y1; have := gb.y0; have := gb.y1; refine ⟨x.1, x.2, y.1, y.2, z.1, z.2, ?_, ?_, ?_, ?_, p.1, p.2⟩ <;> (simp only [stOf]; omega)
theorem state_ok {l : List Fx} (g : GoodTr l) {k : Int} (h1 : (fxAt l 0).t <= k) (h2 : k < (fxAt l (l.length - 1)).t) : GoodSt (stAt l k) := by
 obtain ⟨i, a, b, c, d⟩ := seg_ex g.lo h1 h2; unfold stAt; rw [d]; exact state_of (g.pts _ (by omega)) (g.pts _ a) b c
def expoOf (T : Ty) (l : List Fx) (r : Pl) (c d : Int) : Int :=
 sumF (heardAt T l r) (max c (fxAt l 0).t) (min d (fxAt l (l.length - 1)).t - max c (fxAt l 0).t).toNat
variable {T : Ty}
end Go.Proofs.Bell
set_option autoImplicit false
set_option relaxedAutoImplicit false
namespace Go.Proofs.Bell
/-! What SourceTurned and SourceCut say, of numbers and lists alone: sectors of turned directions; greater powers and greater energies. -/
/-! ### Greater powers, greater energies -/
theorem ruleOk_of {a : Int} {prev l : List Int} (h1 : ∀ i, i < l.length -> prev.getD i 0 <= l.getD i 0) (h2 : ∀ i, i < l.length -> l.getD i 0 <= a) (h3 : ∀ i j, i <= j -> j < l.length -> l.getD j 0 <= l.getD i 0) : ruleOk a prev l = true := by
 induction l generalizing a prev with
 | nil => rfl
 | cons b l ih =>
   simp only [ruleOk, Bool.and_eq_true, decide_eq_true_eq]; refine ⟨⟨?_, ?_⟩, ih ?_ ?_ ?_⟩
   ·have := h1 0 (by simp)
    cases prev <;> simpa using this
   ·simpa using h2 0 (by simp)
   ·intro i hi; have := h1 (i + 1) (by simpa using hi)
    cases prev <;> simpa using this
   ·intro i hi; have := h3 0 (i + 1) (by omega) (by simpa using hi)
    simpa using this
   ·intro i j hij hj; have := h3 (i + 1) (j + 1) (by omega) (by simpa using hj)
    simpa using this
end Go.Proofs.Bell
set_option autoImplicit false
set_option relaxedAutoImplicit false
namespace Go.Proofs.Bell
/-! The reference of chapter 2 looks for the same numbers another way: it finds the same. -/
/-! ### Reaches -/
theorem asc_at {a : Int} {l : List Int} (h : asc a l = true) : (∀ i, i < l.length -> a < l.getD i 0) /\ ∀ i j, i < j -> j < l.length -> l.getD i 0 < l.getD j 0 := by
 induction l generalizing a with
 | nil => exact ⟨fun i hi => by simp at hi, fun i j _ hj => by simp at hj⟩
 | cons b l ih =>
   simp only [asc, Bool.and_eq_true, decide_eq_true_eq] at h; obtain ⟨c1, c2⟩ := ih h.2; refine ⟨?_, ?_⟩
   ·intro i hi
    cases i with
    | zero => simpa using h.1
    | succ i => have := c1 i (by simpa using hi); simp only [List.getD_cons_succ]; omega
   ·intro i j hij hj
    cases j with
    | zero => omega
    | succ j =>
      have hj' : j < l.length := by simpa using hj
      cases i with
      | zero => simpa using c1 j hj'
      | succ i => simpa using c2 i j (by omega) hj'
structure GoodSq (l : List Int) : Prop where
 some : 0 < l.length
 zero : l.getD 0 0 = 0
 up : ∀ i j, i < j -> j < l.length -> l.getD i 0 < l.getD j 0
theorem squares_of {l : List Int} (h : sqE l = 0) : GoodSq l := by
 unfold sqE at h; rw [thenE_zero, firstE_zero] at h; have a1 := cntE_zero.1 (h.1 (cntE l.length 8) (by simp))
 have a2 : l.headD 0 = 0 /\ asc (l.headD 0) l.tail = true := by
  have := h.2
  split at this
  ·assumption
  ·omega
 cases l with
 | nil => simp at a1
 | cons b l =>
   obtain ⟨c1, c2⟩ := asc_at a2.2; simp only [List.headD_cons, List.tail_cons] at a2 c1 c2; refine ⟨a1.1, by simpa using a2.1, ?_⟩; intro i j hij hj
   cases j with
   | zero => omega
   | succ j =>
     have hj' : j < l.length := by simpa using hj
     cases i with
     | zero => simpa using c1 j hj'
     | succ i => simpa using c2 i j (by omega) hj'
/-! ### Emissions -/
/-! ### Sectors -/
/-! ### Floors, ceilings, distances -/
/-! ### Segments -/
/-! ### Bands -/
end Go.Proofs.Bell
namespace Go.Proofs.YtmafmebcgmegeaaGreatDoor
open Go.RowKit
theorem srcFar_st (x : Int) (w : World) : Calls Tryz.prog 162 #[.int .i64 x] w fun e w' => e = .returned (.int .i64 (withinE x (-100000) 100000)) /\ w' = w := by
 go_enter Tryz.func162, Tryz.ntmps162
 go_wp2_with fail
 refine (within_any _ _ _ _).mono ?_; rintro e w' ⟨rfl, rfl⟩; go_wp2; go_ret; exact ⟨rfl, rfl⟩
theorem srcHeight_st (x : Int) (w : World) : Calls Tryz.prog 163 #[.int .i64 x] w fun e w' => e = .returned (.int .i64 (withinE x 0 20000)) /\ w' = w := by
 go_enter Tryz.func163, Tryz.ntmps163
 go_wp2_with fail
 refine (within_any _ _ _ _).mono ?_; rintro e w' ⟨rfl, rfl⟩; go_wp2; go_ret; exact ⟨rfl, rfl⟩
theorem srcPower_st (x : Int) (w : World) : Calls Tryz.prog 88 #[.int .i64 x] w fun e w' => e = .returned (.int .i64 (withinE x 1 100)) /\ w' = w := by
 go_enter Tryz.func88, Tryz.ntmps88
 go_wp2_with fail
 refine (within_any _ _ _ _).mono ?_; rintro e w' ⟨rfl, rfl⟩; go_wp2; go_ret; exact ⟨rfl, rfl⟩
theorem srcTick_st (x : Int) (w : World) : Calls Tryz.prog 128 #[.int .i64 x] w fun e w' => e = .returned (.int .i64 (withinE x 0 100000000)) /\ w' = w := by
 go_enter Tryz.func128, Tryz.ntmps128
 go_wp2_with fail
 refine (within_any _ _ _ _).mono ?_; rintro e w' ⟨rfl, rfl⟩; go_wp2; go_ret; exact ⟨rfl, rfl⟩
theorem srcFactor_st (x : Int) (w : World) : Calls Tryz.prog 112 #[.int .i64 x] w fun e w' => e = .returned (.int .i64 (withinE x 0 1000)) /\ w' = w := by
 go_enter Tryz.func112, Tryz.ntmps112
 go_wp2_with fail
 refine (within_any _ _ _ _).mono ?_; rintro e w' ⟨rfl, rfl⟩; go_wp2; go_ret; exact ⟨rfl, rfl⟩
theorem srcDirect_st (x : Int) (w : World) : Calls Tryz.prog 111 #[.int .i64 x] w fun e w' => e = .returned (.int .i64 (withinE x 0 2000)) /\ w' = w := by
 go_enter Tryz.func111, Tryz.ntmps111
 go_wp2_with fail
 refine (within_any _ _ _ _).mono ?_; rintro e w' ⟨rfl, rfl⟩; go_wp2; go_ret; exact ⟨rfl, rfl⟩
theorem srcSquare_st (x : Int) (w : World) : Calls Tryz.prog 89 #[.int .i64 x] w fun e w' => e = .returned (.int .i64 (withinE x 0 100000000000)) /\ w' = w := by
 go_enter Tryz.func89, Tryz.ntmps89
 go_wp2_with fail
 refine (within_any _ _ _ _).mono ?_; rintro e w' ⟨rfl, rfl⟩; go_wp2; go_ret; exact ⟨rfl, rfl⟩
theorem srcEmission_st (x : Int) (w : World) : Calls Tryz.prog 174 #[.int .i64 x] w fun e w' => e = .returned (.int .i64 (withinE x 0 100000000)) /\ w' = w := by
 go_enter Tryz.func174, Tryz.ntmps174
 go_wp2_with fail
 refine (within_any _ _ _ _).mono ?_; rintro e w' ⟨rfl, rfl⟩; go_wp2; go_ret; exact ⟨rfl, rfl⟩
theorem enters_srcFactor (args : Array Value) (W : World) : (callFunc 112 args).run Tryz.prog W = .ok (.enter 112 args) W := by kernel_rfl
theorem enters_srcDirect (args : Array Value) (W : World) : (callFunc 111 args).run Tryz.prog W = .ok (.enter 111 args) W := by kernel_rfl
theorem enters_srcSquare (args : Array Value) (W : World) : (callFunc 89 args).run Tryz.prog W = .ok (.enter 89 args) W := by kernel_rfl
theorem enters_srcEmission (args : Array Value) (W : World) : (callFunc 174 args).run Tryz.prog W = .ok (.enter 174 args) W := by kernel_rfl
def placeE (x y z : Int) : Int := firstE [withinE x (-100000) 100000, withinE y (-100000) 100000, withinE z 0 20000]
def dirE (x y : Int) : Int := firstE [withinE x (-200000) 200000, withinE y (-200000) 200000]
set_option maxHeartbeats 400000 in
set_option maxRecDepth 100000 in
theorem checkPlace_any (x y z : Int) (w : World) :
  Calls Tryz.prog 94 #[.agg #[.int .i64 x, .int .i64 y, .int .i64 z]] w fun e w' => e = .returned (.int .i64 (placeE x y z)) /\ Below w.heap.size w w' := by
 go_enter Tryz.func94, Tryz.ntmps94
 go_wp2_with fail
 refine wp_region_still_tail 9 (by kernel_rfl) (by kernel_rfl) ?_; simp only [List.take_succ_cons, List.take_zero, List.drop_succ_cons, List.drop_zero]
 change wpStill _ _ (World.drew _) _ _ _
 repeat still_step
 still_call (srcFar_st _ _)
 repeat still_step
 still_call (srcFar_st _ _)
 repeat still_step
 still_call (srcHeight_st _ _)
 repeat still_step
 refine wpStill_nil ?_
 change wpList _ _ _ _ _ (World.drew _)
 go_wp2_with fail
 refine (first3 _ _ (withinE x (-100000) 100000) (withinE y (-100000) 100000) (withinE z 0 20000) _ (by go_simp) (by go_simp) (by go_simp)).mono ?_; rintro e w1 ⟨rfl, rfl⟩; go_wp2; go_ret; exact ⟨rfl, (((Below.refl _ _).alloc (Nat.le_refl _) _).drew).alloc (by simp) _⟩
set_option maxHeartbeats 400000 in
set_option maxRecDepth 100000 in
theorem checkDirection_any (x y : Int) (w : World) :
  Calls Tryz.prog 91 #[.agg #[.int .i64 x, .int .i64 y]] w fun e w' => e = .returned (.int .i64 (dirE x y)) /\ Below w.heap.size w w' := by
 go_enter Tryz.func91, Tryz.ntmps91
 go_wp2_with fail
 refine wp_region_still_tail 6 (by kernel_rfl) (by kernel_rfl) ?_; simp only [List.take_succ_cons, List.take_zero, List.drop_succ_cons, List.drop_zero]
 change wpStill _ _ (World.drew _) _ _ _
 repeat still_step
 still_call (within_st _ _ _ _)
 repeat still_step
 still_call (within_st _ _ _ _)
 repeat still_step
 refine wpStill_nil ?_
 change wpList _ _ _ _ _ (World.drew _)
 go_wp2_with fail
 refine (first2 _ _ (withinE x (-200000) 200000) (withinE y (-200000) 200000) _ (by go_simp) (by go_simp)).mono ?_; rintro e w1 ⟨rfl, rfl⟩; go_wp2; go_ret; exact ⟨rfl, (((Below.refl _ _).alloc (Nat.le_refl _) _).drew).alloc (by simp) _⟩
def fixE (t x y z p : Int) : Int := firstE [withinE t 0 100000000, placeE x y z, withinE p 1 100]
/-! Arithmetic. -/
theorem floor_st (n d : Int) (w : World) (h1 : -9000000000000000000 <= n) (h2 : n <= 9000000000000000000) (h3 : 1 <= d) (h4 : d <= 1000000000) :
  Calls Tryz.prog 211 #[.int .i64 n, .int .i64 d] w fun e w' => e = .returned (.int .i64 (n / d)) /\ w' = w := by
 have hf := Bell.floor_is (n := n) (d := d) (by omega); have k1 : (n.tdiv d).natAbs <= n.natAbs := by rw [Int.natAbs_tdiv]; exact Nat.div_le_self _ _
 have k2 : (n.tmod d).natAbs < d.natAbs := by rw [Int.natAbs_tmod]; exact Nat.mod_lt _ (by omega)
 have q1 : -9000000000000000000 <= n.tdiv d := by omega
 have q2 : n.tdiv d <= 9000000000000000000 := by omega
 have q3 : -9000000000000000000 <= n.tmod d := by omega
 have q4 : n.tmod d <= 9000000000000000000 := by omega
 have HF := lh hf; clear hf k1 k2
 by_cases hneg : n.tmod d < 0
 ·have hs : Hid (n / d = n.tdiv d - 1) := by show _ = _; rw [<- HF.out, if_pos hneg]
  go_enter Tryz.func211, Tryz.ntmps211
  go_wp2
  go_ret
  exact ⟨ret_int hs.out.symm, rfl⟩
 ·have hs : Hid (n / d = n.tdiv d) := by show _ = _; rw [<- HF.out, if_neg hneg]
  go_enter Tryz.func211, Tryz.ntmps211
  go_wp2
  go_ret
  exact ⟨ret_int hs.out.symm, rfl⟩
end Go.Proofs.YtmafmebcgmegeaaGreatDoor
namespace Go.Proofs.YtmafmebcgmegeaaGreatDoor
open Go.RowKit Go.Sort
theorem mul_in {a b m n : Int} (h1 : -m <= a) (h2 : a <= m) (h3 : -n <= b) (h4 : b <= n) : -(m * n) <= a * b /\ a * b <= m * n := by
 have hm : 0 <= m := by omega
 have hn : 0 <= n := by omega
 have e1 : a.natAbs <= m.natAbs := by omega
 have e2 : b.natAbs <= n.natAbs := by omega
 have e3 : (a * b).natAbs <= (m * n).natAbs := by rw [Int.natAbs_mul, Int.natAbs_mul]; exact Nat.mul_le_mul e1 e2
 have e4 : 0 <= m * n := Int.mul_nonneg hm hn
 omega
theorem sq_in {a m : Int} (h1 : -m <= a) (h2 : a <= m) : 0 <= a * a /\ a * a <= m * m := by
 have h := mul_in h1 h2 h1 h2; refine ⟨?_, h.2⟩; rcases Int.le_total 0 a with h | h
 ·exact Int.mul_nonneg h h
 ·have := Int.mul_nonneg (show 0 <= -a by omega) (show 0 <= -a by omega); rw [Int.neg_mul_neg] at this; exact this
theorem minus_any (x y z a b c : Int) (w : World) (hx : -1000000 <= x /\ x <= 1000000) (hy : -1000000 <= y /\ y <= 1000000) (hz : -1000000 <= z /\ z <= 1000000) (ha : -1000000 <= a /\ a <= 1000000) (hb : -1000000 <= b /\ b <= 1000000) (hc : -1000000 <= c /\ c <= 1000000) :
  Calls Tryz.prog 164 #[.agg #[.int .i64 x, .int .i64 y, .int .i64 z], .agg #[.int .i64 a, .int .i64 b, .int .i64 c]] w fun e w' => e = .returned (.agg #[.int .i64 (x - a), .int .i64 (y - b), .int .i64 (z - c)]) /\ Below w.heap.size w w' := by
 obtain ⟨hx1, hx2⟩ := hx; obtain ⟨hy1, hy2⟩ := hy; obtain ⟨hz1, hz2⟩ := hz; obtain ⟨ha1, ha2⟩ := ha; obtain ⟨hb1, hb2⟩ := hb; obtain ⟨hc1, hc2⟩ := hc
 go_enter Tryz.func164, Tryz.ntmps164
 go_wp2
 (try simp only [Exit.inBlock, Exit.then])
 refine bodyPost_ret (v := .agg #[.int .i64 (x - a), .int .i64 (y - b), .int .i64 (z - c)]) (by simp [results, Tryz.results164, go_sem, asAddr]) rfl ?_; exact ⟨rfl, (((Below.refl _ _).alloc (Nat.le_refl _) _).alloc (by simp) _).alloc (by simp; omega) _⟩
theorem flat_any (x y z : Int) (w : World) :
  Calls Tryz.prog 166 #[.agg #[.int .i64 x, .int .i64 y, .int .i64 z]] w fun e w' => e = .returned (.agg #[.int .i64 x, .int .i64 y]) /\ Below w.heap.size w w' := by
 go_enter Tryz.func166, Tryz.ntmps166
 go_wp2
 (try simp only [Exit.inBlock, Exit.then])
 refine bodyPost_ret (v := .agg #[.int .i64 x, .int .i64 y]) (by simp [results, Tryz.results166, go_sem, asAddr]) rfl ?_; exact ⟨rfl, ((Below.refl _ _).alloc (Nat.le_refl _) _).alloc (by simp) _⟩
theorem levelSquare_any (x y z : Int) (w : World) (hx : -1000000 <= x /\ x <= 1000000) (hy : -1000000 <= y /\ y <= 1000000) :
  Calls Tryz.prog 167 #[.agg #[.int .i64 x, .int .i64 y, .int .i64 z]] w fun e w' => e = .returned (.int .i64 (x * x + y * y)) /\ Below w.heap.size w w' := by
 obtain ⟨a1, a2⟩ := sq_in hx.1 hx.2; obtain ⟨b1, b2⟩ := sq_in hy.1 hy.2
 go_enter Tryz.func167, Tryz.ntmps167
 go_wp2
 go_ret
 exact ⟨rfl, (Below.refl _ _).alloc (Nat.le_refl _) _⟩
set_option maxRecDepth 100000 in
theorem square_any (x y z : Int) (w : World) (hx : -1000000 <= x /\ x <= 1000000) (hy : -1000000 <= y /\ y <= 1000000) (hz : -1000000 <= z /\ z <= 1000000) :
  Calls Tryz.prog 165 #[.agg #[.int .i64 x, .int .i64 y, .int .i64 z]] w fun e w' => e = .returned (.int .i64 (x * x + y * y + z * z)) /\ Below w.heap.size w w' := by
 obtain ⟨a1, a2⟩ := sq_in hx.1 hx.2; obtain ⟨b1, b2⟩ := sq_in hy.1 hy.2; obtain ⟨c1, c2⟩ := sq_in hz.1 hz.2; have HX := lh hx; have HY := lh hy; have w1 : IntKind.i64.wrap (z * z) = z * z := IntWalk.i64_in _ (by omega); have w2 : IntKind.i64.wrap (x * x + y * y + z * z) = x * x + y * y + z * z := IntWalk.i64_in _ (by omega)
 go_enter Tryz.func165, Tryz.ntmps165
 go_wp2_with fail
 obtain ⟨w0, hw0⟩ : ∃ X, X = w.alloc (.cells #[.int .i64 x, .int .i64 y, .int .i64 z] 28) := ⟨_, rfl⟩; rw [<- hw0]; have B0 : Blk w0 w.heap.size 28 #[.int .i64 x, .int .i64 y, .int .i64 z] := by rw [hw0]; exact Blk.new w _ _
 have HB : Hid (Below w.heap.size w w0) := by rw [hw0]; exact (Below.refl _ w).alloc (Nat.le_refl _) _
 have bw : ∀ d os, Below w.heap.size w (grow (redrawn w0 d) os) := fun d os => HB.out.trans ((below_regrown w0 d os).mono HB.out.size)
 clear hw0; have c0 := fun d os => cell_regrown (B0.cell 0) d os
 have c1' := fun d os => cell_regrown (B0.cell 1) d os
 have c2' := fun d os => cell_regrown (B0.cell 2) d os
 have cL := fun d os => Calls.regrown_of (levelSquare_any x y z (grow (redrawn w0 d) os) HX.out HY.out)
 clear B0; refine wp_region_quiet_below (by kernel_rfl) (by kernel_rfl) ?_
 repeat (quiet_step (first | exact cL _ _))
 refine wpQuiet_nil ?_; intro _ hw'; obtain ⟨⟨dq, osq⟩, hw''⟩ := hw'; subst hw''; go_wp2; go_ret; exact ⟨rfl, bw dq osq⟩
theorem run_eqItems_i {P : Program} (w : World) (d : Nat) {e : TypeId} {k : IntKind} (he : P.underlying e = some (.int k)) (xs ys : Array Value) (a b : Nat -> Int) :
  ∀ (is : List Nat), (∀ i ∈ is, xs[i]? = some (.int k (a i)) /\ ys[i]? = some (.int k (b i))) -> (Op.eqItems (d + 1) e 1 xs ys is).run P w = .ok (is.all fun i => a i == b i) w
 | [], _ => by simp [Op.eqItems]
 | i :: is, h => by
   have h1 := h i (by simp); have ih := run_eqItems_i w d he xs ys a b is (fun j hj => h j (by simp [hj])); have hp : P.plainKey e = true := by simp [Program.plainKey, he]
   have p1 := run_part_plain (P := P) w hp h1.1; have p2 := run_part_plain (P := P) w hp h1.2; unfold Op.eqItems; simp only [Nat.mul_one, Sem.run_bind, p1, p2, Result.andThen_ok, Go.run_equalIn_int w d e k k _ _ he]
   cases hab : (a i == b i)
   ·simp [hab]
   ·simp only [Bool.not_true, Bool.false_eq_true, if_false]; rw [ih]
    simp [hab]
theorem eq_pair (a b c d : Int) (w : World) :
  (Op.equalIn 10000 253 (.agg #[.int .i64 a, .int .i64 b]) (.agg #[.int .i64 c, .int .i64 d])).run Tryz.prog w = .ok (a == c && b == d) w := by
 obtain ⟨i, hi⟩ : ∃ i, Tryz.prog.info? 3 = some i := Option.isSome_iff_exists.1 (by kernel_rfl); rw [run_equalIn_array w 9999 (n := 2) (e := 3) (i := i) _ _ (by kernel_rfl) hi]; rw [show Tryz.prog.cellsOf 3 = 1 by kernel_rfl]
 have h := run_eqItems_i (P := Tryz.prog) w 9998 (e := 3) (k := .i64) Tryz.underlying3 #[.int .i64 a, .int .i64 b] #[.int .i64 c, .int .i64 d] (fun j => if j = 0 then a else b) (fun j => if j = 0 then c else d) (List.range 2) (fun j hj => by
  have hj2 : j < 2 := List.mem_range.1 hj
  match j, hj2 with
  | 0, _ => exact ⟨rfl, rfl⟩
  | 1, _ => exact ⟨rfl, rfl⟩)
 rw [show ((List.range 2).all fun i => (if i = 0 then a else b) == (if i = 0 then c else d)) = (a == c && b == d) by simp [List.range_succ]] at h; exact h
attribute [local go_sem] eq_pair in
theorem ascending_any (a b : Int) (w : World) :
  Calls Tryz.prog 168 #[.agg #[.int .i64 a, .int .i64 b]] w fun e w' => e = .returned (.bool (decide (a <= b))) /\ Below w.heap.size w w' := by
 rcases Int.lt_trichotomy a b with h | h | h
 ·have hr : Hid (decide (a <= b) = true) := decide_eq_true (by omega)
  go_enter Tryz.func168, Tryz.ntmps168
  go_wp2
  go_ret
  exact ⟨ret_bool (by rw [hr.out]), (Below.refl _ _).alloc (Nat.le_refl _) _⟩
 ·subst h; have hr : Hid (decide (a <= a) = true) := decide_eq_true (by omega)
  go_enter Tryz.func168, Tryz.ntmps168
  go_wp2
  go_ret
  exact ⟨ret_bool (by rw [hr.out]), (Below.refl _ _).alloc (Nat.le_refl _) _⟩
 ·have hr : Hid (decide (a <= b) = false) := decide_eq_false (by omega)
  go_enter Tryz.func168, Tryz.ntmps168
  go_wp2
  go_ret
  exact ⟨ret_bool (by rw [hr.out]; simp; omega), (Below.refl _ _).alloc (Nat.le_refl _) _⟩
theorem near_in {lo hi m : Int} (h1 : -m <= lo) (h2 : lo <= m) (h3 : -m <= hi) (h4 : hi <= m) : -m <= Bell.nearOf lo hi /\ Bell.nearOf lo hi <= m := by unfold Bell.nearOf; omega
theorem far_in {lo hi m : Int} (h1 : -m <= lo) (h2 : lo <= m) (h3 : -m <= hi) (h4 : hi <= m) : -m <= Bell.farOf lo hi /\ Bell.farOf lo hi <= m := by unfold Bell.farOf; omega
def nearSq (a b : Int) : Int := Bell.nearOf (min a b) (max a b) * Bell.nearOf (min a b) (max a b)
def farSq (a b : Int) : Int := Bell.farOf (min a b) (max a b) * Bell.farOf (min a b) (max a b)
theorem nearSq_in {a b : Int} (h1 : -1000000 <= a) (h2 : a <= 1000000) (h3 : -1000000 <= b) (h4 : b <= 1000000) : 0 <= nearSq a b /\ nearSq a b <= 1000000 * 1000000 := by
 have h := near_in (lo := min a b) (hi := max a b) (m := 1000000) (by omega) (by omega) (by omega) (by omega); exact sq_in h.1 h.2
theorem farSq_in {a b : Int} (h1 : -1000000 <= a) (h2 : a <= 1000000) (h3 : -1000000 <= b) (h4 : b <= 1000000) : 0 <= farSq a b /\ farSq a b <= 1000000 * 1000000 := by
 have h := far_in (lo := min a b) (hi := max a b) (m := 1000000) (by omega) (by omega) (by omega) (by omega); exact sq_in h.1 h.2
theorem run_min2' (P : Program) (a b : Int) (ts : Array TypeId) (t : TypeId) (W : World) : (Builtin.min_ ts t #[.int .i64 a, .int .i64 b]).run P W = .ok (.int .i64 (min a b)) W := by
 rw [run_min_int2]; congr 2; split <;> omega
theorem run_max2' (P : Program) (a b : Int) (ts : Array TypeId) (t : TypeId) (W : World) : (Builtin.max_ ts t #[.int .i64 a, .int .i64 b]).run P W = .ok (.int .i64 (max a b)) W := by
 rw [run_max_int2]; congr 2; split <;> omega
theorem run_max3' (P : Program) (a b c : Int) (ts : Array TypeId) (t : TypeId) (W : World) : (Builtin.max_ ts t #[.int .i64 a, .int .i64 b, .int .i64 c]).run P W = .ok (.int .i64 (max (max a b) c)) W := by
 rw [run_max_int3]; congr 2; split <;> split <;> omega
theorem reaches_st (a b : Int) (w : World) (h1 : -1000000 <= a) (h2 : a <= 1000000) (h3 : -1000000 <= b) (h4 : b <= 1000000) :
  Calls Tryz.prog 215 #[.int .i64 a, .int .i64 b] w fun e w' => e = .returned (.agg #[.int .i64 (nearSq a b), .int .i64 (farSq a b)]) /\ Below w.heap.size w w' := by
 have n1 := nearSq_in h1 h2 h3 h4; have n2 := farSq_in h1 h2 h3 h4; obtain ⟨L, hL⟩ : ∃ L, L = min a b := ⟨_, rfl⟩; obtain ⟨M, hM⟩ : ∃ M, M = max a b := ⟨_, rfl⟩; have l1 : -1000000 <= L := by omega
 have l2 : L <= 1000000 := by omega
 have m1 : -1000000 <= M := by omega
 have m2 : M <= 1000000 := by omega
 obtain ⟨N, hN⟩ : ∃ N, N = Bell.nearOf L M := ⟨_, rfl⟩; obtain ⟨F, hF⟩ : ∃ F, F = Bell.farOf L M := ⟨_, rfl⟩; have q1 : Hid (nearSq a b = N * N) := by show _ = _; rw [hN, hL, hM]; rfl
 have q2 : Hid (farSq a b = F * F) := by show _ = _; rw [hF, hL, hM]; rfl
 rw [q1.out] at n1; rw [q2.out] at n2; obtain ⟨n1, n1'⟩ := n1; obtain ⟨n2, n2'⟩ := n2; have r1 : ∀ ts t W, (Builtin.min_ ts t #[.int .i64 a, .int .i64 b]).run Tryz.prog W = .ok (.int .i64 L) W := fun ts t W => by rw [hL]; exact run_min2' _ _ _ _ _ _
 have r2 : ∀ ts t W, (Builtin.max_ ts t #[.int .i64 a, .int .i64 b]).run Tryz.prog W = .ok (.int .i64 M) W := fun ts t W => by rw [hM]; exact run_max2' _ _ _ _ _ _
 have r3 : ∀ ts t W, (Builtin.max_ ts t #[.int .i64 L, .int .i64 (-M), .int .i64 0]).run Tryz.prog W = .ok (.int .i64 N) W := fun ts t W => by rw [hN]; exact run_max3' _ _ _ _ _ _ _
 have r4 : ∀ ts t W, (Builtin.max_ ts t #[.int .i64 (-L), .int .i64 M]).run Tryz.prog W = .ok (.int .i64 F) W := fun ts t W => by rw [hF]; exact run_max2' _ _ _ _ _ _
 clear hL hM hN hF h1 h2 h3 h4; rw [q1.out, q2.out]
 go_enter Tryz.func215, Tryz.ntmps215
 go_wp2
 (try simp only [Exit.inBlock, Exit.then])
 refine bodyPost_ret (v := .agg #[.int .i64 (N * N), .int .i64 (F * F)]) (by simp [results, Tryz.results215, go_sem, asAddr]) rfl ?_; exact ⟨rfl, (Below.refl _ _).alloc (Nat.le_refl _) _⟩
end Go.Proofs.YtmafmebcgmegeaaGreatDoor
namespace Go.Proofs.YtmafmebcgmegeaaGreatDoor
open Go.RowKit Go.Sort
set_option maxHeartbeats 4000000 in
theorem sector_any (hx hy x y : Int) (w : World) (h1 : -1000000 <= hx /\ hx <= 1000000) (h2 : -1000000 <= hy /\ hy <= 1000000) (h3 : -1000000 <= x /\ x <= 1000000) (h4 : -1000000 <= y /\ y <= 1000000) :
  Calls Tryz.prog 92 #[.agg #[.int .i64 hx, .int .i64 hy], .agg #[.int .i64 x, .int .i64 y]] w fun e w' => e = .returned (.int .i64 (Bell.sectorOf hx hy x y : Nat)) /\ Below w.heap.size w w' := by
 obtain ⟨a1, a2⟩ := mul_in h1.1 h1.2 h3.1 h3.2; obtain ⟨b1, b2⟩ := mul_in h2.1 h2.2 h4.1 h4.2; obtain ⟨c1, c2⟩ := mul_in h1.1 h1.2 h4.1 h4.2; obtain ⟨d1, d2⟩ := mul_in h2.1 h2.2 h3.1 h3.2; obtain ⟨u, hu⟩ : ∃ u, hx * x + hy * y = u := ⟨_, rfl⟩; obtain ⟨v, hv⟩ : ∃ v, hx * y - hy * x = v := ⟨_, rfl⟩; have u1 : -2000000000000 <= u /\ u <= 2000000000000 := by omega
 have v1 : -2000000000000 <= v /\ v <= 2000000000000 := by omega
 obtain ⟨u1, u2⟩ := u1; obtain ⟨v1, v2⟩ := v1; obtain ⟨S, hS⟩ : ∃ S, S = Bell.sectorOf hx hy x y := ⟨_, rfl⟩
 have hc : (S = 0 /\ v < u /\ 0 <= v) ∨ (S = 0 /\ u = 0 /\ v = 0) ∨ (S = 1 /\ u <= v /\ 0 < u) ∨ (S = 2 /\ u = 0 /\ 0 < v) ∨ (S = 2 /\ -u < v /\ u < 0) ∨ (S = 3 /\ v <= -u /\ 0 < v) ∨ (S = 4 /\ u < v /\ v <= 0) ∨ (S = 5 /\ v <= u /\ u < 0) ∨ (S = 6 /\ u = 0 /\ v < 0) ∨ (S = 6 /\ u < -v /\ 0 < u) ∨ (S = 7 /\ -v <= u /\ v < 0) := by
  rw [hS]; unfold Bell.sectorOf; simp only [hu, hv]; repeat' split
  all_goals (try (rename_i h; rcases h with h | h))
  all_goals (rcases Int.lt_trichotomy u 0 with hu0 | hu0 | hu0)
  all_goals (first | (exfalso; omega) | skip)
  all_goals (repeat (first | exact ⟨rfl, by omega, by omega⟩ | exact Or.inl ⟨rfl, by omega, by omega⟩ | refine Or.inr ?_))
 rw [<- hS]; clear hS h1 h2 h3 h4; have HC := lh hc; clear hc
 go_enter Tryz.func92, Tryz.ntmps92
 go_upto_region 3 with fail
 have HB : Hid (Below w.heap.size w ((w.alloc (.cells #[.int .i64 hx, .int .i64 hy] 30)).alloc (.cells #[.int .i64 x, .int .i64 y] 30))) := ((Below.refl _ _).alloc (Nat.le_refl _) _).alloc (by simp) _
 generalize (w.alloc (.cells #[.int .i64 hx, .int .i64 hy] 30)).alloc (.cells #[.int .i64 x, .int .i64 y] 30) = w1 at HB ⊢
 clear a1 a2 b1 b2 c1 c2 d1 d2 hu hv; have hc := HC.out; clear HC; rcases hc with ⟨rfl, p1, p2⟩ | ⟨rfl, p1, p2⟩ | ⟨rfl, p1, p2⟩ | ⟨rfl, p1, p2⟩ | ⟨rfl, p1, p2⟩ | ⟨rfl, p1, p2⟩ | ⟨rfl, p1, p2⟩ | ⟨rfl, p1, p2⟩ | ⟨rfl, p1, p2⟩ | ⟨rfl, p1, p2⟩ | ⟨rfl, p1, p2⟩
 all_goals
  go_wp2
  all_goals
   go_ret
   exact ⟨rfl, HB.out⟩
theorem betw_in {a b p w m : Int} (hw : 0 < w) (hp : 0 <= p) (hq : p <= w) (h1 : -m <= a) (h2 : a <= m) (h3 : -m <= b) (h4 : b <= m) : -m <= Bell.betw a b p w /\ Bell.betw a b p w <= m :=
 Bell.betw_bounds hw hp hq h1 h3 h2 h4
theorem between_st (a b p d : Int) (w : World) (h1 : -1000000000 <= a) (h2 : a <= 1000000000) (h3 : -1000000000 <= b) (h4 : b <= 1000000000) (hd : 0 < d) (hd2 : d <= 1000000000) (hp : 0 <= p) (hq : p <= d) :
  Calls Tryz.prog 161 #[.int .i64 a, .int .i64 b, .int .i64 p, .int .i64 d] w fun e w' => e = .returned (.int .i64 (Bell.betw a b p d)) /\ w' = w := by
 have hr := betw_in (m := 1000000000) hd hp hq h1 h2 h3 h4; obtain ⟨m1, m2⟩ := mul_in (a := b - a) (b := p) (m := 2000000000) (n := 1000000000) (by omega) (by omega) (by omega) (by omega); obtain ⟨q, hq2⟩ : ∃ q, q = (b - a) * p / d := ⟨_, rfl⟩; have hb : Bell.betw a b p d = a + q := by rw [hq2]; rfl
 rw [hb] at hr ⊢; obtain ⟨r1, r2⟩ := hr; have HQ := lh hq2; clear hq2 hb
 go_enter Tryz.func161, Tryz.ntmps161
 go_wp2_with fail
 refine (floor_st ((b - a) * p) d _ (by omega) (by omega) (by omega) (by omega)).mono ?_; rw [<- HQ.out]; rintro e w' ⟨rfl, rfl⟩; go_wp2; go_ret; exact ⟨rfl, rfl⟩
def Three (m : Int) (x y z : Int) : Prop := (-m <= x /\ x <= m) /\ (-m <= y /\ y <= m) /\ (-m <= z /\ z <= m)
end Go.Proofs.YtmafmebcgmegeaaGreatDoor
