import Derived.Test.YtnbionhahifacaaDoorIb3
set_option autoImplicit false
set_option relaxedAutoImplicit false
namespace Go.Proofs.Bell

/-! What SourceTurned and SourceCut say, of numbers and lists alone: sectors of turned directions; greater powers and greater energies. -/

/-- the sector by the product `u` along the heading and the product `v` to its left -/
def secOf (u v : Int) : Nat :=
  if (u > v ∧ v ≥ 0) ∨ (u = 0 ∧ v = 0) then 0
  else if v ≥ u ∧ u > 0 then 1
  else if v > -u ∧ -u ≥ 0 then 2
  else if -u ≥ v ∧ v > 0 then 3
  else if -u > -v ∧ -v ≥ 0 then 4
  else if -v ≥ -u ∧ -u > 0 then 5
  else if -v > u ∧ u ≥ 0 then 6
  else 7

theorem sector_is (hx hy x y : Int) : sectorOf hx hy x y = secOf (hx * x + hy * y) (hx * y - hy * x) := rfl

theorem sec_quarter {u v : Int} (h : u ≠ 0 ∨ v ≠ 0) : secOf (-v) u = (secOf u v + 2) % 8 := by
  unfold secOf
  repeat' split
  all_goals omega

theorem sec_eighth {u v : Int} (h : u ≠ 0 ∨ v ≠ 0) : secOf (u - v) (u + v) = (secOf u v + 1) % 8 := by
  unfold secOf
  repeat' split
  all_goals omega

theorem sec_long {u v : Int} : secOf (3 * u) (3 * v) = secOf u v := by
  unfold secOf
  repeat' split
  all_goals omega

theorem self_nonneg (x : Int) : 0 ≤ x * x := by
  rcases Int.le_total 0 x with h | h
  · exact Int.mul_nonneg h h
  · have : x * x = (-x) * (-x) := by grind
    rw [this]; exact Int.mul_nonneg (by omega) (by omega)

/-- a heading and a direction that are not 0, 0 have a product that is not 0 -/
theorem prod_some {hx hy x y : Int} (h : hx ≠ 0 ∨ hy ≠ 0) (d : x ≠ 0 ∨ y ≠ 0) : hx * x + hy * y ≠ 0 ∨ hx * y - hy * x ≠ 0 := by
  apply Classical.byContradiction
  intro hn
  have h1 : hx * x + hy * y = 0 := by
    apply Classical.byContradiction; intro q; exact hn (.inl q)
  have h2 : hx * y - hy * x = 0 := by
    apply Classical.byContradiction; intro q; exact hn (.inr q)
  have e1 : hx * (x * x + y * y) = 0 := by
    have : hx * (x * x + y * y) = x * (hx * x + hy * y) + y * (hx * y - hy * x) := by grind
    rw [this, h1, h2]; simp
  have e2 : hy * (x * x + y * y) = 0 := by
    have : hy * (x * x + y * y) = y * (hx * x + hy * y) - x * (hx * y - hy * x) := by grind
    rw [this, h1, h2]; simp
  have hs : x * x + y * y ≠ 0 := by
    intro q
    have a := self_nonneg x
    have b := self_nonneg y
    rcases d with d | d
    · exact d (by have : x * x = 0 := by omega
                  rcases Int.mul_eq_zero.1 this with t | t <;> exact t)
    · exact d (by have : y * y = 0 := by omega
                  rcases Int.mul_eq_zero.1 this with t | t <;> exact t)
  rcases h with h | h
  · rcases Int.mul_eq_zero.1 e1 with t | t
    · exact h t
    · exact hs t
  · rcases Int.mul_eq_zero.1 e2 with t | t
    · exact h t
    · exact hs t

theorem sector_both (hx hy x y : Int) : sectorOf (-hy) hx (-y) x = sectorOf hx hy x y := by
  rw [sector_is, sector_is]
  congr 1 <;> grind

theorem sector_quarter {hx hy x y : Int} (h : hx ≠ 0 ∨ hy ≠ 0) (d : x ≠ 0 ∨ y ≠ 0) : sectorOf hx hy (-y) x = (sectorOf hx hy x y + 2) % 8 := by
  rw [sector_is, sector_is, ← sec_quarter (prod_some h d)]
  congr 1 <;> grind

theorem sector_eighth {hx hy x y : Int} (h : hx ≠ 0 ∨ hy ≠ 0) (d : x ≠ 0 ∨ y ≠ 0) : sectorOf hx hy (x - y) (x + y) = (sectorOf hx hy x y + 1) % 8 := by
  rw [sector_is, sector_is, ← sec_eighth (prod_some h d)]
  congr 1 <;> grind

theorem sector_long (hx hy x y : Int) : sectorOf hx hy (3 * x) (3 * y) = sectorOf hx hy x y := by
  rw [sector_is, sector_is, ← sec_long (u := hx * x + hy * y) (v := hx * y - hy * x)]
  congr 1 <;> grind

/-- a state that is turned by a quarter with its receiver is heard alike -/
theorem heard_turned (T : Ty) (s : St) (dx dy z : Int) :
    heardOf T { s with hx := -s.hy, hy := s.hx } ⟨s.x - dy, s.y + dx, z⟩ = heardOf T s ⟨s.x + dx, s.y + dy, z⟩ := by
  have a1 : s.x - dy - s.x = -dy := by omega
  have a2 : s.y + dx - s.y = dx := by omega
  have a3 : s.x + dx - s.x = dx := by omega
  have a4 : s.y + dy - s.y = dy := by omega
  have q : -dy * -dy + dx * dx = dx * dx + dy * dy := by grind
  unfold heardOf steepOf energyOf sqOf
  simp only [a1, a2, a3, a4, sector_both, q]

/-! ### Greater powers, greater energies -/

theorem heard_mono {T U : Ty} (gT : GoodTy T) {s s' : St} {r : Pl} (h : { s with p := s'.p } = s')
    (hd : U.direct = T.direct) (hs : U.side = T.side)
    (he : emis T.sets (reachOf T.squares (sqOf (r.x - s.x) (r.y - s.y) (r.z - s.z))) s.p ≤ emis U.sets (reachOf U.squares (sqOf (r.x - s.x) (r.y - s.y) (r.z - s.z))) s'.p) :
    heardOf T s r ≤ heardOf U s' r := by
  have d := (gT.dir _ (sector_lt s.hx s.hy (r.x - s.x) (r.y - s.y))).1
  have hen : energyOf T s r ≤ energyOf U s' r := by
    rw [← h]
    unfold energyOf
    simp only
    rw [hd]
    exact Int.mul_le_mul_of_nonneg_right he d
  have hst : steepOf s' r ↔ steepOf s r := by rw [← h]; exact Iff.rfl
  unfold heardOf
  by_cases q : steepOf s r
  · rw [if_pos q, if_pos (hst.2 q)]
    exact Int.ediv_le_ediv (by decide) hen
  · rw [if_neg q, if_neg (fun t => q (hst.1 t)), hs]
    exact Int.ediv_le_ediv (by decide) (Int.mul_le_mul_of_nonneg_right hen gT.side0)

theorem sumF_mono {f g : Int → Int} {a : Int} {n : Nat} (h : ∀ i : Nat, i < n → f (a + i) ≤ g (a + i)) : sumF f a n ≤ sumF g a n := by
  induction n with
  | zero => exact Int.le_refl _
  | succ n ih => simp only [sumF]; have := ih (fun i hi => h i (by omega)); have := h n (by omega); omega

/-- the powers raised by `c`, at most to 100 -/
def strong (c : Int) (l : List Fx) : List Fx := l.map (fun a => { a with p := min 100 (a.p + c) })

theorem strong_at (c : Int) {l : List Fx} {i : Nat} (hi : i < l.length) : fxAt (strong c l) i = { fxAt l i with p := min 100 ((fxAt l i).p + c) } := by
  rw [fxAt_get hi, fxAt_get (by simpa [strong] using hi)]
  simp [strong]

theorem strong_len (c : Int) (l : List Fx) : (strong c l).length = l.length := by simp [strong]

theorem ptsE_strong {c : Int} (hc : 0 ≤ c) {b : Int} {l : List Fx} (h : ptsE b l = 0) : ptsE b (strong c l) = 0 := by
  induction l generalizing b with
  | nil => rfl
  | cons a l ih =>
    simp only [ptsE] at h
    rw [thenE_zero, firstE_zero] at h
    simp only [strong, List.map_cons, ptsE]
    rw [thenE_zero, firstE_zero]
    refine ⟨?_, ih h.2⟩
    intro e he
    have g := fxE_zero (h.1 (fxE a) (by simp))
    have o := h.1 (if a.t ≤ b then 11 else 0) (by simp)
    simp only [List.mem_cons, List.not_mem_nil, or_false] at he
    rcases he with he | he
    · subst he
      unfold fxE plE
      rw [firstE_zero]
      have := g.t0; have := g.t1; have := g.p0; have := g.p1
      intro e he
      simp only [List.mem_cons, List.not_mem_nil, or_false] at he
      rcases he with he | he | he
      · subst he; rw [inR_zero]; omega
      · subst he
        rw [firstE_zero]
        intro e he
        simp only [List.mem_cons, List.not_mem_nil, or_false] at he
        rcases he with he | he | he <;> (subst he; rw [inR_zero])
        · exact ⟨g.x0, g.x1⟩
        · exact ⟨g.y0, g.y1⟩
        · exact ⟨g.z0, g.z1⟩
      · subst he; rw [inR_zero]; omega
    · subst he; exact o

theorem trE_strong {c : Int} (hc : 0 ≤ c) {l : List Fx} (h : trE l = 0) : trE (strong c l) = 0 := by
  have g := track_of h
  unfold trE at h ⊢
  rw [thenE_zero, thenE_zero] at h ⊢
  have := g.lo
  refine ⟨by rw [strong_len]; exact h.1, ptsE_strong hc h.2.1, ?_⟩
  rw [strong_len, strong_at c (by omega), strong_at c (by omega)]
  exact h.2.2

theorem strong_heard {T : Ty} (gT : GoodTy T) {c : Int} (hc : 0 ≤ c) {l : List Fx} (g : GoodTr l) (r : Pl) {k : Int} (h1 : (fxAt l 0).t ≤ k) (h2 : k < (fxAt l (l.length - 1)).t) :
    heardAt T l r k ≤ heardAt T (strong c l) r k := by
  obtain ⟨i, a1, a2, a3, a4⟩ := seg_ex g.lo h1 h2
  have hs : segIx (strong c l) k = i := by
    refine seg_is ?_ (by rw [strong_len]; exact a1) ?_ ?_
    · intro p q hpq hq
      rw [strong_len] at hq
      rw [strong_at c (by omega), strong_at c hq]
      exact g.up p q hpq hq
    · rw [strong_at c (by omega)]; exact a2
    · rw [strong_at c a1]; exact a3
  have ga := g.pts i (by omega)
  have gb := g.pts (i + 1) a1
  obtain ⟨q1, q2, q3⟩ := part_ok a2 a3
  unfold heardAt stAt
  rw [hs, a4, strong_at c (by omega), strong_at c a1]
  refine heard_mono gT rfl rfl rfl ?_
  apply emis_power gT.sets (reach_lt gT.sq)
  simp only [stOf]
  have := ga.p1; have := gb.p1
  exact betw_mono q1 q2 q3 (by omega) (by omega)

/-- the energies raised by `c`, at most to 100000000 -/
def loud (c : Int) (s : Sets) : Sets := s.map (fun a => (a.1, a.2.map (fun e => min 100000000 (e + c))))

theorem loud_len (c : Int) (s : Sets) : (loud c s).length = s.length := by simp [loud]

theorem loud_pow (c : Int) (s : Sets) (i : Nat) : ePow (loud c s) i = ePow s i := by
  unfold ePow loud
  rw [List.getD_eq_getElem?_getD, List.getD_eq_getElem?_getD, List.getElem?_map]
  cases s[i]? <;> rfl

theorem loud_next (c : Int) (s : Sets) (p : Int) : nextOf (loud c s) p = nextOf s p := by
  unfold nextOf loud
  rw [List.findIdx_map]
  rfl

theorem loud_at (c : Int) {s : Sets} {i r : Nat} (hi : i < s.length) (hr : r < ((s.getD i (0, [])).2).length) : eAt (loud c s) i r = min 100000000 (eAt s i r + c) := by
  unfold eAt loud at *
  rw [List.getD_eq_getElem?_getD, List.getElem?_eq_getElem hi] at hr
  simp only [Option.getD_some] at hr
  simp [List.getD_eq_getElem?_getD, List.getElem?_eq_getElem hi, List.getElem?_eq_getElem hr]

theorem loud_emis {s : Sets} {m : Nat} (g : GoodSets s m) (hm : ∀ i, i < s.length → ((s.getD i (0, [])).2).length = m) {c : Int} (hc : 0 ≤ c) {r : Nat} (hr : r < m) (p : Int) :
    emis s r p ≤ emis (loud c s) r p := by
  have h0 := g.some
  have hn := next_le s p
  have le : ∀ i, i < s.length → eAt s i r ≤ eAt (loud c s) i r := by
    intro i hi
    rw [loud_at c hi (by rw [hm i hi]; exact hr)]
    have := g.hi i r hi hr
    omega
  unfold emis
  rw [loud_next, loud_len]
  split
  · exact le _ (by omega)
  · split
    · exact le _ (by omega)
    · rename_i h1 h2
      have h3 : nextOf s p < s.length := by omega
      have h4 := next_at h3
      have h5 := next_before (s := s) (p := p) (i := nextOf s p - 1) (by omega)
      rw [loud_pow, loud_pow]
      exact betw_mono (by omega) (by omega) (by omega) (le _ (by omega)) (le _ h3)

theorem ruleOk_of {a : Int} {prev l : List Int} (h1 : ∀ i, i < l.length → prev.getD i 0 ≤ l.getD i 0) (h2 : ∀ i, i < l.length → l.getD i 0 ≤ a) (h3 : ∀ i j, i ≤ j → j < l.length → l.getD j 0 ≤ l.getD i 0) : ruleOk a prev l = true := by
  induction l generalizing a prev with
  | nil => rfl
  | cons b l ih =>
    simp only [ruleOk, Bool.and_eq_true, decide_eq_true_eq]
    refine ⟨⟨?_, ?_⟩, ih ?_ ?_ ?_⟩
    · have := h1 0 (by simp)
      cases prev <;> simpa using this
    · simpa using h2 0 (by simp)
    · intro i hi
      have := h1 (i + 1) (by simpa using hi)
      cases prev <;> simpa using this
    · intro i hi
      have := h3 0 (i + 1) (by omega) (by simpa using hi)
      simpa using this
    · intro i j hij hj
      have := h3 (i + 1) (j + 1) (by omega) (by simpa using hj)
      simpa using this

theorem setE_of {m : Nat} {bp : Int} {be : List Int} {s : Int × List Int} (h1 : 1 ≤ s.1 ∧ s.1 ≤ 100) (h2 : bp < s.1) (h3 : s.2.length = m) (h4 : ∀ x, x ∈ s.2 → 0 ≤ x ∧ x ≤ 100000000) (h5 : ruleOk (s.2.headD 0) be s.2 = true) : setE m bp be s = 0 := by
  unfold setE
  rw [thenE_zero, firstE_zero]
  refine ⟨?_, by rw [if_pos h5]⟩
  intro e he
  simp only [List.mem_cons, List.not_mem_nil, or_false] at he
  rcases he with he | he | he | he
  · subst he; exact inR_zero.2 h1
  · subst he; rw [if_neg (by omega)]
  · subst he; rw [if_pos h3]
  · subst he; exact eachE_zero.2 (fun x hx => inR_zero.2 (h4 x hx))

theorem map_getD (f : Int → Int) {l : List Int} {i : Nat} (h : i < l.length) : (l.map f).getD i 0 = f (l.getD i 0) := by
  simp [List.getD_eq_getElem?_getD, List.getElem?_eq_getElem h]

theorem setsE_loud {c : Int} (hc : 0 ≤ c) {m : Nat} {bp : Int} {be be' : List Int} {s : Sets} (hb : ∀ i, i < m → be'.getD i 0 ≤ min 100000000 (be.getD i 0 + c)) (h : setsE m bp be s = 0) : setsE m bp be' (loud c s) = 0 := by
  induction s generalizing bp be be' with
  | nil => rfl
  | cons a s ih =>
    simp only [setsE] at h
    rw [thenE_zero] at h
    obtain ⟨b1, b2, b3, b4, b5⟩ := setE_zero h.1
    obtain ⟨d1, d2, d3⟩ := ruleOk_at b5
    simp only [loud, List.map_cons, setsE]
    rw [thenE_zero]
    refine ⟨setE_of b1 b2 (by simpa using b3) ?_ (ruleOk_of ?_ ?_ ?_), ih ?_ h.2⟩
    · intro x hx
      simp only [List.mem_map] at hx
      obtain ⟨y, hy, rfl⟩ := hx
      have := b4 y hy
      omega
    · intro i hi
      have hi : i < a.2.length := by simpa using hi
      rw [map_getD _ hi]
      have := hb i (by omega)
      have := d1 i hi
      omega
    · intro i hi
      have hi : i < a.2.length := by simpa using hi
      have e : (a.2.map fun e => min 100000000 (e + c)).headD 0 = (a.2.map fun e => min 100000000 (e + c)).getD 0 0 := by
        cases a.2 <;> rfl
      rw [map_getD _ hi, e, map_getD _ (by omega)]
      have := d3 0 i (by omega) hi
      omega
    · intro i j hij hj
      have hj : j < a.2.length := by simpa using hj
      rw [map_getD _ hj, map_getD _ (by omega)]
      have := d3 i j hij hj
      omega
    · intro i hi
      show (a.2.map fun e => min 100000000 (e + c)).getD i 0 ≤ _
      rw [map_getD _ (by omega)]
      exact Int.le_refl _

theorem tyE_loud {c : Int} (hc : 0 ≤ c) {name : Int} {shares : List Int} {T : Ty} (h : tyE name shares T = 0) : tyE name shares { T with sets := loud c T.sets } = 0 := by
  unfold tyE at h ⊢
  rw [thenE_zero] at h ⊢
  refine ⟨?_, setsE_loud hc (be := List.replicate T.squares.length 0) ?_ h.2⟩
  · simp only [loud_len]; exact h.1
  · intro i _
    simp only [List.getD_eq_getElem?_getD]
    cases hq : (List.replicate T.squares.length (0 : Int))[i]? with
    | none => simp only [Option.getD_none]; omega
    | some x =>
      have : x = 0 := by
        have := List.mem_of_getElem? hq
        exact (List.mem_replicate.1 this).2
      subst this; simp only [Option.getD_some]; omega

/-- the settings' rows have as many energies as there are squares -/
theorem rows_of {name : Int} {shares : List Int} {T : Ty} (h : tyE name shares T = 0) : ∀ i, i < T.sets.length → ((T.sets.getD i (0, [])).2).length = T.squares.length := by
  unfold tyE at h
  rw [thenE_zero] at h
  exact (setsE_zero h.2).2.1

theorem loud_heard {name : Int} {shares : List Int} {T : Ty} (hl : T.direct.length = 8) (h : tyE name shares T = 0) {c : Int} (hc : 0 ≤ c) (l : List Fx) (r : Pl) (k : Int) :
    heardAt T l r k ≤ heardAt { T with sets := loud c T.sets } l r k := by
  have g := good_of hl h
  unfold heardAt
  refine heard_mono g rfl rfl rfl ?_
  exact loud_emis g.sets (rows_of h) hc (reach_lt g.sq) _

end Go.Proofs.Bell
