/- Texts Ib9 of the proof. -/
import Derived.Test.YtmafmebcgmegeaaGreatDoorW7
set_option autoImplicit false
set_option relaxedAutoImplicit false
namespace Go.Proofs.Bell
/-! What makes a type without a fault: the way back from its parts. -/
theorem shE_mk {l : List Int} (h1 : 0 < l.length ∧ l.length ≤ 8) (h2 : ∀ x, x ∈ l → 0 ≤ x ∧ x ≤ 1000) (h3 : l.sum = 1000) : shE l = 0 := by
  unfold shE
  rw [thenE_zero, firstE_zero, if_pos h3]
  refine ⟨fun e he => ?_, rfl⟩
  simp only [List.mem_cons, List.not_mem_nil, or_false] at he
  rcases he with rfl | rfl
  · exact cntE_zero.2 h1
  · exact eachE_zero.2 fun x hx => inR_zero.2 (h2 x hx)
theorem asc_mk {l : List Int} : ∀ {a : Int}, (∀ x, l.head? = some x → a < x) → (∀ i, i + 1 < l.length → l.getD i 0 < l.getD (i + 1) 0) → asc a l = true := by
  induction l with
  | nil => intro a _ _; rfl
  | cons b l ih =>
    intro a h0 h1
    simp only [asc, Bool.and_eq_true]
    refine ⟨decide_eq_true (h0 b rfl), ih (fun x hx => ?_) (fun i hi => by have := h1 (i + 1) (by simpa using hi); simpa using this)⟩
    cases l with
    | nil => simp at hx
    | cons c l => have := h1 0 (by simp); simp at hx; subst hx; simpa using this
theorem sqE_mk {l : List Int} (h1 : 0 < l.length ∧ l.length ≤ 8) (h2 : ∀ x, x ∈ l → 0 ≤ x ∧ x ≤ 100000000000) (h3 : l.getD 0 0 = 0) (h4 : ∀ i, i + 1 < l.length → l.getD i 0 < l.getD (i + 1) 0) : sqE l = 0 := by
  unfold sqE
  rw [thenE_zero, firstE_zero]
  refine ⟨fun e he => ?_, ?_⟩
  · simp only [List.mem_cons, List.not_mem_nil, or_false] at he
    rcases he with rfl | rfl
    · exact cntE_zero.2 h1
    · exact eachE_zero.2 fun x hx => inR_zero.2 (h2 x hx)
  · rw [if_pos]
    cases l with
    | nil => simp at h1
    | cons a l =>
      refine ⟨by simpa using h3, asc_mk (fun x hx => ?_) (fun i hi => by have := h4 (i + 1) (by simpa using hi); simpa using this)⟩
      cases l with
      | nil => simp at hx
      | cons c l => have := h4 0 (by simp); simp at hx; subst hx; simpa using this
theorem ruleOk_mk {l : List Int} : ∀ {a : Int} {prev : List Int}, (∀ i, i < l.length → prev.getD i 0 ≤ l.getD i 0) → (∀ x, l.head? = some x → x ≤ a) → (∀ i, i + 1 < l.length → l.getD (i + 1) 0 ≤ l.getD i 0) → ruleOk a prev l = true := by
  induction l with
  | nil => intro a prev _ _ _; rfl
  | cons b l ih =>
    intro a prev h0 h1 h2
    simp only [ruleOk, Bool.and_eq_true]
    refine ⟨⟨decide_eq_true ?_, decide_eq_true (h1 b rfl)⟩, ih (fun i hi => ?_) (fun x hx => ?_) (fun i hi => by have := h2 (i + 1) (by simpa using hi); simpa using this)⟩
    · have := h0 0 (by simp); cases prev <;> simpa using this
    · have := h0 (i + 1) (by simpa using hi)
      cases prev <;> simpa using this
    · cases l with
      | nil => simp at hx
      | cons c l => have := h2 0 (by simp); simp at hx; subst hx; simpa using this
theorem setE_mk {m : Nat} {bp : Int} {be : List Int} {s : Int × List Int} (h1 : 1 ≤ s.1 ∧ s.1 ≤ 100) (h2 : bp < s.1) (h3 : s.2.length = m) (h4 : ∀ x, x ∈ s.2 → 0 ≤ x ∧ x ≤ 100000000)
    (h5 : ∀ i, i < m → be.getD i 0 ≤ s.2.getD i 0) (h6 : ∀ i, 0 < i → i < m → s.2.getD i 0 ≤ s.2.getD (i - 1) 0) : setE m bp be s = 0 := by
  unfold setE
  rw [thenE_zero, firstE_zero]
  refine ⟨fun e he => ?_, ?_⟩
  · simp only [List.mem_cons, List.not_mem_nil, or_false] at he
    rcases he with rfl | rfl | rfl | rfl
    · exact inR_zero.2 h1
    · rw [if_neg (by omega)]
    · rw [if_pos h3]
    · exact eachE_zero.2 fun x hx => inR_zero.2 (h4 x hx)
  · rw [if_pos]
    refine ruleOk_mk (fun i hi => h5 i (by omega)) (fun x hx => ?_) (fun i hi => by have := h6 (i + 1) (by omega) (by omega); simpa using this)
    cases hs : s.2 with
    | nil => rw [hs] at hx; simp at hx
    | cons c l => rw [hs] at hx; simp at hx; simp [hx]
/-- What the reference's check finds of the setting with an index. -/
structure SetOk (m : Nat) (s : Sets) (k : Nat) : Prop where
  len : ((s.getD k (0, [])).2).length = m
  pow : 1 ≤ ePow s k ∧ ePow s k ≤ 100
  up : 0 < k → ePow s (k - 1) < ePow s k
  rng : ∀ x, x ∈ (s.getD k (0, [])).2 → 0 ≤ x ∧ x ≤ 100000000
  down : ∀ i, 0 < i → i < m → ((s.getD k (0, [])).2).getD i 0 ≤ ((s.getD k (0, [])).2).getD (i - 1) 0
  ord : 0 < k → ∀ i, i < m → ((s.getD (k - 1) (0, [])).2).getD i 0 ≤ ((s.getD k (0, [])).2).getD i 0
theorem setsE_mk {m : Nat} {s : Sets} : ∀ {bp : Int} {be : List Int}, (∀ k, k < s.length → setE m (if k = 0 then bp else ePow s (k - 1)) (if k = 0 then be else (s.getD (k - 1) (0, [])).2) (s.getD k (0, [])) = 0) → setsE m bp be s = 0 := by
  induction s with
  | nil => intro bp be _; rfl
  | cons a s ih =>
    intro bp be h
    simp only [setsE]
    rw [thenE_zero]
    refine ⟨by simpa using h 0 (by simp), ih (fun k hk => ?_)⟩
    have h1 := h (k + 1) (by simpa using hk)
    cases k with
    | zero => simpa [ePow] using h1
    | succ k => simpa [ePow] using h1
theorem sets_mk {m : Nat} {s : Sets} (h : ∀ k, k < s.length → SetOk m s k) : setsE m 0 (List.replicate m 0) s = 0 := by
  refine setsE_mk fun k hk => ?_
  have g := h k hk
  by_cases h0 : k = 0
  · subst h0
    rw [if_pos rfl, if_pos rfl]
    refine setE_mk g.pow (by have := g.pow.1; unfold ePow at this; omega) g.len g.rng (fun i hi => ?_) g.down
    have e : (List.replicate m (0 : Int)).getD i 0 = 0 := by simp [List.getD_eq_getElem?_getD, List.getElem?_replicate, hi]
    rw [e]
    exact (g.rng _ (getD_mem (by rw [g.len]; exact hi))).1
  · rw [if_neg h0, if_neg h0]
    exact setE_mk g.pow (g.up (by omega)) g.len g.rng (g.ord (by omega)) g.down
theorem tyE_mk {sh : List Int} {T : Ty} (h1 : shE sh = 0) (h2 : ∀ x, x ∈ T.direct → 0 ≤ x ∧ x ≤ 2000) (h3 : 0 ≤ T.side ∧ T.side ≤ 1000) (h4 : sqE T.squares = 0) (h5 : 0 < T.sets.length ∧ T.sets.length ≤ 6)
    (h6 : ∀ k, k < T.sets.length → SetOk T.squares.length T.sets k) : tyE 0 sh T = 0 := by
  unfold tyE
  rw [thenE_zero, firstE_zero]
  refine ⟨fun e he => ?_, sets_mk h6⟩
  simp only [List.mem_cons, List.not_mem_nil, or_false] at he
  rcases he with rfl | rfl | rfl | rfl | rfl | rfl
  · rfl
  · exact h1
  · exact eachE_zero.2 fun x hx => inR_zero.2 (h2 x hx)
  · exact inR_zero.2 h3
  · exact h4
  · exact cntE_zero.2 h5
end Go.Proofs.Bell
