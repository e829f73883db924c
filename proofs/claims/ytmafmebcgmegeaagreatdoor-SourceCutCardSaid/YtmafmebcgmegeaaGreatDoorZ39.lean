/- Texts Ib9 Iu of the proof. -/
import Derived.Test.YtmafmebcgmegeaaGreatDoorZ6
import Derived.Test.YtmafmebcgmegeaaGreatDoorZ20
import Derived.Test.YtmafmebcgmegeaaGreatDoorZ3
set_option autoImplicit false
set_option relaxedAutoImplicit false
namespace Go.Proofs.Bell
/-! What makes a type without a fault: the way back from its parts. -/
theorem shE_mk {l : List Int} (h1 : 0 < l.length ∧ l.length ≤ 8) (h2 : ∀ x, x ∈ l → 0 ≤ x ∧ x ≤ 1000) (h3 : l.sum = 1000) : shE l = 0 := by
  unfold shE
  rw [thenE_zero, firstE_zero, if_pos h3]
  refine ⟨fun e he => ?_, rfl⟩
  simp only [List.mem_cons, List.not_mem_nil, or_false] at he
  rcases he with rfl | rfl
  · exact cntE_zero.2 h1
  · exact eachE_zero.2 fun x hx => inR_zero.2 (h2 x hx)
theorem asc_mk {l : List Int} : ∀ {a : Int}, (∀ x, l.head? = some x → a < x) → (∀ i, i + 1 < l.length → l.getD i 0 < l.getD (i + 1) 0) → asc a l = true := by
  induction l with
  | nil => intro a _ _; rfl
  | cons b l ih =>
    intro a h0 h1
    simp only [asc, Bool.and_eq_true]
    refine ⟨decide_eq_true (h0 b rfl), ih (fun x hx => ?_) (fun i hi => by have := h1 (i + 1) (by simpa using hi); simpa using this)⟩
    cases l with
    | nil => simp at hx
    | cons c l => have := h1 0 (by simp); simp at hx; subst hx; simpa using this
theorem sqE_mk {l : List Int} (h1 : 0 < l.length ∧ l.length ≤ 8) (h2 : ∀ x, x ∈ l → 0 ≤ x ∧ x ≤ 100000000000) (h3 : l.getD 0 0 = 0) (h4 : ∀ i, i + 1 < l.length → l.getD i 0 < l.getD (i + 1) 0) : sqE l = 0 := by
  unfold sqE
  rw [thenE_zero, firstE_zero]
  refine ⟨fun e he => ?_, ?_⟩
  · simp only [List.mem_cons, List.not_mem_nil, or_false] at he
    rcases he with rfl | rfl
    · exact cntE_zero.2 h1
    · exact eachE_zero.2 fun x hx => inR_zero.2 (h2 x hx)
  · rw [if_pos]
    cases l with
    | nil => simp at h1
    | cons a l =>
      refine ⟨by simpa using h3, asc_mk (fun x hx => ?_) (fun i hi => by have := h4 (i + 1) (by simpa using hi); simpa using this)⟩
      cases l with
      | nil => simp at hx
      | cons c l => have := h4 0 (by simp); simp at hx; subst hx; simpa using this
theorem ruleOk_mk {l : List Int} : ∀ {a : Int} {prev : List Int}, (∀ i, i < l.length → prev.getD i 0 ≤ l.getD i 0) → (∀ x, l.head? = some x → x ≤ a) → (∀ i, i + 1 < l.length → l.getD (i + 1) 0 ≤ l.getD i 0) → ruleOk a prev l = true := by
  induction l with
  | nil => intro a prev _ _ _; rfl
  | cons b l ih =>
    intro a prev h0 h1 h2
    simp only [ruleOk, Bool.and_eq_true]
    refine ⟨⟨decide_eq_true ?_, decide_eq_true (h1 b rfl)⟩, ih (fun i hi => ?_) (fun x hx => ?_) (fun i hi => by have := h2 (i + 1) (by simpa using hi); simpa using this)⟩
    · have := h0 0 (by simp); cases prev <;> simpa using this
    · have := h0 (i + 1) (by simpa using hi)
      cases prev <;> simpa using this
    · cases l with
      | nil => simp at hx
      | cons c l => have := h2 0 (by simp); simp at hx; subst hx; simpa using this
theorem setE_mk {m : Nat} {bp : Int} {be : List Int} {s : Int × List Int} (h1 : 1 ≤ s.1 ∧ s.1 ≤ 100) (h2 : bp < s.1) (h3 : s.2.length = m) (h4 : ∀ x, x ∈ s.2 → 0 ≤ x ∧ x ≤ 100000000)
    (h5 : ∀ i, i < m → be.getD i 0 ≤ s.2.getD i 0) (h6 : ∀ i, 0 < i → i < m → s.2.getD i 0 ≤ s.2.getD (i - 1) 0) : setE m bp be s = 0 := by
  unfold setE
  rw [thenE_zero, firstE_zero]
  refine ⟨fun e he => ?_, ?_⟩
  · simp only [List.mem_cons, List.not_mem_nil, or_false] at he
    rcases he with rfl | rfl | rfl | rfl
    · exact inR_zero.2 h1
    · rw [if_neg (by omega)]
    · rw [if_pos h3]
    · exact eachE_zero.2 fun x hx => inR_zero.2 (h4 x hx)
  · rw [if_pos]
    refine ruleOk_mk (fun i hi => h5 i (by omega)) (fun x hx => ?_) (fun i hi => by have := h6 (i + 1) (by omega) (by omega); simpa using this)
    cases hs : s.2 with
    | nil => rw [hs] at hx; simp at hx
    | cons c l => rw [hs] at hx; simp at hx; simp [hx]
/-- What the reference's check finds of the setting with an index. -/
structure SetOk (m : Nat) (s : Sets) (k : Nat) : Prop where
  len : ((s.getD k (0, [])).2).length = m
  pow : 1 ≤ ePow s k ∧ ePow s k ≤ 100
  up : 0 < k → ePow s (k - 1) < ePow s k
  rng : ∀ x, x ∈ (s.getD k (0, [])).2 → 0 ≤ x ∧ x ≤ 100000000
  down : ∀ i, 0 < i → i < m → ((s.getD k (0, [])).2).getD i 0 ≤ ((s.getD k (0, [])).2).getD (i - 1) 0
  ord : 0 < k → ∀ i, i < m → ((s.getD (k - 1) (0, [])).2).getD i 0 ≤ ((s.getD k (0, [])).2).getD i 0
theorem setsE_mk {m : Nat} {s : Sets} : ∀ {bp : Int} {be : List Int}, (∀ k, k < s.length → setE m (if k = 0 then bp else ePow s (k - 1)) (if k = 0 then be else (s.getD (k - 1) (0, [])).2) (s.getD k (0, [])) = 0) → setsE m bp be s = 0 := by
  induction s with
  | nil => intro bp be _; rfl
  | cons a s ih =>
    intro bp be h
    simp only [setsE]
    rw [thenE_zero]
    refine ⟨by simpa using h 0 (by simp), ih (fun k hk => ?_)⟩
    have h1 := h (k + 1) (by simpa using hk)
    cases k with
    | zero => simpa [ePow] using h1
    | succ k => simpa [ePow] using h1
theorem sets_mk {m : Nat} {s : Sets} (h : ∀ k, k < s.length → SetOk m s k) : setsE m 0 (List.replicate m 0) s = 0 := by
  refine setsE_mk fun k hk => ?_
  have g := h k hk
  by_cases h0 : k = 0
  · subst h0
    rw [if_pos rfl, if_pos rfl]
    refine setE_mk g.pow (by have := g.pow.1; unfold ePow at this; omega) g.len g.rng (fun i hi => ?_) g.down
    have e : (List.replicate m (0 : Int)).getD i 0 = 0 := by simp [List.getD_eq_getElem?_getD, List.getElem?_replicate, hi]
    rw [e]
    exact (g.rng _ (getD_mem (by rw [g.len]; exact hi))).1
  · rw [if_neg h0, if_neg h0]
    exact setE_mk g.pow (g.up (by omega)) g.len g.rng (g.ord (by omega)) g.down
theorem tyE_mk {sh : List Int} {T : Ty} (h1 : shE sh = 0) (h2 : ∀ x, x ∈ T.direct → 0 ≤ x ∧ x ≤ 2000) (h3 : 0 ≤ T.side ∧ T.side ≤ 1000) (h4 : sqE T.squares = 0) (h5 : 0 < T.sets.length ∧ T.sets.length ≤ 6)
    (h6 : ∀ k, k < T.sets.length → SetOk T.squares.length T.sets k) : tyE 0 sh T = 0 := by
  unfold tyE
  rw [thenE_zero, firstE_zero]
  refine ⟨fun e he => ?_, sets_mk h6⟩
  simp only [List.mem_cons, List.not_mem_nil, or_false] at he
  rcases he with rfl | rfl | rfl | rfl | rfl | rfl
  · rfl
  · exact h1
  · exact eachE_zero.2 fun x hx => inR_zero.2 (h2 x hx)
  · exact inR_zero.2 h3
  · exact h4
  · exact cntE_zero.2 h5
end Go.Proofs.Bell

namespace Go.Proofs.YtmafmebcgmegeaaGreatDoor
open Go.RowKit Go.Sort
theorem refFirst7 (g c : Nat) (x y z u v s t : Int) (w : World) (h0 : w.cell? ⟨g, 0, none⟩ = some (.int .i64 x)) (h1 : w.cell? ⟨g, 1, none⟩ = some (.int .i64 y)) (h2 : w.cell? ⟨g, 2, none⟩ = some (.int .i64 z)) (h3 : w.cell? ⟨g, 3, none⟩ = some (.int .i64 u)) (h4 : w.cell? ⟨g, 4, none⟩ = some (.int .i64 v)) (h5 : w.cell? ⟨g, 5, none⟩ = some (.int .i64 s)) (h6 : w.cell? ⟨g, 6, none⟩ = some (.int .i64 t)) :
    Calls Tryz.prog 99 #[.slice (some ⟨g, 0, none⟩) 7 c] w fun e w' => e = .returned (.int .i64 (firstE [x, y, z, u, v, s, t])) ∧ w = w' := by
  refine refFirst_any g 7 c [x, y, z, u, v, s, t] w rfl (by omega) ?_
  intro i hi
  match i, hi with
  | 0, _ => exact h0
  | 1, _ => exact h1
  | 2, _ => exact h2
  | 3, _ => exact h3
  | 4, _ => exact h4
  | 5, _ => exact h5
  | 6, _ => exact h6
theorem firstE_all {l : List Int} (h : firstE l = 0) : ∀ e, e ∈ l → e = 0 := by
  induction l with
  | nil => intro e he; cases he
  | cons a l ih =>
    unfold firstE at h
    split at h
    · rename_i h0
      intro e he
      rcases List.mem_cons.1 he with rfl | he
      · exact h0
      · exact ih h e he
    · rename_i h0; exact absurd h h0
theorem firstE7_zero {a b c d e f g : Int} (h : firstE [a, b, c, d, e, f, g] = 0) : a = 0 ∧ b = 0 ∧ c = 0 ∧ d = 0 ∧ e = 0 ∧ f = 0 ∧ g = 0 := by
  have k := firstE_all h
  exact ⟨k a (by simp), k b (by simp), k c (by simp), k d (by simp), k e (by simp), k f (by simp), k g (by simp)⟩
/-- A number that is 0 where a fact holds alone. -/
def GR.zero (p : Prop) : GR := ⟨fun v _ => ∃ a : Int, v = .int .i64 a ∧ (a = 0 → p), fun h _ => h⟩
/-- An own list without elements, laid anew. -/
theorem own_empty (w : World) : OwnI (w.alloc (.cells #[] 3)) w.heap.size (.slice (some ⟨w.heap.size, 0, none⟩) 0 0) [] :=
  ⟨rfl, .inr ⟨w.heap.size, 0, #[], rfl, Nat.le_refl _, heap_alloc_new w _, Nat.le_refl _, by unfold maxLen; omega, rfl, rfl⟩⟩
theorem setOk_of {m k : Nat} {s : Bell.Sets} (h1 : ((s.getD k (0, [])).2).length = m) (h2 : 1 ≤ Bell.ePow s k ∧ Bell.ePow s k ≤ 100) (h3 : 0 < k → Bell.ePow s (k - 1) < Bell.ePow s k) (h4 : ∀ x, x ∈ (s.getD k (0, [])).2 → 0 ≤ x ∧ x ≤ 100000000)
    (h5 : ∀ i, 0 < i → i < m → ((s.getD k (0, [])).2).getD i 0 ≤ ((s.getD k (0, [])).2).getD (i - 1) 0) (h6 : 0 < k → ∀ i, i < m → ((s.getD (k - 1) (0, [])).2).getD i 0 ≤ ((s.getD k (0, [])).2).getD i 0) : Bell.SetOk m s k := ⟨h1, h2, h3, h4, h5, h6⟩
theorem goodT_of {sh : List Int} {T : Bell.Ty} (hd : T.direct.length = 8) (h1 : GoodSh sh) (h2 : ∀ x, x ∈ T.direct → 0 ≤ x ∧ x ≤ 2000) (h3 : 0 ≤ T.side ∧ T.side ≤ 1000) (h4 : Bell.GoodSq T.squares ∧ T.squares.length ≤ 8 ∧ ∀ x, x ∈ T.squares → 0 ≤ x ∧ x ≤ 100000000000)
    (h5 : 0 < T.sets.length ∧ T.sets.length ≤ 6) (h6 : ∀ k, k < T.sets.length → Bell.SetOk T.squares.length T.sets k) : GoodT sh T :=
  ⟨hd, Bell.tyE_mk (Bell.shE_mk h1.cnt h1.rng (by rw [← sumL_sum]; exact h1.sum)) h2 h3 (Bell.sqE_mk ⟨h4.1.some, h4.2.1⟩ h4.2.2 h4.1.zero (fun i hi => h4.1.up i (i + 1) (by omega) hi)) h5 h6⟩
set_option maxHeartbeats 4000000 in
set_option maxRecDepth 100000 in
theorem refType_any {nm : ByteArray} {sh : List Int} {T : Bell.Ty} {sa : Option Addr} {sn sc : Nat} {qa : Option Addr} {qn qc : Nat} {ga : Option Addr} {gn gc : Nat} {cs : Array Value} (w : World) (hT : RTy w cs nm sh T sa sn sc qa qn qc ga gn gc) (hd8 : T.direct.length = 8) (hS : ShortT nm sn qn gn T.sets) :
    Calls Tryz.prog 20 #[.agg cs] w fun e w' => ∃ E : Int, e = .returned (.int .i64 E) ∧ Hid (E = 0 → nameB nm = true ∧ GoodT sh T) ∧ Below w.heap.size w w' := by
  obtain ⟨i0, hi, hz0, hz1, hz2⟩ := info_parts infoInt
  have HS := Lib.hid hT.sets
  have HSh := Lib.hid hT.shares
  have HSq := Lib.hid hT.squares
  have HT := Lib.hid hS
  have HD8 := Lib.hid hd8
  have IT : Hid ((Tryz.prog.info? 26).map (·.size) = some cs.size) := by show _ = _; rw [hT.cells]; kernel_rfl
  have q0 := hT.c0
  have q1 := hT.c1
  have q10 := hT.c10
  have q11 := hT.c11
  have q12 := hT.c12
  have QD : Hid (∀ i, i < 8 → cs[2 + i]? = some (.int .i64 (T.direct.getD i 0))) := fun i hi => by
    rw [hT.cells]
    match i, hi with
    | 0, _ => rfl
    | 1, _ => rfl
    | 2, _ => rfl
    | 3, _ => rfl
    | 4, _ => rfl
    | 5, _ => rfl
    | 6, _ => rfl
    | 7, _ => rfl
  have hs9 : sn ≤ 9 := hS.shares
  have hq9 : qn ≤ 9 := hS.squares
  have hg7 : gn ≤ 7 := hS.sets
  have hnm : nm.size ≤ 40 := hS.name
  clear hT hS hd8
  go_enter Tryz.func20, Tryz.ntmps20
  go_upto_region 1 with fail
  obtain ⟨w1, hw1⟩ : ∃ W, W = w.alloc (.cells cs 26) := ⟨_, rfl⟩
  rw [← hw1]
  have T1 : Hid (Blk w1 w.heap.size 26 cs) := by show Blk _ _ _ _; rw [hw1]; exact Blk.new _ _ _
  have HB1 : Hid (Below w.heap.size w w1) := by show Below _ _ _; rw [hw1]; exact (Below.refl _ _).alloc (Nat.le_refl _) _
  obtain ⟨g, hg⟩ : ∃ g, g = w.heap.size := ⟨_, rfl⟩
  rw [← hg] at T1 ⊢
  clear hw1 hg
  have hgl : g < w1.heap.size := lt_of_block T1.out
  go_wp2
  go_loopw [3, 4] (fun v i wr => ∃ k : Nat, k ≤ 8 ∧ i = .int .i64 k ∧ OwnI wr w1.heap.size v (T.direct.take k) ∧ Below w1.heap.size w1 wr) (fun _ i _ => 8 - (intOf i).toNat)
  case atStart => exact ⟨0, Nat.zero_le _, rfl, own_empty w1, (Below.refl _ _).alloc (Nat.le_refl _) _⟩
  case round =>
    obtain ⟨k, hk, rfl, hown, hbw⟩ := hrel
    by_cases hlt : k < 8
    · have hlen : (T.direct.take k).length = k := by rw [List.length_take, HD8.out]; omega
      have hown0 : wr.ownsRow w1.heap.size 3 1 u3 k ((T.direct.take k).map (Value.int .i64)) := by have := hown; unfold OwnI at this; rwa [hlen] at this
      have hsz := hbw.size
      have HB := Lib.hid hbw
      have cd := ((T1.out.below hbw).cell (2 + k)).trans (QD.out k hlt)
      obtain ⟨x, hx⟩ : ∃ x, x = T.direct.getD k 0 := ⟨_, rfl⟩
      rw [← hx] at cd
      have HT2 : Hid (T.direct.take (k + 1) = T.direct.take k ++ [x]) := by
        show _ = _
        have hkl : k < T.direct.length := by rw [HD8.out]; exact hlt
        have hgd : T.direct.getD k 0 = T.direct[k] := by simp [List.getD_eq_getElem?_getD, List.getElem?_eq_getElem hkl]
        rw [hx, hgd]
        exact (List.take_append_getElem hkl).symm
      have HLEN := Lib.hid hlen
      clear hown hbw hx hlen
      go_wp2_with (at_builtin; refine wpList_append_own _ rfl _ _ 22 rfl w1.heap.size 3 i0 (.int .i64 0) 1 8 Tryz.underlying22 hi hz0 hz1 hz2 rfl (by decide) _ _ _ rfl (World.ownsRow.alloc hown0 _) ⟨wr.heap.size, 0, none⟩ 1 1 [.int .i64 x] rfl rfl (cell_one_new _ _ _) (by simp [Value.oneCell']) (by unfold maxLen; omega) (by omega) (by simp; omega) ?_; intro v' w2 hown' hgrow _)
      have R : OwnI w2 w1.heap.size v' (T.direct.take (k + 1)) := by
        unfold OwnI
        rw [HT2.out, List.length_append, HLEN.out, List.map_append]
        exact hown'
      have B1 : Below w1.heap.size w1 w2 := Below.grown (HB.out.alloc (by omega) _) hgrow (by simp; omega) (fun j hj => (hown0.lt j hj).1)
      clear hown' hgrow hown0
      go_wp2
      go_roundw
      case rel => exact ⟨k + 1, by omega, by go_num, R, B1⟩
      case measure => simp [intOf]; omega
    · obtain rfl : k = 8 := by omega
      rw [List.take_of_length_le (by rw [HD8.out]; omega)] at hown
      rcases hown.form with ⟨_, hnil⟩ | ⟨gd, cd, hv, _⟩
      · rw [hnil] at HD8; exact absurd HD8.out (by simp)
      rw [HD8.out] at hv
      subst hv
      have DI := Lib.hid hown.at_
      have T2 := Lib.hid (T1.out.below hbw)
      have HB2 := Lib.hid (HB1.out.trans (hbw.mono HB1.out.size))
      clear hown hbw hk hlt T1 HB1
      go_wp2
      refine wp_region_grow 24 (by kernel_rfl) (by kernel_rfl) [GR.eq (.pointer (some ⟨g, 0, none⟩)), GR.eq (.string nm), GR.zero (nameB nm = true), GR.eq (.pointer (some ⟨g, 1, none⟩)), GR.eq (.slice sa sn sc), GR.zero (GoodSh sh), GR.eq (.slice (some ⟨gd, 0, none⟩) 8 cd), GR.zero (∀ x, x ∈ T.direct → 0 ≤ x ∧ x ≤ 2000), GR.eq (.pointer (some ⟨g, 10, none⟩)), GR.eq (.int .i64 T.side), GR.zero (0 ≤ T.side ∧ T.side ≤ 1000), GR.eq (.pointer (some ⟨g, 11, none⟩)), GR.eq (.slice qa qn qc), GR.zero (Bell.GoodSq T.squares ∧ T.squares.length ≤ 8 ∧ ∀ x, x ∈ T.squares → 0 ≤ x ∧ x ≤ 100000000000), GR.eq (.pointer (some ⟨g, 12, none⟩)), GR.eq (.slice ga gn gc), GR.eq (.int .i64 gn), GR.eq (.bool (((gn : Int) == 0))), GR.zero (0 < gn), GR.eq (.pointer (some ⟨g, 12, none⟩)), GR.eq (.slice ga gn gc), GR.eq (.int .i64 gn), GR.eq (.bool (decide ((6 : Int) < gn))), GR.zero (gn ≤ 6)] 62 rfl (by kernel_rfl) ?_ ?_
      · refine ⟨?_, ?_, ?_, ?_, ?_, ?_, ?_, ?_, ?_, ?_, ?_, ?_, ?_, ?_, ?_, ?_, ?_, ?_, ?_, ?_, ?_, ?_, ?_, ?_, trivial⟩
        · intro a W hE hd ho
          have e1 : a.tmps[1]?.getD undef = .pointer (some ⟨g, 0, none⟩) := ho 1 (by kernel_rfl)
          exact gs_same (v := .pointer (some ⟨g, 0, none⟩)) (by go_simp) rfl
        · intro a W hE hd ho
          have e20 : a.tmps[20]?.getD undef = .pointer (some ⟨g, 0, none⟩) := hd 0 20 (by kernel_rfl) (by kernel_rfl)
          have c0 := ((T2.out.below hE).cell 0).trans q0
          exact gs_same (v := .string nm) (by go_simp) rfl
        · intro a W hE hd ho
          have e21 : a.tmps[21]?.getD undef = .string nm := hd 1 21 (by kernel_rfl) (by kernel_rfl)
          refine gs_call (f := 100) (args := #[.string nm]) (by go_simp) ?_
          refine (refName_any nm W (by omega)).mono ?_
          rintro e w9 ⟨b, rfl, hb, rfl⟩
          exact ⟨_, rfl, Ext.refl _, b, rfl, hb.out⟩
        · intro a W hE hd ho
          have e1 : a.tmps[1]?.getD undef = .pointer (some ⟨g, 0, none⟩) := ho 1 (by kernel_rfl)
          exact gs_same (v := .pointer (some ⟨g, 1, none⟩)) (by go_simp) rfl
        · intro a W hE hd ho
          have e23 : a.tmps[23]?.getD undef = .pointer (some ⟨g, 1, none⟩) := hd 3 23 (by kernel_rfl) (by kernel_rfl)
          have c1 := ((T2.out.below hE).cell 1).trans q1
          exact gs_same (v := .slice sa sn sc) (by go_simp) rfl
        · intro a W hE hd ho
          have e24 : a.tmps[24]?.getD undef = .slice sa sn sc := hd 4 24 (by kernel_rfl) (by kernel_rfl)
          refine gs_call (f := 101) (args := #[.slice sa sn sc]) (by go_simp) ?_
          refine (refShares_any sa sn sc sh W (HSh.out.keep (HB2.out.trans (hE.below.mono HB2.out.size))) hs9).mono ?_
          rintro e w9 ⟨b, rfl, hb, hbl⟩
          exact ⟨_, rfl, hbl, b, rfl, hb.out⟩
        · intro a W hE hd ho
          have e3 : a.tmps[3]?.getD undef = .slice (some ⟨gd, 0, none⟩) 8 cd := ho 3 (by kernel_rfl)
          exact gs_same (v := .slice (some ⟨gd, 0, none⟩) 8 cd) (by go_simp) rfl
        · intro a W hE hd ho
          have e26 : a.tmps[26]?.getD undef = .slice (some ⟨gd, 0, none⟩) 8 cd := hd 6 26 (by kernel_rfl) (by kernel_rfl)
          refine gs_call (f := 102) (args := #[.slice (some ⟨gd, 0, none⟩) 8 cd, .int .i64 0, .int .i64 2000]) (by go_simp) ?_
          refine (refRanges_any _ 8 cd T.direct 0 2000 W (by omega) (DI.out.keep hE)).mono ?_
          rintro e w9 ⟨rfl, rfl⟩
          exact ⟨_, rfl, Ext.refl _, _, rfl, fun h => firstIn_rng h⟩
        · intro a W hE hd ho
          have e1 : a.tmps[1]?.getD undef = .pointer (some ⟨g, 0, none⟩) := ho 1 (by kernel_rfl)
          exact gs_same (v := .pointer (some ⟨g, 10, none⟩)) (by go_simp) rfl
        · intro a W hE hd ho
          have e28 : a.tmps[28]?.getD undef = .pointer (some ⟨g, 10, none⟩) := hd 8 28 (by kernel_rfl) (by kernel_rfl)
          have c10 := ((T2.out.below hE).cell 10).trans q10
          exact gs_same (v := .int .i64 T.side) (by go_simp) rfl
        · intro a W hE hd ho
          have e29 : a.tmps[29]?.getD undef = .int .i64 T.side := hd 9 29 (by kernel_rfl) (by kernel_rfl)
          refine gs_call (f := 103) (args := #[.int .i64 T.side, .int .i64 0, .int .i64 1000]) (by go_simp) ?_
          refine (refCheckRange_any T.side 0 1000 W).mono ?_
          rintro e w9 ⟨rfl, rfl⟩
          exact ⟨_, rfl, Ext.refl _, _, rfl, fun h => withinE_zero h⟩
        · intro a W hE hd ho
          have e1 : a.tmps[1]?.getD undef = .pointer (some ⟨g, 0, none⟩) := ho 1 (by kernel_rfl)
          exact gs_same (v := .pointer (some ⟨g, 11, none⟩)) (by go_simp) rfl
        · intro a W hE hd ho
          have e31 : a.tmps[31]?.getD undef = .pointer (some ⟨g, 11, none⟩) := hd 11 31 (by kernel_rfl) (by kernel_rfl)
          have c11 := ((T2.out.below hE).cell 11).trans q11
          exact gs_same (v := .slice qa qn qc) (by go_simp) rfl
        · intro a W hE hd ho
          have e32 : a.tmps[32]?.getD undef = .slice qa qn qc := hd 12 32 (by kernel_rfl) (by kernel_rfl)
          refine gs_call (f := 104) (args := #[.slice qa qn qc]) (by go_simp) ?_
          refine (refSquares_any qa qn qc T.squares W (HSq.out.keep (HB2.out.trans (hE.below.mono HB2.out.size))) hq9).mono ?_
          rintro e w9 ⟨b, rfl, hb, hbl⟩
          exact ⟨_, rfl, hbl, b, rfl, hb.out⟩
        · intro a W hE hd ho
          have e1 : a.tmps[1]?.getD undef = .pointer (some ⟨g, 0, none⟩) := ho 1 (by kernel_rfl)
          exact gs_same (v := .pointer (some ⟨g, 12, none⟩)) (by go_simp) rfl
        · intro a W hE hd ho
          have e34 : a.tmps[34]?.getD undef = .pointer (some ⟨g, 12, none⟩) := hd 14 34 (by kernel_rfl) (by kernel_rfl)
          have c12 := ((T2.out.below hE).cell 12).trans q12
          exact gs_same (v := .slice ga gn gc) (by go_simp) rfl
        · intro a W hE hd ho
          have e35 : a.tmps[35]?.getD undef = .slice ga gn gc := hd 15 35 (by kernel_rfl) (by kernel_rfl)
          exact gs_same (v := .int .i64 gn) (by go_simp) rfl
        · intro a W hE hd ho
          have e36 : a.tmps[36]?.getD undef = .int .i64 gn := hd 16 36 (by kernel_rfl) (by kernel_rfl)
          exact gs_same (v := .bool (((gn : Int) == 0))) (by go_simp) rfl
        · intro a W hE hd ho
          have e37 : a.tmps[37]?.getD undef = .bool (((gn : Int) == 0)) := hd 17 37 (by kernel_rfl) (by kernel_rfl)
          refine gs_call (f := 105) (args := #[.bool (((gn : Int) == 0)), .int .i64 12]) (by go_simp) ?_
          refine (refWhen_let _ _ _).mono ?_
          rintro e w9 ⟨b, rfl, hb, rfl⟩
          refine ⟨_, rfl, Ext.refl _, b, rfl, fun h => ?_⟩
          have h2 := when_off (by omega) hb.out h
          simp at h2; omega
        · intro a W hE hd ho
          have e1 : a.tmps[1]?.getD undef = .pointer (some ⟨g, 0, none⟩) := ho 1 (by kernel_rfl)
          exact gs_same (v := .pointer (some ⟨g, 12, none⟩)) (by go_simp) rfl
        · intro a W hE hd ho
          have e39 : a.tmps[39]?.getD undef = .pointer (some ⟨g, 12, none⟩) := hd 19 39 (by kernel_rfl) (by kernel_rfl)
          have c12 := ((T2.out.below hE).cell 12).trans q12
          exact gs_same (v := .slice ga gn gc) (by go_simp) rfl
        · intro a W hE hd ho
          have e40 : a.tmps[40]?.getD undef = .slice ga gn gc := hd 20 40 (by kernel_rfl) (by kernel_rfl)
          exact gs_same (v := .int .i64 gn) (by go_simp) rfl
        · intro a W hE hd ho
          have e41 : a.tmps[41]?.getD undef = .int .i64 gn := hd 21 41 (by kernel_rfl) (by kernel_rfl)
          exact gs_same (v := .bool (decide ((6 : Int) < gn))) (by go_simp) rfl
        · intro a W hE hd ho
          have e42 : a.tmps[42]?.getD undef = .bool (decide ((6 : Int) < gn)) := hd 22 42 (by kernel_rfl) (by kernel_rfl)
          refine gs_call (f := 105) (args := #[.bool (decide ((6 : Int) < gn)), .int .i64 5]) (by go_simp) ?_
          refine (refWhen_let _ _ _).mono ?_
          rintro e w9 ⟨b, rfl, hb, rfl⟩
          refine ⟨_, rfl, Ext.refl _, b, rfl, fun h => ?_⟩
          have h2 := when_off (by omega) hb.out h
          have := of_decide_eq_false h2; omega
      · intro vs w5 hE hR
        have y0 : vs 0 = .pointer (some ⟨g, 0, none⟩) := hR 0 (by omega)
        have y1 : vs 1 = .string nm := hR 1 (by omega)
        obtain ⟨z1, y2, hz1⟩ : ∃ b : Int, vs 2 = .int .i64 b ∧ (b = 0 → nameB nm = true) := hR 2 (by omega)
        have y3 : vs 3 = .pointer (some ⟨g, 1, none⟩) := hR 3 (by omega)
        have y4 : vs 4 = .slice sa sn sc := hR 4 (by omega)
        obtain ⟨z2, y5, hz2⟩ : ∃ b : Int, vs 5 = .int .i64 b ∧ (b = 0 → GoodSh sh) := hR 5 (by omega)
        have y6 : vs 6 = .slice (some ⟨gd, 0, none⟩) 8 cd := hR 6 (by omega)
        obtain ⟨z3, y7, hz3⟩ : ∃ b : Int, vs 7 = .int .i64 b ∧ (b = 0 → ∀ x, x ∈ T.direct → 0 ≤ x ∧ x ≤ 2000) := hR 7 (by omega)
        have y8 : vs 8 = .pointer (some ⟨g, 10, none⟩) := hR 8 (by omega)
        have y9 : vs 9 = .int .i64 T.side := hR 9 (by omega)
        obtain ⟨z4, y10, hz4⟩ : ∃ b : Int, vs 10 = .int .i64 b ∧ (b = 0 → 0 ≤ T.side ∧ T.side ≤ 1000) := hR 10 (by omega)
        have y11 : vs 11 = .pointer (some ⟨g, 11, none⟩) := hR 11 (by omega)
        have y12 : vs 12 = .slice qa qn qc := hR 12 (by omega)
        obtain ⟨z5, y13, hz5⟩ : ∃ b : Int, vs 13 = .int .i64 b ∧ (b = 0 → Bell.GoodSq T.squares ∧ T.squares.length ≤ 8 ∧ ∀ x, x ∈ T.squares → 0 ≤ x ∧ x ≤ 100000000000) := hR 13 (by omega)
        have y14 : vs 14 = .pointer (some ⟨g, 12, none⟩) := hR 14 (by omega)
        have y15 : vs 15 = .slice ga gn gc := hR 15 (by omega)
        have y16 : vs 16 = .int .i64 gn := hR 16 (by omega)
        have y17 : vs 17 = .bool (((gn : Int) == 0)) := hR 17 (by omega)
        obtain ⟨z6, y18, hz6⟩ : ∃ b : Int, vs 18 = .int .i64 b ∧ (b = 0 → 0 < gn) := hR 18 (by omega)
        have y19 : vs 19 = .pointer (some ⟨g, 12, none⟩) := hR 19 (by omega)
        have y20 : vs 20 = .slice ga gn gc := hR 20 (by omega)
        have y21 : vs 21 = .int .i64 gn := hR 21 (by omega)
        have y22 : vs 22 = .bool (decide ((6 : Int) < gn)) := hR 22 (by omega)
        obtain ⟨z7, y23, hz7⟩ : ∃ b : Int, vs 23 = .int .i64 b ∧ (b = 0 → gn ≤ 6) := hR 23 (by omega)
        simp only [List.range, List.range.loop, List.foldl_cons, List.foldl_nil, y0, y1, y2, y3, y4, y5, y6, y7, y8, y9, y10, y11, y12, y13, y14, y15, y16, y17, y18, y19, y20, y21, y22, y23, List.drop_succ_cons, List.drop_zero]
        simp only [dstAt, List.getElem?_toArray, List.getElem?_cons_zero, List.getElem?_cons_succ, Option.bind_some, Act.put, List.setIfInBounds_toArray, List.set_cons_zero, List.set_cons_succ]
        clear y0 y1 y2 y3 y4 y5 y6 y7 y8 y9 y10 y11 y12 y13 y14 y15 y16 y17 y18 y19 y20 y21 y22 y23 hR
        have T5 := Lib.hid (T2.out.below hE)
        have HB5 := Lib.hid (HB2.out.trans (hE.below.mono HB2.out.size))
        have Hz1 := Lib.hid hz1
        have Hz2 := Lib.hid hz2
        have Hz3 := Lib.hid hz3
        have Hz4 := Lib.hid hz4
        have Hz5 := Lib.hid hz5
        have Hz6 := Lib.hid hz6
        have Hz7 := Lib.hid hz7
        clear hz1 hz2 hz3 hz4 hz5 hz6 hz7 hE T2 HB2 DI
        go_wp2_with fail
        refine (refFirst7 _ _ z1 z2 z3 z4 z5 z6 z7 _ (by go_simp) (by go_simp) (by go_simp) (by go_simp) (by go_simp) (by go_simp) (by go_simp)).mono ?_
        obtain ⟨F, hF⟩ : ∃ F, F = firstE [z1, z2, z3, z4, z5, z6, z7] := ⟨_, rfl⟩
        rw [← hF]
        have HF := Lib.hid hF
        clear hF
        rintro e w6 ⟨rfl, rfl⟩
        obtain ⟨w7, hw7⟩ : ∃ W, W = w5.alloc (.cells #[.int .i64 z1, .int .i64 z2, .int .i64 z3, .int .i64 z4, .int .i64 z5, .int .i64 z6, .int .i64 z7] 3) := ⟨_, rfl⟩
        rw [← hw7]
        have hb7 : Below w5.heap.size w5 w7 := by rw [hw7]; exact (Below.refl _ _).alloc (Nat.le_refl _) _
        have T7 := Lib.hid (T5.out.below hb7)
        have HB7 := Lib.hid (HB5.out.trans (hb7.mono HB5.out.size))
        clear hw7 hb7 T5 HB5
        by_cases hf0 : F = 0
        rotate_left
        · have h1 : (F != 0) = true := by simp [hf0]
          go_wp2
          go_ret
          exact ⟨F, rfl, (fun h => absurd h hf0), HB7.out⟩
        have h1 : (F != 0) = false := by simp [hf0]
        obtain ⟨n1, n2, n3, n4, n5, n6, n7⟩ := firstE7_zero (HF.out.symm.trans hf0)
        have K1 := Lib.hid (Hz1.out n1)
        have K2 := Lib.hid (Hz2.out n2)
        have K3 := Lib.hid (Hz3.out n3)
        have K4 := Lib.hid (Hz4.out n4)
        have K5 := Lib.hid (Hz5.out n5)
        have k6 := Hz6.out n6
        have k7 := Hz7.out n7
        clear n1 n2 n3 n4 n5 n6 n7 hf0 Hz1 Hz2 Hz3 Hz4 Hz5 Hz6 Hz7 HF
        obtain ⟨gb, go, rfl, hl⟩ := HS.out.2 k6
        have HL := Lib.hid hl
        clear hl
        go_wp2
        go_loopw [6, 7] (fun i _ wr => ∃ k : Nat, k ≤ gn ∧ i = .int .i64 k ∧ Hid (∀ j, j < k → Bell.SetOk qn T.sets j) ∧ Hid (Below w7.heap.size w7 wr)) (fun i _ _ => gn - (intOf i).toNat)
        case atStart => exact ⟨0, Nat.zero_le _, rfl, (fun j hj => by omega), Below.refl _ _⟩
        case round =>
          obtain ⟨k, hk, rfl, hok, hbw⟩ := hrel
          have T8 := Lib.hid (T7.out.below hbw.out)
          have HB8 := Lib.hid (HB7.out.trans (hbw.out.mono HB7.out.size))
          have t12 := (T8.out.cell 12).trans q12
          by_cases hlt : k < gn
          · have HLK := Lib.hid (HL.out.keep HB8.out)
            obtain ⟨ea, en, ec, a1, a2, a3⟩ := HLK.out.2 k hlt
            obtain ⟨fa, fn, fc, b1, b2, b3⟩ := HLK.out.2 (k - 1) (by omega)
            have hen : en ≤ 9 := by have h1 := HT.out.each k hlt; rw [a3.1] at h1; exact h1
            have hfn : 0 < k → fn = qn := fun h => by have h1 := (hok.out (k - 1) (by omega)).len; rw [b3.1] at h1; exact h1
            have C := Lib.hid (refSetting_any wr gb go gn gc k (k - 1) q12 qa qn qc q11 hlt rfl (by omega) (Bell.ePow T.sets k) (Bell.ePow T.sets (k - 1)) ea fa en ec fn fc _ _ ⟨a1, a2⟩ ⟨b1, b2⟩ a3 b3 hen hfn)
            have HEN := Lib.hid a3.1
            clear a1 a2 a3 b1 b2 b3 hen hfn
            go_wp2_with (refine wpList_load_row rfl 26 _ rfl g rfl 26 cs (0, 0) _ T8.out Tryz.underlying26 rfl IT.out ?_)
            refine C.out.mono ?_
            rintro e w9 ⟨E2, rfl, hE2, hb9⟩
            have HB9 := Lib.hid (HB8.out.trans (hb9.mono HB8.out.size))
            have HW9 := Lib.hid (hbw.out.trans (hb9.mono hbw.out.size))
            clear hb9 C
            by_cases he2 : E2 = 0
            · have h2 : (E2 != 0) = false := by simp [he2]
              have HE2 := Lib.hid (hE2.out he2)
              clear he2 hE2
              go_wp2
              go_roundw
              case rel =>
                refine ⟨k + 1, by omega, by go_num, fun j hj => ?_, HW9.out⟩
                by_cases hjk : j < k
                · exact hok.out j hjk
                · obtain rfl : j = k := by omega
                  obtain ⟨r1, r2, r3, r4, r5, r6⟩ := HE2.out
                  exact setOk_of (by rw [HEN.out, r1]) r2 r3 r4 (by rw [← r1]; exact r5) (by rw [← r1]; exact r6)
              case measure => simp [intOf]; omega
            · have h2 : (E2 != 0) = true := by simp [he2]
              go_wp2
              go_ret
              exact ⟨E2, rfl, (fun h => absurd h he2), HB9.out⟩
          · obtain rfl : k = gn := by omega
            go_wp2
            go_ret
            refine ⟨0, rfl, (fun _ => ⟨K1.out, goodT_of HD8.out K2.out K3.out K4.out K5.out ⟨by rw [HL.out.1]; exact k6, by rw [HL.out.1]; exact k7⟩ (fun j hj => ?_)⟩), HB8.out⟩
            rw [HSq.out.1]
            exact hok.out j (by rw [HL.out.1] at hj; exact hj)
end Go.Proofs.YtmafmebcgmegeaaGreatDoor
