/- Texts Iw Ix Ql Qn Qp Qm Qo Qq Qr Qw Qx of the proof. -/
import Derived.Test.YtmafmebcgmegeaaGreatDoorZ3
import Derived.Test.YtmafmebcgmegeaaGreatDoorZ39
import Derived.BigQuiet
import Derived.Test.YtmafmebcgmegeaaGreatDoorZ26
import Derived.Test.YtmafmebcgmegeaaGreatDoorZ21
import Derived.Test.YtmafmebcgmegeaaGreatDoorZ20
import Derived.Test.YtmafmebcgmegeaaGreatDoorZ37
import Derived.Test.YtmafmebcgmegeaaGreatDoorZ33
import Derived.Test.YtmafmebcgmegeaaGreatDoorZ25
import Derived.Test.YtmafmebcgmegeaaGreatDoorZ34
namespace Go.Proofs.YtmafmebcgmegeaaGreatDoor
open Go.RowKit Go.Sort
/-- Where the operations of the head write: all have a place, and each its own; none has a guard. -/
def guardB (ops : Array Oper) (n : Nat) : Bool :=
  Region.noSelect ops && decide (n < ops.size) && Region.sinkB .any ops n && Region.chainB .any ops n && Region.seqB .any ops (ops.size - n) n ((Array.replicate n true) ++ (Array.replicate (ops.size - n) false)) &&
    (List.range n).all fun i => match ops[i]? with
      | none => false
      | some o => (match o.guard with | none => true | some (j, _) => decide (j < i) && o.after.any fun e => Region.binds .any e && decide (e.on = j)) && (o.after.all fun e => !Region.binds .any e || decide (e.on < i)) && (match o.dst with | none => false | some t => (List.range n).all fun j => decide (j = i) || decide (dstAt ops j ≠ some t))
/-- Is the operation wanted, by what its guard gave? -/
def wantedAt (ops : Array Oper) (j : Nat) (tmps : Array Value) : Bool := match ops[j]? with
  | some o => Region.wanted o (yielded ops tmps)
  | none => false
theorem wantedAt_of {ops : Array Oper} {j : Nat} {o : Oper} (h : ops[j]? = some o) (tmps : Array Value) : wantedAt ops j tmps = Region.wanted o (yielded ops tmps) := by unfold wantedAt; rw [h]
theorem yielded_put {ops : Array Oper} {g : Nat} {a : Act} {d : Tmp} {v : Value} (h : dstAt ops g ≠ some d) : yielded ops (a.put (some d) v).tmps g = yielded ops a.tmps g := by
  unfold yielded
  unfold dstAt at h
  cases ht : (ops[g]?).bind (·.dst) with
  | none => rfl
  | some t =>
    have hne : d ≠ t := fun e => h (by rw [ht, e])
    simp [Act.put, Array.getElem?_setIfInBounds_ne hne]
theorem wantedAt_put {ops : Array Oper} {j : Nat} {a : Act} {d : Tmp} {v : Value} (h : ∀ o g b, ops[j]? = some o → o.guard = some (g, b) → dstAt ops g ≠ some d) : wantedAt ops j (a.put (some d) v).tmps = wantedAt ops j a.tmps := by
  unfold wantedAt
  cases ho : ops[j]? with
  | none => rfl
  | some o =>
    show Region.wanted o _ = Region.wanted o _
    unfold Region.wanted
    cases hg : o.guard with
    | none => rfl
    | some gb =>
      obtain ⟨g, b⟩ := gb
      have := yielded_put (v := v) (a := a) (h o g b ho hg)
      simp only [this]
/-- What a guard that was met says. -/
theorem guard_met {ops : Array Oper} {o : Oper} {a : Act} {g : Nat} {b : Bool} {t : Tmp} (hg : o.guard = some (g, b)) (ht : dstAt ops g = some t) (h : Region.wanted o (yielded ops a.tmps) = true) : a.tmps[t]?.getD undef = .bool b := by
  unfold Region.wanted at h
  rw [hg] at h
  unfold yielded at h
  unfold dstAt at ht
  simp only [ht, Option.bind_some] at h
  cases hv : a.tmps[t]? with
  | none => rw [hv] at h; simp at h
  | some u =>
    rw [hv] at h
    cases u <;> simp at h
    rw [h]; rfl
theorem wanted_by {ops : Array Oper} {j : Nat} {o : Oper} {a : Act} {g : Nat} {b : Bool} {t : Tmp} (ho : ops[j]? = some o) (hg : o.guard = some (g, b)) (ht : dstAt ops g = some t) (h : a.tmps[t]?.getD undef = .bool b) : wantedAt ops j a.tmps = true := by
  rw [wantedAt_of ho]
  unfold Region.wanted
  rw [hg]
  unfold yielded
  unfold dstAt at ht
  simp only [ht, Option.bind_some]
  cases hv : a.tmps[t]? with
  | none => rw [hv] at h; simp [undef] at h
  | some u =>
    rw [hv] at h
    simp only [Option.getD_some] at h
    subst h
    simp
/-- A step of the head. -/
def GuardStep (P : Program) (Q : Exit → Act → World → Prop) (ops : Array Oper) (f : Act) (w : World) (Rs : List GR) (n i : Nat) (o : Oper) : Prop :=
  ∀ (a : Act) (W : World), Ext w W → (∀ j t, (o.after.any fun e => Region.binds .any e && decide (e.on = j)) = true → dstAt ops j = some t → wantedAt ops j a.tmps = true → (GR.at Rs j).r (a.tmps[t]?.getD undef) W) → (∀ t, outOf ops n (.tmp t) = true → a.tmps[t]?.getD undef = f.tmps[t]?.getD undef) →
    Region.wanted o (yielded ops a.tmps) = true → Oper.wp P o a W (fun a' W' => ∃ v, a' = a.put o.dst v ∧ Ext W W' ∧ (GR.at Rs i).r v W') Q
def guardSteps (P : Program) (Q : Exit → Act → World → Prop) (ops : Array Oper) (f : Act) (w : World) (Rs : List GR) (n : Nat) : List Oper → Nat → Prop
  | [], _ => True
  | o :: l, i => GuardStep P Q ops f w Rs n i o ∧ guardSteps P Q ops f w Rs n l (i + 1)
theorem guardSteps_at {P : Program} {Q : Exit → Act → World → Prop} {ops : Array Oper} {f : Act} {w : World} {Rs : List GR} {n : Nat} (l : List Oper) : ∀ (k : Nat), guardSteps P Q ops f w Rs n l k → ∀ (i : Nat) (o : Oper), l[i]? = some o → GuardStep P Q ops f w Rs n (k + i) o := by
  induction l with
  | nil => intro k _ i o h; simp at h
  | cons b t ih =>
    intro k h i o ho
    cases i with
    | zero => simp at ho; subst ho; exact h.1
    | succ i =>
      have := ih (k + 1) h.2 i o (by simpa using ho)
      rwa [show k + 1 + i = k + (i + 1) by omega] at this
theorem guardB_spec {ops : Array Oper} {n : Nat} (h : guardB ops n = true) : (∀ i, i < n → ∃ o t, ops[i]? = some o ∧ (∀ j b, o.guard = some (j, b) → j < i ∧ ∃ e, e ∈ o.after ∧ Region.binds .any e = true ∧ e.on = j) ∧ o.dst = some t ∧ (∀ j, j < n → j ≠ i → dstAt ops j ≠ some t) ∧ ∀ e, e ∈ o.after → Region.binds .any e = true → e.on < i) := by
  intro i hi
  unfold guardB at h
  simp only [Bool.and_eq_true] at h
  have h1 := List.all_eq_true.1 h.2 i (by simpa using hi)
  cases ho : ops[i]? with
  | none => rw [ho] at h1; simp at h1
  | some o =>
    rw [ho] at h1
    simp only [Bool.and_eq_true] at h1
    obtain ⟨⟨h2, h4⟩, h3⟩ := h1
    cases hd : o.dst with
    | none => rw [hd] at h3; simp at h3
    | some t =>
      rw [hd] at h3
      refine ⟨o, t, rfl, fun j b hg => (by
        rw [hg] at h2
        simp only [Bool.and_eq_true, decide_eq_true_eq] at h2
        obtain ⟨h5, h6⟩ := h2
        obtain ⟨e, he, hh⟩ := Array.any_eq_true'.1 h6
        simp only [Bool.and_eq_true, decide_eq_true_eq] at hh
        exact ⟨h5, e, he, hh.1, hh.2⟩), hd, fun j hj hji => ?_, fun e he hb => ?_⟩
      · have := List.all_eq_true.1 h3 j (by simpa using hj)
        simpa [hji] using this
      · have := Array.all_eq_true_iff_forall_mem.1 h4 e he
        simpa [hb] using this
theorem headReadyG {ops : Array Oper} {n : Nat} {seen : Array Bool} (hB : guardB ops n = true) (inv : HeadInv .any ops n seen) : ∀ {i : Nat}, i < n → seen.getD i true = false → ∃ k, k < n ∧ k ∈ Region.ready .any ops seen := by
  intro i
  induction i using Nat.strongRecOn with
  | _ i ih =>
    intro hi hun
    obtain ⟨o, t, ho, _, _, _, hb⟩ := guardB_spec hB i hi
    by_cases hall : ∀ e, e ∈ o.after → Region.binds .any e = true → seen.getD e.on false = true
    · exact ⟨i, hi, mem_ready.2 ⟨hun, o, ho, hall⟩⟩
    · simp only [Classical.not_forall] at hall
      obtain ⟨e, he, hbe, hne⟩ := hall
      have h1 := hb e he hbe
      have hlt : i < ops.size := (Array.getElem?_eq_some_iff.1 ho).1
      exact ih e.on h1 (by omega) (getD_in (by rw [inv.size]; omega) (by simpa using hne))
theorem wp_region_guard {P : Program} {id : Nat} {Q : Exit → Act → World → Prop} {f : Act} {w : World} {l : List Oper} (n : Nat) (hm : P.follows .mixedOrders = true) (hB : guardB l.toArray n = true) (Rs : List GR) (size : Nat) (hsz : f.tmps.size = size) (hfB : dstB l.toArray n size = true)
    (hstep : guardSteps P Q l.toArray f w Rs n (l.take n) 0)
    (h : ∀ (vs : Nat → Value) (W : World), Ext w W → (∀ i, i < n → wantedAt l.toArray i ((List.range n).foldl (fun a i => a.put (dstAt l.toArray i) (vs i)) f).tmps = true → (GR.at Rs i).r (vs i) W) → wpList P l.toArray Q (l.drop n) ((List.range n).foldl (fun a i => a.put (dstAt l.toArray i) (vs i)) f) W) : (Code.region id l.toArray true).wp P Q f w := by
  have hf : ∀ i t, i < n → dstAt l.toArray i = some t → t < f.tmps.size := fun i t hi ht => by
    have := List.all_eq_true.1 hfB i (by simpa using hi)
    rw [ht] at this
    rw [hsz]
    simpa using this
  have hspec := guardB_spec hB
  have hB' := hB
  unfold guardB at hB'
  simp only [Bool.and_eq_true, decide_eq_true_eq] at hB'
  obtain ⟨⟨⟨⟨⟨hsel, hn⟩, hs⟩, hc⟩, hseq⟩, _⟩ := hB'
  have hn' : n < l.length := by simpa using hn
  have hdl : (l.drop n).length = l.toArray.size - n := by simp
  refine wp_region_any hm ?_
  -- the count of operations of the head that are still to come
  have main : ∀ (g : Nat) (seen : Array Bool) (vs : Nat → Value) (W : World), ((List.range n).filter fun i => !seen.getD i true).length = g → HeadInv .any l.toArray n seen → Ext w W → (∀ i, i < n → seen.getD i false = true → wantedAt l.toArray i (fillA l.toArray vs seen (List.range n) f).tmps = true → (GR.at Rs i).r (vs i) W) →
      wpAny P .any l.toArray Q (g + (l.toArray.size - n)) seen (fillA l.toArray vs seen (List.range n) f) W := by
    intro g
    induction g with
    | zero =>
      intro seen vs W hg inv hE hR
      have hall : ∀ i, i < n → seen.getD i true = true := fun i hi => by
        have := List.eq_nil_of_length_eq_zero hg
        rw [List.filter_eq_nil_iff] at this
        simpa using this i (by simpa using hi)
      have hsz := inv.size
      have hall' : ∀ i, i < n → seen.getD i false = true := fun i hi => by
        have h1 : i < seen.size := by rw [hsz]; omega
        have h2 := hall i hi
        simp [h1] at h2 ⊢; exact h2
      have hseen : seen = (Array.replicate n true) ++ (Array.replicate (l.toArray.size - n) false) := by
        refine Array.ext (by simp [hsz]; omega) fun i h1 h2 => ?_
        rcases Nat.lt_or_ge i n with hi | hi
        · have h3 := hall i hi
          simp [h1] at h3
          rw [h3, Array.getElem_append_left (by simpa using hi)]
          simp
        · have h3 := inv.tail i hi (by rw [← hsz]; exact h1)
          simp [h1] at h3
          rw [h3, Array.getElem_append_right (by simpa using hi)]
          simp
      have hfill : fillA l.toArray vs seen (List.range n) f = (List.range n).foldl (fun a i => a.put (dstAt l.toArray i) (vs i)) f := by
        have : ∀ (t : List Nat) (f : Act), (∀ i, i ∈ t → i < n) → fillA l.toArray vs seen t f = t.foldl (fun a i => a.put (dstAt l.toArray i) (vs i)) f := by
          intro t
          induction t with
          | nil => intro f _; rfl
          | cons k t ih =>
            intro f ht
            rw [fillA_cons, List.foldl_cons, if_pos (hall' k (ht k (by simp)))]
            exact ih _ fun i hi => ht i (List.mem_cons_of_mem _ hi)
        exact this _ _ fun i hi => by simpa using hi
      rw [hfill, Nat.zero_add]
      have hs2 : Region.seqB .any l.toArray (l.toArray.size - n) n seen = true := by rw [hseen]; exact hseq
      have := wpAny_of_seq (md := .any) (Q' := Q) (l.drop n) n seen _ W (fun j => by simp [List.getElem?_drop]) (by rw [hdl]; exact hs2) (h vs W hE fun i hi hw => hR i hi (hall' i hi) (by rw [hfill]; exact hw))
      rwa [hdl] at this
    | succ g ih =>
      intro seen vs W hg inv hE hR
      obtain ⟨i0, hi0⟩ : ∃ i, i ∈ (List.range n).filter fun i => !seen.getD i true := by
        cases hl : (List.range n).filter fun i => !seen.getD i true with
        | nil => rw [hl] at hg; simp at hg
        | cons b t => exact ⟨b, by simp⟩
      rw [List.mem_filter] at hi0
      have hi1 : i0 < n := by simpa using hi0.1
      have hi2 : seen.getD i0 true = false := by simpa using hi0.2
      have early : ∀ j, j ∈ Region.ready .any l.toArray seen → j < n := fun j hj => (Nat.lt_or_ge j n).elim (fun h => h) fun hh => absurd hj (tail_waits hs hc hn inv _ i0 rfl hi1 hi2 j hh)
      rw [show g + 1 + (l.toArray.size - n) = (g + (l.toArray.size - n)) + 1 by omega]
      refine ⟨fun hnil => ?_, fun i hi => ?_⟩
      · -- some operation of the head is ready: the first of those that are still to come by the order of its waits
        exfalso
        have hmin : ∃ i, i < n ∧ i ∈ Region.ready .any l.toArray seen := by
          exact headReadyG hB inv hi1 hi2
        obtain ⟨i, _, hir⟩ := hmin
        rw [hnil] at hir
        cases hir
      · have hin := early i hi
        obtain ⟨hun, o', ho', hall⟩ := mem_ready.1 hi
        obtain ⟨o, t, ho, hgd, hdst, hdis, _⟩ := hspec i hin
        have : o' = o := Option.some.inj (ho'.symm.trans ho)
        subst this
        have hdi : dstAt l.toArray i = some t := by simp [dstAt, ho, hdst]
        have hlo : (l.take n)[i]? = some o' := by
          rw [List.getElem?_take, if_pos hin]
          simpa using ho
        have st := guardSteps_at (l.take n) 0 hstep i o' hlo
        rw [Nat.zero_add] at st
        have hnd : (List.range n).Nodup := List.nodup_range
        have hisz : i < seen.size := by rw [inv.size]; omega
        have hus : seen.getD i false = false := getD_both hun
        unfold wpOp
        simp only [ho]
        have keepW : ∀ (v : Value) (j : Nat), j < n → (seen.getD j false = true ∨ j = i) → wantedAt l.toArray j ((fillA l.toArray vs seen (List.range n) f).put (some t) v).tmps = wantedAt l.toArray j (fillA l.toArray vs seen (List.range n) f).tmps := fun v j hj hor => wantedAt_put fun o3 g3 b3 ho3 hg3 => by
          obtain ⟨o2, t2, ho2, hg2, _, _, _⟩ := hspec j hj
          have : o3 = o2 := Option.some.inj (ho3.symm.trans ho2)
          subst this
          obtain ⟨hgj, e, he, hb, hon⟩ := hg2 g3 b3 hg3
          have hne : g3 ≠ i := fun eg => by
            rcases hor with h1 | h1
            · have h2 := inv.closed j o3 ho2 h1 e he hb
              rw [hon, eg, hus] at h2
              cases h2
            · omega
          exact hdis g3 (by omega) hne
        have hput : ∀ v : Value, fillA l.toArray (updN vs i v) (seen.setIfInBounds i true) (List.range n) f = (fillA l.toArray vs seen (List.range n) f).put (some t) v := fun v => by
          rw [fillA_put (vs := vs) (v := v) hus hisz (List.range n) f (by simpa using hin) hnd (fun j hj hji d hd => by rw [hdi]; intro e; exact hdis j (by simpa using hj) hji (hd.trans e.symm)), hdi]
        have go : ∀ (v : Value) (W' : World), Ext W W' → (Region.wanted o' (yielded l.toArray (fillA l.toArray vs seen (List.range n) f).tmps) = true → (GR.at Rs i).r v W') → wpAny P .any l.toArray Q (g + (l.toArray.size - n)) (seen.setIfInBounds i true) ((fillA l.toArray vs seen (List.range n) f).put o'.dst v) W' := fun v W' hE' hr => by
          rw [hdst, ← hput v]
          refine ih _ _ _ ?_ (inv.set hi hin) (hE.trans hE') fun j hj hsj hw => ?_
          · have hlen := filter_set hisz hun n hin
            omega
          · rw [hput v] at hw
            by_cases hji : i = j
            · subst hji
              rw [keepW v i hin (Or.inr rfl), wantedAt_of ho] at hw
              rw [show updN vs i v i = v by simp [updN]]
              exact hr hw
            · rw [getD_set_ne false hji] at hsj
              rw [keepW v j hj (Or.inl hsj)] at hw
              rw [show updN vs i v j = vs j by simp [updN, Ne.symm hji]]
              exact (GR.at Rs j).keep (hR j hj hsj hw) hE'
        by_cases hwant : Region.wanted o' (yielded l.toArray (fillA l.toArray vs seen (List.range n) f).tmps) = true
        rotate_left
        · rw [if_neg hwant]
          exact go undef W (Ext.refl _) fun h1 => absurd h1 hwant
        rw [if_pos hwant]
        refine Or.inl (Oper.wp_mono ?_ (st _ W hE ?_ ?_ hwant))
        · rintro a' W' ⟨v, rfl, hE', hr⟩
          exact go v W' hE' fun _ => hr
        · intro j t' hj hd hwj
          obtain ⟨e, he, hh⟩ := Array.any_eq_true'.1 hj
          simp only [Bool.and_eq_true, decide_eq_true_eq] at hh
          obtain ⟨hb, rfl⟩ := hh
          have hsj := hall e he hb
          have hjn : e.on < n := by
            rcases Nat.lt_or_ge e.on n with h1 | h1
            · exact h1
            · exfalso
              rcases Nat.lt_or_ge e.on l.toArray.size with h2 | h2
              · have h3 := getD_both (inv.tail e.on h1 h2)
                rw [h3] at hsj; cases hsj
              · rw [Array.getD_eq_getD_getElem?, Array.getElem?_eq_none (by rw [inv.size]; exact h2)] at hsj
                simp at hsj
          rw [← eval_getD, fillA_at hsj hd (List.range n) f (hf _ _ hjn hd) (by simpa using hjn) hnd (fun k hk hkj hk2 => by
            obtain ⟨o2, t2, ho2, _, hd2, hdis2, _⟩ := hspec e.on hjn
            have e2 : dstAt l.toArray e.on = some t2 := by simp [dstAt, ho2, hd2]
            rw [e2] at hd
            exact hdis2 k (by simpa using hk) hkj (by rw [hk2, hd]))]
          exact hR _ hjn hsj hwj
        · intro t' hx
          rw [← eval_getD, ← eval_getD]
          refine fillA_other (List.range n) f fun j hj => ?_
          have := List.all_eq_true.1 hx j hj
          simpa using this
  have h0 := main n (Array.replicate l.toArray.size false) (fun _ => undef) w.drew ?_ ⟨by simp, fun j oj _ hl => (by rw [getD_replicate_false] at hl; cases hl), fun t _ ht => getD_in (by simpa using ht) (getD_replicate_false _ _)⟩ (Ext.drew w) (fun i _ hl _ => by rw [getD_replicate_false] at hl; cases hl)
  · have hfill : fillA l.toArray (fun _ => undef) (Array.replicate l.toArray.size false) (List.range n) f = f := by
      have : ∀ (t : List Nat) (f : Act), fillA l.toArray (fun _ => undef) (Array.replicate l.toArray.size false) t f = f := by
        intro t
        induction t with
        | nil => intro f; rfl
        | cons k t ih =>
          intro f
          rw [fillA_cons, if_neg (by rw [getD_replicate_false]; decide)]
          exact ih f
      exact this _ _
    rw [hfill, show n + (l.toArray.size - n) = l.toArray.size by omega] at h0
    exact h0
  · have : (List.range n).filter (fun i => !(Array.replicate l.toArray.size false).getD i true) = List.range n := by
      rw [List.filter_eq_self]
      intro i hi
      have : i < n := by simpa using hi
      have : i < l.length := by omega
      simp [this]
    rw [this]
    simp
end Go.Proofs.YtmafmebcgmegeaaGreatDoor

namespace Go.Proofs.YtmafmebcgmegeaaGreatDoor
open Go.RowKit Go.Sort
/-- A Boolean that is true where a fact holds alone. -/
def GR.yes (p : Prop) : GR := ⟨fun v _ => ∃ b : Bool, v = .bool b ∧ (b = true → p), fun h _ => h⟩
theorem placeE_good {r : Bell.Pl} (h : placeE r.x r.y r.z = 0) : GoodPl r := by
  obtain ⟨a1, a2, a3, a4⟩ := placeE_zero h
  exact ⟨a1, a2, a3, a4⟩
end Go.Proofs.YtmafmebcgmegeaaGreatDoor

namespace Go.Proofs.YtmafmebcgmegeaaGreatDoor
open Go.RowKit Go.Sort
set_option maxHeartbeats 2000000 in
set_option maxRecDepth 100000 in
theorem fixes_any (A : Option Addr) (n c : Nat) (l : List Bell.Fx) (w : World) (hz : TrAt w A n l) (hn : n ≤ 100000) :
    Calls Tryz.prog 36 #[.slice A n c] w fun e w' => ∃ A' c', e = .returned (.slice A' n c') ∧ TrAt w' A' n l ∧ (n ≤ c' ∧ c' ≤ 9223372036854775807) ∧ Below w.heap.size w w' := by
  obtain ⟨i0, hi, hz0, hz1, hz2⟩ := info_parts infoFix
  have HZ := Lib.hid hz
  clear hz
  go_enter Tryz.func36, Tryz.ntmps36
  go_wp2
  go_loopw [3, 5, 8] (fun v _ i wr => ∃ k : Nat, k ≤ n ∧ i = .int .i64 k ∧ OwnT wr w.heap.size v (l.take k) ∧ Below w.heap.size w wr) (fun _ _ i _ => n - (intOf i).toNat)
  case atStart => exact ⟨0, Nat.zero_le _, rfl, World.ownsRow_nil _ _ _ _, Below.refl _ _⟩
  case round =>
    obtain ⟨k, hk, rfl, hown, hb⟩ := hrel
    by_cases hlt : k < n
    · obtain ⟨b, off, rfl, hcc⟩ := (HZ.out.keep hb).2 (by omega)
      obtain ⟨P, hP⟩ : ∃ P, P = Bell.fxAt l k := ⟨_, rfl⟩
      obtain ⟨c0, c1, c2, c3, c4⟩ := hcc.2 k hlt
      rw [← hP] at c0 c1 c2 c3 c4
      have HT : Hid (l.take (k + 1) = l.take k ++ [P]) := by
        show _ = _
        have hkl : k < l.length := by rw [HZ.out.1]; exact hlt
        rw [hP, Bell.fxAt_get hkl]
        exact (List.take_append_getElem hkl).symm
      have hown0 : wr.ownsRow w.heap.size 152 5 u3 k (fxCells (l.take k)) := by
        have := hown
        unfold OwnT at this
        rwa [List.length_take, HZ.out.1, Nat.min_eq_left hk] at this
      have hsz := hb.size
      have HB := Lib.hid hb
      clear hcc hP hb hown
      go_wp2_with (at_builtin; refine wpList_append_own _ rfl _ _ 67 rfl w.heap.size 152 i0 (.agg #[.int .i64 0, .int .i64 0, .int .i64 0, .int .i64 0, .int .i64 0]) 5 40 Tryz.underlying67 hi hz0 hz1 hz2 rfl (by decide) _ _ _ rfl (World.ownsRow.alloc (World.ownsRow.alloc hown0 _) _) ⟨wr.heap.size + 1, 0, none⟩ 1 1 [.int .i64 P.t, .int .i64 P.x, .int .i64 P.y, .int .i64 P.z, .int .i64 P.p] rfl rfl (by have := cells_five_at (wr.alloc (.cells #[.int .i64 P.t, .int .i64 P.x, .int .i64 P.y, .int .i64 P.z, .int .i64 P.p] 140)) 152 (.int .i64 P.t) (.int .i64 P.x) (.int .i64 P.y) (.int .i64 P.z) (.int .i64 P.p); rw [World.size_alloc] at this; exact this) (by simp [Value.oneCell']) (by unfold maxLen; omega) (by omega) (by simp; omega) ?_; intro v' w1 hown' hgrow _)
      have R : OwnT w1 w.heap.size v' (l.take (k + 1)) := by
        unfold OwnT
        rw [HT.out, fxCells_snoc, List.length_append, List.length_take, HZ.out.1, Nat.min_eq_left hk]
        exact hown'
      have B1 : Below w.heap.size w w1 := Below.grown ((HB.out.alloc HB.out.size _).alloc (by simp; omega) _) hgrow (by simp; omega) (fun j hj => (hown0.lt j hj).1)
      clear hown' hgrow hown0
      go_wp2
      go_roundw
      case rel => exact ⟨k + 1, by omega, by go_num, R, B1⟩
      case measure => simp [intOf]; omega
    · obtain rfl : k = n := by omega
      have HB := Lib.hid hb
      have ho := OwnT.at_ hown
      rw [List.take_of_length_le (by rw [HZ.out.1]; omega), HZ.out.1] at ho
      obtain ⟨A', c', hv, hh, hcap⟩ := ho
      have HH := Lib.hid hh
      have HCA := Lib.hid hcap
      subst hv
      clear hb hown hh hcap
      go_wp2
      go_ret
      exact ⟨_, _, rfl, HH.out, HCA.out, HB.out⟩
/-- A track of the call's own. -/
def OwnTR (w : World) (base : Nat) (v : Value) (l : List Bell.Fx) : Prop := w.ownsRow base 140 5 v l.length (fxCells l)
theorem OwnTR.at_ {w : World} {base : Nat} {v : Value} {l : List Bell.Fx} (h : OwnTR w base v l) : ∃ A c, v = .slice A l.length c ∧ TrAt w A l.length l ∧ l.length ≤ c ∧ c ≤ 9223372036854775807 := by
  have h0 := h
  rcases h.2 with ⟨hv, hn⟩ | ⟨g, cap, cur, hv, hb, hg, hnc, hm, hs', ht⟩
  · exact ⟨none, 0, by rw [hv, hn], ⟨rfl, fun h => by omega⟩, by omega, by omega⟩
  · subst hv
    refine ⟨_, _, rfl, ⟨rfl, fun _ => ⟨g, 0, rfl, rfl, fun i hi => ?_⟩⟩, hnc, by unfold maxLen at hm; omega⟩
    obtain ⟨p0, p1, p2, p3, p4⟩ := fxCells_at l i hi
    unfold FixAt
    simp only [Nat.zero_add]
    refine ⟨?_, ?_, ?_, ?_, ?_⟩
    · rw [World.ownsRow.cellAt h0 (i * 5) (by omega)]; exact p0
    · rw [World.ownsRow.cellAt h0 (i * 5 + 1) (by omega)]; exact p1
    · rw [World.ownsRow.cellAt h0 (i * 5 + 2) (by omega)]; exact p2
    · rw [World.ownsRow.cellAt h0 (i * 5 + 3) (by omega)]; exact p3
    · rw [World.ownsRow.cellAt h0 (i * 5 + 4) (by omega)]; exact p4
theorem infoFixR : (Tryz.prog.info? 140).map (fun i => (i.zero, i.size, i.bytes)) = some (some (.agg #[.int .i64 0, .int .i64 0, .int .i64 0, .int .i64 0, .int .i64 0]), 5, 40) := by kernel_rfl
def spCells (l : List Bell.Sp) : List Value := l.flatMap fun p => [.int .i64 p.d, .int .i64 p.h, .int .i64 p.p]
theorem spCells_len (l : List Bell.Sp) : (spCells l).length = l.length * 3 := by
  induction l with
  | nil => rfl
  | cons p l ih => simp only [spCells, List.flatMap_cons, List.length_append, List.length_cons, List.length_nil] at *; omega
theorem spCells_at (l : List Bell.Sp) (i : Nat) (hi : i < l.length) : (spCells l)[i * 3]? = some (.int .i64 (Bell.spAt l i).d) ∧ (spCells l)[i * 3 + 1]? = some (.int .i64 (Bell.spAt l i).h) ∧ (spCells l)[i * 3 + 2]? = some (.int .i64 (Bell.spAt l i).p) := by
  induction l generalizing i with
  | nil => simp at hi
  | cons p l ih =>
    cases i with
    | zero => exact ⟨rfl, rfl, rfl⟩
    | succ i =>
      have := ih i (by simpa using hi)
      have e : spCells (p :: l) = Value.int .i64 p.d :: Value.int .i64 p.h :: Value.int .i64 p.p :: spCells l := rfl
      have ef : Bell.spAt (p :: l) (i + 1) = Bell.spAt l i := rfl
      rw [e, ef, show (i + 1) * 3 = i * 3 + 1 + 1 + 1 by omega]
      simpa using this
def OwnSp (w : World) (base : Nat) (v : Value) (l : List Bell.Sp) : Prop := w.ownsRow base 166 3 v l.length (spCells l)
theorem OwnSp.at_ {w : World} {base : Nat} {v : Value} {l : List Bell.Sp} (h : OwnSp w base v l) : ∃ A c, v = .slice A l.length c ∧ SpsAt w A l.length l := by
  have h0 := h
  rcases h.2 with ⟨hv, hn⟩ | ⟨g, cap, cur, hv, hb, hg, hnc, hm, hs', ht⟩
  · exact ⟨none, 0, by rw [hv, hn], ⟨rfl, fun h => by omega⟩⟩
  · subst hv
    refine ⟨_, _, rfl, ⟨rfl, fun _ => ⟨g, 0, rfl, fun i hi => ?_⟩⟩⟩
    obtain ⟨p0, p1, p2⟩ := spCells_at l i hi
    simp only [Nat.zero_add]
    refine ⟨?_, ?_, ?_⟩
    · rw [World.ownsRow.cellAt h0 (i * 3) (by omega)]; exact p0
    · rw [World.ownsRow.cellAt h0 (i * 3 + 1) (by omega)]; exact p1
    · rw [World.ownsRow.cellAt h0 (i * 3 + 2) (by omega)]; exact p2
end Go.Proofs.YtmafmebcgmegeaaGreatDoor

namespace Go.Proofs.YtmafmebcgmegeaaGreatDoor
open Go.RowKit Go.Sort
def ptCells (l : List Bell.Pt) : List Value := l.flatMap fun p => [.int .i64 p.x, .int .i64 p.y]
theorem ptCells_len (l : List Bell.Pt) : (ptCells l).length = l.length * 2 := by
  induction l with
  | nil => rfl
  | cons p l ih => simp only [ptCells, List.flatMap_cons, List.length_append, List.length_cons, List.length_nil] at *; omega
theorem ptCells_at (l : List Bell.Pt) (i : Nat) (hi : i < l.length) : (ptCells l)[i * 2]? = some (.int .i64 (Bell.ptAt l i).x) ∧ (ptCells l)[i * 2 + 1]? = some (.int .i64 (Bell.ptAt l i).y) := by
  induction l generalizing i with
  | nil => simp at hi
  | cons p l ih =>
    cases i with
    | zero => exact ⟨rfl, rfl⟩
    | succ i =>
      have := ih i (by simpa using hi)
      have e : ptCells (p :: l) = Value.int .i64 p.x :: Value.int .i64 p.y :: ptCells l := rfl
      have ef : Bell.ptAt (p :: l) (i + 1) = Bell.ptAt l i := rfl
      rw [e, ef, show (i + 1) * 2 = i * 2 + 1 + 1 by omega]
      simpa using this
theorem PtsAt.cellsAt {w : World} {g o n : Nat} {l : List Bell.Pt} (h : PtsAt w (some ⟨g, o, none⟩) n l) : ∀ j u, (ptCells l)[j]? = some u → w.cell? ((⟨g, o, none⟩ : Addr).add j) = some u := fun j u hu => by
  have hj : j < n * 2 := by
    have := (List.getElem?_eq_some_iff.1 hu).1
    rw [ptCells_len, h.1] at this
    exact this
  obtain ⟨b, off, he, hh⟩ := h.2 (by omega)
  cases he
  obtain ⟨c0, c1⟩ := hh (j / 2) (by omega)
  obtain ⟨d0, d1⟩ := ptCells_at l (j / 2) (by rw [h.1]; omega)
  rw [addAddr]
  rcases Nat.mod_two_eq_zero_or_one j with hm | hm
  · have e : j = j / 2 * 2 := by omega
    rw [e] at hu ⊢
    rw [d0] at hu
    rw [c0, ← hu]
  · have e : j = j / 2 * 2 + 1 := by omega
    rw [e] at hu ⊢
    rw [d1] at hu
    rw [← Nat.add_assoc, c1, ← hu]
/-- A copy of points. -/
def GR.pts (n : Nat) (l : List Bell.Pt) : GR := ⟨fun v W => ∃ g c, v = .slice (some ⟨g, 0, none⟩) n c ∧ PtsAt W (some ⟨g, 0, none⟩) n l ∧ n ≤ c ∧ c ≤ 9223372036854775807, fun ⟨g, c, e, h1, h2⟩ hE => ⟨g, c, e, h1.keep hE, h2⟩⟩
def GR.fls (k : List Bell.Fx) : GR := ⟨fun v W => ∃ A m c, v = .slice A m c ∧ TrAt W A m k, fun ⟨A, m, c, e, h1⟩ hE => ⟨A, m, c, e, h1.keep hE⟩⟩
def GR.row (n : Nat) (T : TypeId) (cs : Array Value) : GR := ⟨fun v W => ∃ g, v = .slice (some ⟨g, 0, none⟩) n n ∧ Blk W g T cs, fun ⟨g, e, h⟩ hE => ⟨g, e, h.below hE⟩⟩
end Go.Proofs.YtmafmebcgmegeaaGreatDoor

namespace Go.Proofs.YtmafmebcgmegeaaGreatDoor
open Go.RowKit Go.Sort
/-- A whole list appended to an empty one. -/
theorem wpList_copy {ops : Array Oper} {rest : List Oper} {o : Oper} {a : Act} {W : World} {Q : Exit → Act → World → Prop} (hgd : o.guard = none) (s x : Operand) (t e : TypeId) (i : TypeInfo) (z : Value) (size bytes : Nat)
    (ht : Tryz.prog.underlying t = some (.slice e)) (hi : Tryz.prog.info? e = some i) (hz0 : i.zero = some z) (hz1 : i.size = size) (hz2 : i.bytes = bytes) (hz3 : z.cells.size = size) (hsz : 0 < size)
    (ho : o.op = .call { callee := .builtin .append, args := #[s, x], argTypes := #[t, t] }) {n c b off : Nat} {cells : List Value}
    (hs : ∃ g, a.eval s = .slice (some ⟨g, 0, none⟩) 0 0) (hx : a.eval x = .slice (some ⟨b, off, none⟩) n c) (hn : 0 < n) (hl : cells.length = n * size)
    (hc : ∀ j u, cells[j]? = some u → W.cell? ((⟨b, off, none⟩ : Addr).add j) = some u) (h1 : n ≤ maxLen) (h2 : n * bytes ≤ 140737488355328)
    (hk : ∀ g c' W', Ext W W' → W'.ownsRow W.heap.size e size (.slice (some ⟨g, 0, none⟩) n c') n cells → n ≤ c' → c' ≤ 9223372036854775807 → wpList Tryz.prog ops Q rest (a.put o.dst (.slice (some ⟨g, 0, none⟩) n c')) W') :
    wpList Tryz.prog ops Q (o :: rest) a W := by
  refine wpList_plain hgd fun K hK' => ?_
  obtain ⟨g, hg⟩ := hs
  obtain ⟨v', w', hrun, r1, r2⟩ := run_append_arg_grows (P := Tryz.prog) W t o.type e i z size bytes ht hi hz0 hz1 hz2 hz3 hsz ⟨g, 0, none⟩ 0 0 [] (by simp) (fun j u h => by simp at h)
    ⟨b, off, none⟩ n c cells hl hc (by omega) (by omega) (by simpa using h2)
  obtain ⟨g1, g2, g3, g4, g5⟩ := r2
  have hE : Ext W w' := ⟨g1, g2, g3, g4, fun k hk => g5 k hk (by simp)⟩
  have h2 : w'.ownsRow W.heap.size e size v' n cells := by simpa using r1
  obtain ⟨gq, cq, hv, hnc, hm⟩ : ∃ gq cq, v' = .slice (some ⟨gq, 0, none⟩) n cq ∧ n ≤ cq ∧ cq ≤ 9223372036854775807 := by
    rcases h2.2 with ⟨_, h0⟩ | ⟨gq, cap, cur, hv, _, _, h3, h4, _⟩
    · omega
    · exact ⟨gq, cap, hv, h3, by unfold maxLen at h4; omega⟩
  subst hv
  unfold Oper.wp
  simp [execOp, ho, resolve, invoke, builtin, hg, hx, hrun, Result.andThen]
  exact hK' _ _ (hk gq cq w' hE h2 hnc hm)
theorem SpsAt.cellsAt {w : World} {g o n : Nat} {l : List Bell.Sp} (h : SpsAt w (some ⟨g, o, none⟩) n l) : ∀ j u, (spCells l)[j]? = some u → w.cell? ((⟨g, o, none⟩ : Addr).add j) = some u := fun j u hu => by
  have hj : j < n * 3 := by
    have := (List.getElem?_eq_some_iff.1 hu).1
    rw [spCells_len, h.1] at this
    exact this
  obtain ⟨b, off, he, hh⟩ := h.2 (by omega)
  cases he
  obtain ⟨c0, c1, c2⟩ := hh (j / 3) (by omega)
  obtain ⟨d0, d1, d2⟩ := spCells_at l (j / 3) (by rw [h.1]; omega)
  rw [addAddr]
  rcases (show j % 3 = 0 ∨ j % 3 = 1 ∨ j % 3 = 2 by omega) with hm | hm | hm
  · have e : j = j / 3 * 3 := by omega
    rw [e] at hu ⊢
    rw [d0] at hu
    rw [c0, ← hu]
  · have e : j = j / 3 * 3 + 1 := by omega
    rw [e] at hu ⊢
    rw [d1] at hu
    rw [← Nat.add_assoc, c1, ← hu]
  · have e : j = j / 3 * 3 + 2 := by omega
    rw [e] at hu ⊢
    rw [d2] at hu
    rw [← Nat.add_assoc, c2, ← hu]
/-- A procedure of the reference in a block of the call's own. -/
def OwnPr (w : World) (base g n c : Nat) (l : List Bell.Sp) : Prop := w.ownsRow base 161 3 (.slice (some ⟨g, 0, none⟩) n c) n (spCells l) ∧ l.length = n
theorem OwnPr.at_ {w : World} {base g n c : Nat} {l : List Bell.Sp} (h : OwnPr w base g n c l) : SpsAt w (some ⟨g, 0, none⟩) n l := by
  refine ⟨h.2, fun _ => ⟨g, 0, rfl, fun i hi => ?_⟩⟩
  obtain ⟨d0, d1, d2⟩ := spCells_at l i (by rw [h.2]; exact hi)
  refine ⟨?_, ?_, ?_⟩
  · rw [Nat.zero_add, World.ownsRow.cellAt h.1 (i * 3) (by omega)]; exact d0
  · rw [Nat.zero_add, World.ownsRow.cellAt h.1 (i * 3 + 1) (by omega)]; exact d1
  · rw [Nat.zero_add, World.ownsRow.cellAt h.1 (i * 3 + 2) (by omega)]; exact d2
theorem TrAt.cellsAt {w : World} {g o n : Nat} {l : List Bell.Fx} (h : TrAt w (some ⟨g, o, none⟩) n l) : ∀ j u, (fxCells l)[j]? = some u → w.cell? ((⟨g, o, none⟩ : Addr).add j) = some u := fun j u hu => by
  have hj : j < n * 5 := by
    have := (List.getElem?_eq_some_iff.1 hu).1
    rw [fxCells_len, h.1] at this
    exact this
  obtain ⟨b, off, he, _, hh⟩ := h.2 (by omega)
  cases he
  obtain ⟨c0, c1, c2, c3, c4⟩ := hh (j / 5) (by omega)
  obtain ⟨d0, d1, d2, d3, d4⟩ := fxCells_at l (j / 5) (by rw [h.1]; omega)
  rw [addAddr]
  rcases (show j % 5 = 0 ∨ j % 5 = 1 ∨ j % 5 = 2 ∨ j % 5 = 3 ∨ j % 5 = 4 by omega) with hm | hm | hm | hm | hm
  · have e : j = j / 5 * 5 := by omega
    rw [e] at hu ⊢
    rw [d0] at hu
    rw [c0, ← hu]
  · have e : j = j / 5 * 5 + 1 := by omega
    rw [e] at hu ⊢
    rw [d1] at hu
    rw [← Nat.add_assoc, c1, ← hu]
  · have e : j = j / 5 * 5 + 2 := by omega
    rw [e] at hu ⊢
    rw [d2] at hu
    rw [← Nat.add_assoc, c2, ← hu]
  · have e : j = j / 5 * 5 + 3 := by omega
    rw [e] at hu ⊢
    rw [d3] at hu
    rw [← Nat.add_assoc, c3, ← hu]
  · have e : j = j / 5 * 5 + 4 := by omega
    rw [e] at hu ⊢
    rw [d4] at hu
    rw [← Nat.add_assoc, c4, ← hu]
end Go.Proofs.YtmafmebcgmegeaaGreatDoor
