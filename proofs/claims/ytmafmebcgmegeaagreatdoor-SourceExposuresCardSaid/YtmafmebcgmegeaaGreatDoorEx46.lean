/- Texts Je of the proof. -/
import Derived.Test.YtmafmebcgmegeaaGreatDoorEx45
namespace Go.Proofs.YtmafmebcgmegeaaGreatDoor
open Go.RowKit Go.Sort
theorem firstN_get {size n i : Nat} (h : i < (firstN size n).size) : (firstN size n)[i]'h = decide (i < n) := by
  simp only [firstN, Array.getElem_append, Array.size_replicate, Array.getElem_replicate]
  split <;> simp_all
def sinkQ (ops : Array Oper) (n q : Nat) : Bool := (List.range n).all fun i => decide (i = q) || (List.range (n + 1)).any fun j => decide (i < j) && decide (j ≠ q) && Region.waitsFor .any ops j i
theorem tailQ_waits {ops : Array Oper} {n q : Nat} {listed : Array Bool} (hs : sinkQ ops n q = true) (hc : chainC ops n = true) (inv : HeadInv .any ops n listed) :
    ∀ (k i : Nat), n - i = k → i < n → i ≠ q → listed.getD i true = false → ∀ t, n ≤ t → t ∉ Region.ready .any ops listed := by
  intro k
  induction k using Nat.strongRecOn with
  | _ k ih =>
    intro i hd hi hiq hun t ht hr
    obtain ⟨htun, ot, hot, hall⟩ := mem_ready.1 hr
    have htlt : t < ops.size := (Array.getElem?_eq_some_iff.1 hot).1
    by_cases htn : t = n
    · subst htn
      have h1 := List.all_eq_true.1 hs i (List.mem_range.2 hi)
      simp only [Bool.or_eq_true, decide_eq_true_eq] at h1
      have h1 := h1.resolve_left hiq
      obtain ⟨j, hj, hj2⟩ := List.any_eq_true.1 h1
      simp only [Bool.and_eq_true, decide_eq_true_eq] at hj2
      obtain ⟨oj, hoj, e, he, hb, hon⟩ := Region.waitsFor_spec hj2.2
      have hjle : j ≤ t := by have := List.mem_range.1 hj; omega
      by_cases hjt : j = t
      · subst hjt
        have : oj = ot := Option.some.inj (hoj.symm.trans hot)
        subst this
        have h2 := hall e he hb
        rw [hon, getD_both hun] at h2
        cases h2
      · cases hl : listed.getD j false with
        | true =>
          have h2 := inv.closed j oj hoj hl e he hb
          rw [hon, getD_both hun] at h2
          cases h2
        | false =>
          have hjs : j < listed.size := by rw [inv.size]; omega
          exact ih (t - j) (by omega) j rfl (by omega) hj2.1.2 (getD_in hjs hl) t (Nat.le_refl _) hr
    · have h1 := List.all_eq_true.1 hc t (List.mem_range.2 htlt)
      simp only [Bool.or_eq_true, decide_eq_true_eq] at h1
      rcases h1 with h1 | h1
      · omega
      · obtain ⟨u, hu, hu2⟩ := List.any_eq_true.1 h1
        simp only [Bool.and_eq_true, decide_eq_true_eq] at hu2
        obtain ⟨o', ho', e, he, hb, hon⟩ := Region.waitsFor_spec hu2.2
        have : o' = ot := Option.some.inj (ho'.symm.trans hot)
        subst this
        have h2 := hall e he hb
        have hut : u < t := List.mem_range.1 hu
        rw [hon, getD_both (inv.tail u hu2.1 (by omega))] at h2
        cases h2
def growQB (ops : Array Oper) (n q : Nat) : Bool :=
  Region.noSelect ops && decide (n < ops.size) && decide (q < n) && Region.free .any ops ((firstN ops.size n).setIfInBounds q false) q && sinkQ ops n q && chainC ops n &&
    (List.range n).all fun i => match ops[i]? with
      | none => false
      | some o => o.guard.isNone && (o.after.all fun e => !Region.binds .any e || decide (e.on < i)) && (match o.dst with | none => false | some t => (List.range n).all fun j => decide (j = i) || decide (dstAt ops j ≠ some t))
theorem growQB_spec {ops : Array Oper} {n q : Nat} (h : growQB ops n q = true) : (∀ i, i < n → ∃ o t, ops[i]? = some o ∧ o.guard = none ∧ o.dst = some t ∧ (∀ j, j < n → j ≠ i → dstAt ops j ≠ some t) ∧ ∀ e, e ∈ o.after → Region.binds .any e = true → e.on < i) := by
  intro i hi
  unfold growQB at h
  simp only [Bool.and_eq_true] at h
  have h1 := List.all_eq_true.1 h.2 i (by simpa using hi)
  cases ho : ops[i]? with
  | none => rw [ho] at h1; simp at h1
  | some o =>
    rw [ho] at h1
    simp only [Bool.and_eq_true] at h1
    obtain ⟨⟨h2, h4⟩, h3⟩ := h1
    cases hd : o.dst with
    | none => rw [hd] at h3; simp at h3
    | some t =>
      rw [hd] at h3
      refine ⟨o, t, rfl, by simpa using h2, hd, fun j hj hji => ?_, fun e he hb => ?_⟩
      · have := List.all_eq_true.1 h3 j (by simpa using hj)
        simpa [hji] using this
      · have := Array.all_eq_true_iff_forall_mem.1 h4 e he
        simpa [hb] using this
theorem headReadyQ {ops : Array Oper} {n q : Nat} {seen : Array Bool} (hB : growQB ops n q = true) (inv : HeadInv .any ops n seen) : ∀ {i : Nat}, i < n → seen.getD i true = false → ∃ k, k < n ∧ k ∈ Region.ready .any ops seen := by
  intro i
  induction i using Nat.strongRecOn with
  | _ i ih =>
    intro hi hun
    obtain ⟨o, t, ho, _, _, _, hb⟩ := growQB_spec hB i hi
    by_cases hall : ∀ e, e ∈ o.after → Region.binds .any e = true → seen.getD e.on false = true
    · exact ⟨i, hi, mem_ready.2 ⟨hun, o, ho, hall⟩⟩
    · simp only [Classical.not_forall] at hall
      obtain ⟨e, he, hbe, hne⟩ := hall
      have h1 := hb e he hbe
      have hlt : i < ops.size := (Array.getElem?_eq_some_iff.1 ho).1
      exact ih e.on h1 (by omega) (getD_in (by rw [inv.size]; omega) (by simpa using hne))
theorem wp_region_growQ {P : Program} {id : Nat} {Q : Exit → Act → World → Prop} {f : Act} {w : World} {l : List Oper} (n q : Nat) (hm : P.follows .mixedOrders = true) (hB : growQB l.toArray n q = true) (Rs : List GR) (size : Nat) (hsz : f.tmps.size = size) (hfB : dstB l.toArray n size = true)
    (hQd : ∀ c a d v w, Q (.panic c) (a.put d v) w → Q (.panic c) a w)
    (hlate : ∀ (oq : Oper) (a : Act) (W : World), l.toArray[q]? = some oq → Ext w W → (∀ j t, (oq.after.any fun e => Region.binds .any e && decide (e.on = j)) = true → dstAt l.toArray j = some t → (GR.at Rs j).r (a.tmps[t]?.getD undef) W) → ∃ v, (∀ w', (execOp a.eval oq).run P w' = .ok (.value v) w') ∧ (GR.at Rs q).r v W)
    (hstep : growSteps P Q l.toArray f w Rs n (l.take n) 0)
    (h : ∀ (vs : Nat → Value) (W : World), Ext w W → (∀ i, i < n → (GR.at Rs i).r (vs i) W) → wpAny P .any l.toArray Q (l.toArray.size - n) (firstN l.toArray.size n) ((List.range n).foldl (fun a i => a.put (dstAt l.toArray i) (vs i)) f) W) : (Code.region id l.toArray true).wp P Q f w := by
  have hf : ∀ i t, i < n → dstAt l.toArray i = some t → t < f.tmps.size := fun i t hi ht => by
    have := List.all_eq_true.1 hfB i (by simpa using hi)
    rw [ht] at this
    rw [hsz]
    simpa using this
  have hspec := growQB_spec hB
  have hB' := hB
  unfold growQB at hB'
  simp only [Bool.and_eq_true, decide_eq_true_eq] at hB'
  obtain ⟨⟨⟨⟨⟨⟨hsel, hn⟩, hqn⟩, hfreeq⟩, hs⟩, hc⟩, _⟩ := hB'
  have hn' : n < l.length := by simpa using hn
  have hdl : (l.drop n).length = l.toArray.size - n := by simp
  refine wp_region_any hm ?_
  -- the count of operations of the head that are still to come
  have main : ∀ (g : Nat) (seen : Array Bool) (vs : Nat → Value) (W : World), ((List.range n).filter fun i => !seen.getD i true).length = g → HeadInv .any l.toArray n seen → Ext w W → (∀ i, i < n → seen.getD i false = true → (GR.at Rs i).r (vs i) W) →
      wpAny P .any l.toArray Q (g + (l.toArray.size - n)) seen (fillA l.toArray vs seen (List.range n) f) W := by
    intro g
    induction g with
    | zero =>
      intro seen vs W hg inv hE hR
      have hall : ∀ i, i < n → seen.getD i true = true := fun i hi => by
        have := List.eq_nil_of_length_eq_zero hg
        rw [List.filter_eq_nil_iff] at this
        simpa using this i (by simpa using hi)
      have hsz := inv.size
      have hall' : ∀ i, i < n → seen.getD i false = true := fun i hi => by
        have h1 : i < seen.size := by rw [hsz]; omega
        have h2 := hall i hi
        simp [h1] at h2 ⊢; exact h2
      have hseen : seen = (Array.replicate n true) ++ (Array.replicate (l.toArray.size - n) false) := by
        refine Array.ext (by simp [hsz]; omega) fun i h1 h2 => ?_
        rcases Nat.lt_or_ge i n with hi | hi
        · have h3 := hall i hi
          simp [h1] at h3
          rw [h3, Array.getElem_append_left (by simpa using hi)]
          simp
        · have h3 := inv.tail i hi (by rw [← hsz]; exact h1)
          simp [h1] at h3
          rw [h3, Array.getElem_append_right (by simpa using hi)]
          simp
      have hfill : fillA l.toArray vs seen (List.range n) f = (List.range n).foldl (fun a i => a.put (dstAt l.toArray i) (vs i)) f := by
        have : ∀ (t : List Nat) (f : Act), (∀ i, i ∈ t → i < n) → fillA l.toArray vs seen t f = t.foldl (fun a i => a.put (dstAt l.toArray i) (vs i)) f := by
          intro t
          induction t with
          | nil => intro f _; rfl
          | cons k t ih =>
            intro f ht
            rw [fillA_cons, List.foldl_cons, if_pos (hall' k (ht k (by simp)))]
            exact ih _ fun i hi => ht i (List.mem_cons_of_mem _ hi)
        exact this _ _ fun i hi => by simpa using hi
      rw [hfill, Nat.zero_add, show seen = firstN l.toArray.size n from hseen]
      exact h vs W hE fun i hi => hR i hi (hall' i hi)
    | succ g ih =>
      intro seen vs W hg inv hE hR
      obtain ⟨i0, hi0⟩ : ∃ i, i ∈ (List.range n).filter fun i => !seen.getD i true := by
        cases hl : (List.range n).filter fun i => !seen.getD i true with
        | nil => rw [hl] at hg; simp at hg
        | cons b t => exact ⟨b, by simp⟩
      rw [List.mem_filter] at hi0
      have hi1 : i0 < n := by simpa using hi0.1
      have hi2 : seen.getD i0 true = false := by simpa using hi0.2
      have depR : ∀ (o' : Oper), (∀ e ∈ o'.after, Region.binds .any e = true → seen.getD e.on false = true) → ∀ j t', (o'.after.any fun e => Region.binds .any e && decide (e.on = j)) = true → dstAt l.toArray j = some t' → (GR.at Rs j).r ((fillA l.toArray vs seen (List.range n) f).tmps[t']?.getD undef) W := fun o' hall j t' hj hd => by
        obtain ⟨e, he, hh⟩ := Array.any_eq_true'.1 hj
        simp only [Bool.and_eq_true, decide_eq_true_eq] at hh
        obtain ⟨hb, rfl⟩ := hh
        have hsj := hall e he hb
        have hjn : e.on < n := by
          rcases Nat.lt_or_ge e.on n with h1 | h1
          · exact h1
          · exfalso
            rcases Nat.lt_or_ge e.on l.toArray.size with h2 | h2
            · have h3 := getD_both (inv.tail e.on h1 h2)
              rw [h3] at hsj; cases hsj
            · rw [Array.getD_eq_getD_getElem?, Array.getElem?_eq_none (by rw [inv.size]; exact h2)] at hsj
              simp at hsj
        rw [← eval_getD, fillA_at hsj hd (List.range n) f (hf _ _ hjn hd) (by simpa using hjn) List.nodup_range (fun k hk hkj hk2 => by
          obtain ⟨o2, t2, ho2, _, hd2, hdis2, _⟩ := hspec e.on hjn
          have e2 : dstAt l.toArray e.on = some t2 := by simp [dstAt, ho2, hd2]
          rw [e2] at hd
          exact hdis2 k (by simpa using hk) hkj (by rw [hk2, hd]))]
        exact hR _ hjn hsj
      by_cases hlate' : ∃ i1, i1 < n ∧ i1 ≠ q ∧ seen.getD i1 true = false
      rotate_left
      · -- only the late one is to come: it is taken first
        have hallq : ∀ i, i < n → i ≠ q → seen.getD i true = true := fun i hi hiq => by
          cases hv : seen.getD i true with
          | true => rfl
          | false => exact absurd ⟨i, hi, hiq, hv⟩ hlate'
        have hi0q : i0 = q := Classical.byContradiction fun h => by rw [hallq i0 hi1 h] at hi2; cases hi2
        subst hi0q
        obtain ⟨oq, t, hoq, hgd, hdst, hdis, hbe⟩ := hspec i0 hqn
        have hsz := inv.size
        have hqs : i0 < seen.size := by rw [hsz]; omega
        have hall : ∀ e ∈ oq.after, Region.binds .any e = true → seen.getD e.on false = true := fun e he hb => by
          have h1 := hbe e he hb
          have h2 : e.on < seen.size := by omega
          have h3 := hallq e.on (by omega) (by omega)
          simp [h2] at h3 ⊢; exact h3
        have hseen : seen = (firstN l.toArray.size n).setIfInBounds i0 false := by
          refine Array.ext (by simp [hsz, firstN]; omega) fun i h1 h2 => ?_
          rw [Array.getElem_setIfInBounds (by simpa using h2)]
          by_cases hii : i0 = i
          · subst hii
            simp [h1] at hi2
            rw [hi2]; simp
          · rw [if_neg hii, firstN_get (by simpa using h2)]
            rcases Nat.lt_or_ge i n with hi | hi
            · have h3 := hallq i hi (Ne.symm hii)
              simp [h1] at h3
              rw [h3, decide_eq_true hi]
            · have h3 := inv.tail i hi (by rw [← hsz]; exact h1)
              simp [h1] at h3
              rw [h3, decide_eq_false (by omega)]
        obtain ⟨v, hv1, hv2⟩ := hlate oq _ W hoq hE (depR oq hall)
        have hdi : dstAt l.toArray i0 = some t := by simp [dstAt, hoq, hdst]
        have hfr := hfreeq
        rw [← hseen] at hfr
        rw [show g + 1 + (l.toArray.size - n) = (g + (l.toArray.size - n)) + 1 by omega]
        have hir : i0 ∈ Region.ready .any l.toArray seen := mem_ready.2 ⟨hi2, oq, hoq, hall⟩
        refine wpAny_first (md := .any) hoq (Region.noSelect_spec hsel) (fun c a w h => hQd c a _ _ w h) _ seen _ W (Region.free_spec hoq hfr) hir (Or.inl ⟨by simp [Region.wanted, hgd], hv1⟩) ?_
        rw [hdst, ← hdi, ← fillA_put (vs := vs) (v := v) (getD_both hi2) hqs (List.range n) f (by simpa using hqn) List.nodup_range (fun j hj hji d hd => by rw [hdi]; intro e; exact hdis j (by simpa using hj) hji (hd.trans e.symm))]
        refine ih _ _ _ ?_ (inv.set hir hqn) hE fun j hj hsj => ?_
        · have hlen := filter_set hqs hi2 n hqn
          omega
        · by_cases hji : i0 = j
          · subst hji
            rw [show updN vs i0 v i0 = v by simp [updN]]
            exact hv2
          · rw [getD_set_ne false hji] at hsj
            rw [show updN vs i0 v j = vs j by simp [updN, Ne.symm hji]]
            exact hR j hj hsj
      obtain ⟨i1, hi11, hi1q, hi12⟩ := hlate'
      have early : ∀ j, j ∈ Region.ready .any l.toArray seen → j < n := fun j hj => (Nat.lt_or_ge j n).elim (fun h => h) fun hh => absurd hj (tailQ_waits hs hc inv _ i1 rfl hi11 hi1q hi12 j hh)
      rw [show g + 1 + (l.toArray.size - n) = (g + (l.toArray.size - n)) + 1 by omega]
      refine ⟨fun hnil => ?_, fun i hi => ?_⟩
      · -- some operation of the head is ready: the first of those that are still to come by the order of its waits
        exfalso
        have hmin : ∃ i, i < n ∧ i ∈ Region.ready .any l.toArray seen := by
          exact headReadyQ hB inv hi1 hi2
        obtain ⟨i, _, hir⟩ := hmin
        rw [hnil] at hir
        cases hir
      · have hin := early i hi
        obtain ⟨hun, o', ho', hall⟩ := mem_ready.1 hi
        obtain ⟨o, t, ho, hgd, hdst, hdis, _⟩ := hspec i hin
        have : o' = o := Option.some.inj (ho'.symm.trans ho)
        subst this
        have hdi : dstAt l.toArray i = some t := by simp [dstAt, ho, hdst]
        have hlo : (l.take n)[i]? = some o' := by
          rw [List.getElem?_take, if_pos hin]
          simpa using ho
        have st := growSteps_at (l.take n) 0 hstep i o' hlo
        rw [Nat.zero_add] at st
        have hnd : (List.range n).Nodup := List.nodup_range
        have hisz : i < seen.size := by rw [inv.size]; omega
        have hus : seen.getD i false = false := getD_both hun
        unfold wpOp
        simp only [ho]
        rw [if_pos (by simp [Region.wanted, hgd])]
        refine Or.inl (Oper.wp_mono ?_ (st _ W hE ?_ ?_))
        · rintro a' W' ⟨v, rfl, hE', hr⟩
          rw [hdst, ← hdi, ← fillA_put (vs := vs) (v := v) hus hisz (List.range n) f (by simpa using hin) hnd (fun j hj hji d hd => by rw [hdi]; intro e; exact hdis j (by simpa using hj) hji (hd.trans e.symm))]
          refine ih _ _ _ ?_ (inv.set hi hin) (hE.trans hE') fun j hj hsj => ?_
          · have hlen := filter_set hisz hun n hin
            omega
          · by_cases hji : i = j
            · subst hji
              rw [show updN vs i v i = v by simp [updN]]
              exact hr
            · rw [getD_set_ne false hji] at hsj
              rw [show updN vs i v j = vs j by simp [updN, Ne.symm hji]]
              exact (GR.at Rs j).keep (hR j hj hsj) hE'
        · intro j t' hj hd
          obtain ⟨e, he, hh⟩ := Array.any_eq_true'.1 hj
          simp only [Bool.and_eq_true, decide_eq_true_eq] at hh
          obtain ⟨hb, rfl⟩ := hh
          have hsj := hall e he hb
          have hjn : e.on < n := by
            rcases Nat.lt_or_ge e.on n with h1 | h1
            · exact h1
            · exfalso
              rcases Nat.lt_or_ge e.on l.toArray.size with h2 | h2
              · have h3 := getD_both (inv.tail e.on h1 h2)
                rw [h3] at hsj; cases hsj
              · rw [Array.getD_eq_getD_getElem?, Array.getElem?_eq_none (by rw [inv.size]; exact h2)] at hsj
                simp at hsj
          rw [← eval_getD, fillA_at hsj hd (List.range n) f (hf _ _ hjn hd) (by simpa using hjn) hnd (fun k hk hkj hk2 => by
            obtain ⟨o2, t2, ho2, _, hd2, hdis2, _⟩ := hspec e.on hjn
            have e2 : dstAt l.toArray e.on = some t2 := by simp [dstAt, ho2, hd2]
            rw [e2] at hd
            exact hdis2 k (by simpa using hk) hkj (by rw [hk2, hd]))]
          exact hR _ hjn hsj
        · intro t' hx
          rw [← eval_getD, ← eval_getD]
          refine fillA_other (List.range n) f fun j hj => ?_
          have := List.all_eq_true.1 hx j hj
          simpa using this
  have h0 := main n (Array.replicate l.toArray.size false) (fun _ => undef) w.drew ?_ ⟨by simp, fun j oj _ hl => (by rw [getD_replicate_false] at hl; cases hl), fun t _ ht => getD_in (by simpa using ht) (getD_replicate_false _ _)⟩ (Ext.drew w) (fun i _ hl => by rw [getD_replicate_false] at hl; cases hl)
  · have hfill : fillA l.toArray (fun _ => undef) (Array.replicate l.toArray.size false) (List.range n) f = f := by
      have : ∀ (t : List Nat) (f : Act), fillA l.toArray (fun _ => undef) (Array.replicate l.toArray.size false) t f = f := by
        intro t
        induction t with
        | nil => intro f; rfl
        | cons k t ih =>
          intro f
          rw [fillA_cons, if_neg (by rw [getD_replicate_false]; decide)]
          exact ih f
      exact this _ _
    rw [hfill, show n + (l.toArray.size - n) = l.toArray.size by omega] at h0
    exact h0
  · have : (List.range n).filter (fun i => !(Array.replicate l.toArray.size false).getD i true) = List.range n := by
      rw [List.filter_eq_self]
      intro i hi
      have : i < n := by simpa using hi
      have : i < l.length := by omega
      simp [this]
    rw [this]
    simp
end Go.Proofs.YtmafmebcgmegeaaGreatDoor
