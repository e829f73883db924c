/- Part. -/
import Derived.Test.YtmafmebcgmegeaaGreatDoorGz2
import Derived.Test.YtmafmebcgmegeaaGreatDoorGz29
import Derived.BigQuiet
import Derived.Test.YtmafmebcgmegeaaGreatDoorGz19
import Derived.Test.YtmafmebcgmegeaaGreatDoorGz14
import Derived.Test.YtmafmebcgmegeaaGreatDoorGz24
import Derived.Test.YtmafmebcgmegeaaGreatDoorGz18
namespace Go.Proofs.YtmafmebcgmegeaaGreatDoor
open Go.RowKit Go.Sort
def guardB (ops : Array Oper) (n : Nat) : Bool :=
 Region.noSelect ops && decide (n < ops.size) && Region.sinkB .any ops n && Region.chainB .any ops n && Region.seqB .any ops (ops.size - n) n ((Array.replicate n true) ++ (Array.replicate (ops.size - n) false)) &&
  (List.range n).all fun i => match ops[i]? with
   | none => false
   | some o => (match o.guard with | none => true | some (j, _) => decide (j < i) && o.after.any fun e => Region.binds .any e && decide (e.on = j)) && (o.after.all fun e => !Region.binds .any e || decide (e.on < i)) && (match o.dst with | none => false | some t => (List.range n).all fun j => decide (j = i) || decide (dstAt ops j ≠ some t))
def wantedAt (ops : Array Oper) (j : Nat) (tmps : Array Value) : Bool := match ops[j]? with
 | some o => Region.wanted o (yielded ops tmps)
 | none => false
theorem wantedAt_of {ops : Array Oper} {j : Nat} {o : Oper} (h : ops[j]? = some o) (tmps : Array Value) : wantedAt ops j tmps = Region.wanted o (yielded ops tmps) := by unfold wantedAt; rw [h]
theorem yielded_put {ops : Array Oper} {g : Nat} {a : Act} {d : Tmp} {v : Value} (h : dstAt ops g ≠ some d) : yielded ops (a.put (some d) v).tmps g = yielded ops a.tmps g := by
 unfold yielded; unfold dstAt at h
 cases ht : (ops[g]?).bind (·.dst) with
 | none => rfl
 | some t =>
   have hne : d ≠ t := fun e => h (by rw [ht, e])
   simp [Act.put, Array.getElem?_setIfInBounds_ne hne]
theorem wantedAt_put {ops : Array Oper} {j : Nat} {a : Act} {d : Tmp} {v : Value} (h : ∀ o g b, ops[j]? = some o -> o.guard = some (g, b) -> dstAt ops g ≠ some d) : wantedAt ops j (a.put (some d) v).tmps = wantedAt ops j a.tmps := by
 unfold wantedAt
 cases ho : ops[j]? with
 | none => rfl
 | some o =>
   show Region.wanted o _ = Region.wanted o _
   unfold Region.wanted
   cases hg : o.guard with
   | none => rfl
   | some gb =>
     obtain ⟨g, b⟩ := gb; have := yielded_put (v := v) (a := a) (h o g b ho hg); simp only [this]
theorem wanted_by {ops : Array Oper} {j : Nat} {o : Oper} {a : Act} {g : Nat} {b : Bool} {t : Tmp} (ho : ops[j]? = some o) (hg : o.guard = some (g, b)) (ht : dstAt ops g = some t) (h : a.tmps[t]?.getD undef = .bool b) : wantedAt ops j a.tmps = true := by
 rw [wantedAt_of ho]; unfold Region.wanted; rw [hg]; unfold yielded; unfold dstAt at ht; simp only [ht, Option.bind_some]
 cases hv : a.tmps[t]? with
 | none => rw [hv] at h; simp [undef] at h
 | some u =>
   rw [hv] at h; simp only [Option.getD_some] at h; subst h
   simp
def GuardStep (P : Program) (Q : Exit -> Act -> World -> Prop) (ops : Array Oper) (f : Act) (w : World) (Rs : List GR) (n i : Nat) (o : Oper) : Prop :=
 ∀ (a : Act) (W : World), Ext w W -> (∀ j t, (o.after.any fun e => Region.binds .any e && decide (e.on = j)) = true -> dstAt ops j = some t -> wantedAt ops j a.tmps = true -> (GR.at Rs j).r (a.tmps[t]?.getD undef) W) -> (∀ t, outOf ops n (.tmp t) = true -> a.tmps[t]?.getD undef = f.tmps[t]?.getD undef) ->
   Region.wanted o (yielded ops a.tmps) = true -> Oper.wp P o a W (fun a' W' => ∃ v, a' = a.put o.dst v /\ Ext W W' /\ (GR.at Rs i).r v W') Q
def guardSteps (P : Program) (Q : Exit -> Act -> World -> Prop) (ops : Array Oper) (f : Act) (w : World) (Rs : List GR) (n : Nat) : List Oper -> Nat -> Prop
 | [], _ => True
 | o :: l, i => GuardStep P Q ops f w Rs n i o /\ guardSteps P Q ops f w Rs n l (i + 1)
theorem guardSteps_at {P : Program} {Q : Exit -> Act -> World -> Prop} {ops : Array Oper} {f : Act} {w : World} {Rs : List GR} {n : Nat} (l : List Oper) : ∀ (k : Nat), guardSteps P Q ops f w Rs n l k -> ∀ (i : Nat) (o : Oper), l[i]? = some o -> GuardStep P Q ops f w Rs n (k + i) o := by
 induction l with
 | nil => intro k _ i o h; simp at h
 | cons b t ih =>
   intro k h i o ho
   cases i with
   | zero => simp at ho; subst ho; exact h.1
   | succ i =>
     have := ih (k + 1) h.2 i o (by simpa using ho)
     rwa [show k + 1 + i = k + (i + 1) by omega] at this
theorem guardB_spec {ops : Array Oper} {n : Nat} (h : guardB ops n = true) : (∀ i, i < n -> ∃ o t, ops[i]? = some o /\ (∀ j b, o.guard = some (j, b) -> j < i /\ ∃ e, e ∈ o.after /\ Region.binds .any e = true /\ e.on = j) /\ o.dst = some t /\ (∀ j, j < n -> j ≠ i -> dstAt ops j ≠ some t) /\ ∀ e, e ∈ o.after -> Region.binds .any e = true -> e.on < i) := by
 intro i hi; unfold guardB at h; simp only [Bool.and_eq_true] at h; have h1 := List.all_eq_true.1 h.2 i (by simpa using hi)
 cases ho : ops[i]? with
 | none => rw [ho] at h1; simp at h1
 | some o =>
   rw [ho] at h1; simp only [Bool.and_eq_true] at h1; obtain ⟨⟨h2, h4⟩, h3⟩ := h1
   cases hd : o.dst with
   | none => rw [hd] at h3; simp at h3
   | some t =>
     rw [hd] at h3
     refine ⟨o, t, rfl, fun j b hg => (by
      rw [hg] at h2; simp only [Bool.and_eq_true, decide_eq_true_eq] at h2; obtain ⟨h5, h6⟩ := h2; obtain ⟨e, he, hh⟩ := Array.any_eq_true'.1 h6; simp only [Bool.and_eq_true, decide_eq_true_eq] at hh; exact ⟨h5, e, he, hh.1, hh.2⟩), hd, fun j hj hji => ?_, fun e he hb => ?_⟩
     ·have := List.all_eq_true.1 h3 j (by simpa using hj)
      simpa [hji] using this
     ·have := Array.all_eq_true_iff_forall_mem.1 h4 e he
      simpa [hb] using this
theorem headReadyG {ops : Array Oper} {n : Nat} {seen : Array Bool} (hB : guardB ops n = true) (inv : HeadInv .any ops n seen) : ∀ {i : Nat}, i < n -> seen.getD i true = false -> ∃ k, k < n /\ k ∈ Region.ready .any ops seen := by
 intro i
 induction i using Nat.strongRecOn with
 | _ i ih =>
   intro hi hun; obtain ⟨o, t, ho, _, _, _, hb⟩ := guardB_spec hB i hi
   by_cases hall : ∀ e, e ∈ o.after -> Region.binds .any e = true -> seen.getD e.on false = true
   ·exact ⟨i, hi, mem_ready.2 ⟨hun, o, ho, hall⟩⟩
   ·simp only [Classical.not_forall] at hall; obtain ⟨e, he, hbe, hne⟩ := hall; have h1 := hb e he hbe; have hlt : i < ops.size := (Array.getElem?_eq_some_iff.1 ho).1; exact ih e.on h1 (by omega) (getD_in (by rw [inv.size]; omega) (by simpa using hne))
theorem wp_region_guard {P : Program} {id : Nat} {Q : Exit -> Act -> World -> Prop} {f : Act} {w : World} {l : List Oper} (n : Nat) (hm : P.follows .mixedOrders = true) (hB : guardB l.toArray n = true) (Rs : List GR) (size : Nat) (hsz : f.tmps.size = size) (hfB : dstB l.toArray n size = true)
  (hstep : guardSteps P Q l.toArray f w Rs n (l.take n) 0)
  (h : ∀ (vs : Nat -> Value) (W : World), Ext w W -> (∀ i, i < n -> wantedAt l.toArray i ((List.range n).foldl (fun a i => a.put (dstAt l.toArray i) (vs i)) f).tmps = true -> (GR.at Rs i).r (vs i) W) -> wpList P l.toArray Q (l.drop n) ((List.range n).foldl (fun a i => a.put (dstAt l.toArray i) (vs i)) f) W) : (Code.region id l.toArray true).wp P Q f w := by
 have hf : ∀ i t, i < n -> dstAt l.toArray i = some t -> t < f.tmps.size := fun i t hi ht => by
  have := List.all_eq_true.1 hfB i (by simpa using hi); rw [ht] at this; rw [hsz]
  simpa using this
 have hspec := guardB_spec hB; have hB' := hB; unfold guardB at hB'; simp only [Bool.and_eq_true, decide_eq_true_eq] at hB'; obtain ⟨⟨⟨⟨⟨hsel, hn⟩, hs⟩, hc⟩, hseq⟩, _⟩ := hB'; have hn' : n < l.length := by simpa using hn
 have hdl : (l.drop n).length = l.toArray.size - n := by simp
 refine wp_region_any hm ?_
 -- the count of operations of the head that are still to come
 have main : ∀ (g : Nat) (seen : Array Bool) (vs : Nat -> Value) (W : World), ((List.range n).filter fun i => !seen.getD i true).length = g -> HeadInv .any l.toArray n seen -> Ext w W -> (∀ i, i < n -> seen.getD i false = true -> wantedAt l.toArray i (fillA l.toArray vs seen (List.range n) f).tmps = true -> (GR.at Rs i).r (vs i) W) ->
   wpAny P .any l.toArray Q (g + (l.toArray.size - n)) seen (fillA l.toArray vs seen (List.range n) f) W := by
  intro g
  induction g with
  | zero =>
    intro seen vs W hg inv hE hR
    have hall : ∀ i, i < n -> seen.getD i true = true := fun i hi => by
     have := List.eq_nil_of_length_eq_zero hg; rw [List.filter_eq_nil_iff] at this
     simpa using this i (by simpa using hi)
    have hsz := inv.size
    have hall' : ∀ i, i < n -> seen.getD i false = true := fun i hi => by
     have h1 : i < seen.size := by rw [hsz]; omega
     have h2 := hall i hi
     simp [h1] at h2 ⊢; exact h2
    have hseen : seen = (Array.replicate n true) ++ (Array.replicate (l.toArray.size - n) false) := by
     refine Array.ext (by simp [hsz]; omega) fun i h1 h2 => ?_
     rcases Nat.lt_or_ge i n with hi | hi
     ·have h3 := hall i hi
      simp [h1] at h3
      rw [h3, Array.getElem_append_left (by simpa using hi)]
      simp
     ·have h3 := inv.tail i hi (by rw [<- hsz]; exact h1)
      simp [h1] at h3
      rw [h3, Array.getElem_append_right (by simpa using hi)]
      simp
    have hfill : fillA l.toArray vs seen (List.range n) f = (List.range n).foldl (fun a i => a.put (dstAt l.toArray i) (vs i)) f := by
     have : ∀ (t : List Nat) (f : Act), (∀ i, i ∈ t -> i < n) -> fillA l.toArray vs seen t f = t.foldl (fun a i => a.put (dstAt l.toArray i) (vs i)) f := by
      intro t
      induction t with
      | nil => intro f _; rfl
      | cons k t ih =>
        intro f ht; rw [fillA_cons, List.foldl_cons, if_pos (hall' k (ht k (by simp)))]; exact ih _ fun i hi => ht i (List.mem_cons_of_mem _ hi)
     exact this _ _ fun i hi => by simpa using hi
    rw [hfill, Nat.zero_add]; have hs2 : Region.seqB .any l.toArray (l.toArray.size - n) n seen = true := by rw [hseen]; exact hseq
    have := wpAny_of_seq (md := .any) (Q' := Q) (l.drop n) n seen _ W (fun j => by simp [List.getElem?_drop]) (by rw [hdl]; exact hs2) (h vs W hE fun i hi hw => hR i hi (hall' i hi) (by rw [hfill]; exact hw))
    rwa [hdl] at this
  | succ g ih =>
    intro seen vs W hg inv hE hR
    obtain ⟨i0, hi0⟩ : ∃ i, i ∈ (List.range n).filter fun i => !seen.getD i true := by
     cases hl : (List.range n).filter fun i => !seen.getD i true with
     | nil => rw [hl] at hg; simp at hg
     | cons b t => exact ⟨b, by simp⟩
    rw [List.mem_filter] at hi0; have hi1 : i0 < n := by simpa using hi0.1
    have hi2 : seen.getD i0 true = false := by simpa using hi0.2
    have early : ∀ j, j ∈ Region.ready .any l.toArray seen -> j < n := fun j hj => (Nat.lt_or_ge j n).elim (fun h => h) fun hh => absurd hj (tail_waits hs hc hn inv _ i0 rfl hi1 hi2 j hh)
    rw [show g + 1 + (l.toArray.size - n) = (g + (l.toArray.size - n)) + 1 by omega]; refine ⟨fun hnil => ?_, fun i hi => ?_⟩
    ·-- some operation of the head is ready: the first of those that are still to come by the order of its waits
     exfalso
     have hmin : ∃ i, i < n /\ i ∈ Region.ready .any l.toArray seen := by
      exact headReadyG hB inv hi1 hi2
     obtain ⟨i, _, hir⟩ := hmin; rw [hnil] at hir
     cases hir
    ·have hin := early i hi; obtain ⟨hun, o', ho', hall⟩ := mem_ready.1 hi; obtain ⟨o, t, ho, hgd, hdst, hdis, _⟩ := hspec i hin; have : o' = o := Option.some.inj (ho'.symm.trans ho); subst this; have hdi : dstAt l.toArray i = some t := by simp [dstAt, ho, hdst]
     have hlo : (l.take n)[i]? = some o' := by
      rw [List.getElem?_take, if_pos hin]
      simpa using ho
     have st := guardSteps_at (l.take n) 0 hstep i o' hlo; rw [Nat.zero_add] at st; have hnd : (List.range n).Nodup := List.nodup_range; have hisz : i < seen.size := by rw [inv.size]; omega
     have hus : seen.getD i false = false := getD_both hun; unfold wpOp; simp only [ho]
     have keepW : ∀ (v : Value) (j : Nat), j < n -> (seen.getD j false = true ∨ j = i) -> wantedAt l.toArray j ((fillA l.toArray vs seen (List.range n) f).put (some t) v).tmps = wantedAt l.toArray j (fillA l.toArray vs seen (List.range n) f).tmps := fun v j hj hor => wantedAt_put fun o3 g3 b3 ho3 hg3 => by
      obtain ⟨o2, t2, ho2, hg2, _, _, _⟩ := hspec j hj; have : o3 = o2 := Option.some.inj (ho3.symm.trans ho2); subst this; obtain ⟨hgj, e, he, hb, hon⟩ := hg2 g3 b3 hg3
      have hne : g3 ≠ i := fun eg => by
       rcases hor with h1 | h1
       ·have h2 := inv.closed j o3 ho2 h1 e he hb; rw [hon, eg, hus] at h2
        cases h2
       ·omega
      exact hdis g3 (by omega) hne
     have hput : ∀ v : Value, fillA l.toArray (updN vs i v) (seen.setIfInBounds i true) (List.range n) f = (fillA l.toArray vs seen (List.range n) f).put (some t) v := fun v => by
      rw [fillA_put (vs := vs) (v := v) hus hisz (List.range n) f (by simpa using hin) hnd (fun j hj hji d hd => by rw [hdi]; intro e; exact hdis j (by simpa using hj) hji (hd.trans e.symm)), hdi]
     have go : ∀ (v : Value) (W' : World), Ext W W' -> (Region.wanted o' (yielded l.toArray (fillA l.toArray vs seen (List.range n) f).tmps) = true -> (GR.at Rs i).r v W') -> wpAny P .any l.toArray Q (g + (l.toArray.size - n)) (seen.setIfInBounds i true) ((fillA l.toArray vs seen (List.range n) f).put o'.dst v) W' := fun v W' hE' hr => by
      rw [hdst, <- hput v]; refine ih _ _ _ ?_ (inv.set hi hin) (hE.trans hE') fun j hj hsj hw => ?_
      ·have hlen := filter_set hisz hun n hin
       omega
      ·rw [hput v] at hw
       by_cases hji : i = j
       ·subst hji; rw [keepW v i hin (Or.inr rfl), wantedAt_of ho] at hw; rw [show updN vs i v i = v by simp [updN]]; exact hr hw
       ·rw [getD_set_ne false hji] at hsj; rw [keepW v j hj (Or.inl hsj)] at hw; rw [show updN vs i v j = vs j by simp [updN, Ne.symm hji]]; exact (GR.at Rs j).keep (hR j hj hsj hw) hE'
     by_cases hwant : Region.wanted o' (yielded l.toArray (fillA l.toArray vs seen (List.range n) f).tmps) = true
     rotate_left
     ·rw [if_neg hwant]; exact go undef W (Ext.refl _) fun h1 => absurd h1 hwant
     rw [if_pos hwant]; refine Or.inl (Oper.wp_mono ?_ (st _ W hE ?_ ?_ hwant))
     ·rintro a' W' ⟨v, rfl, hE', hr⟩; exact go v W' hE' fun _ => hr
     ·intro j t' hj hd hwj; obtain ⟨e, he, hh⟩ := Array.any_eq_true'.1 hj; simp only [Bool.and_eq_true, decide_eq_true_eq] at hh; obtain ⟨hb, rfl⟩ := hh; have hsj := hall e he hb
      have hjn : e.on < n := by
       rcases Nat.lt_or_ge e.on n with h1 | h1
       ·exact h1
       ·exfalso
        rcases Nat.lt_or_ge e.on l.toArray.size with h2 | h2
        ·have h3 := getD_both (inv.tail e.on h1 h2); rw [h3] at hsj; cases hsj
        ·rw [Array.getD_eq_getD_getElem?, Array.getElem?_eq_none (by rw [inv.size]; exact h2)] at hsj
         simp at hsj
      rw [<- eval_getD, fillA_at hsj hd (List.range n) f (hf _ _ hjn hd) (by simpa using hjn) hnd (fun k hk hkj hk2 => by
       obtain ⟨o2, t2, ho2, _, hd2, hdis2, _⟩ := hspec e.on hjn; have e2 : dstAt l.toArray e.on = some t2 := by simp [dstAt, ho2, hd2]
       rw [e2] at hd; exact hdis2 k (by simpa using hk) hkj (by rw [hk2, hd]))]
      exact hR _ hjn hsj hwj
     ·intro t' hx; rw [<- eval_getD, <- eval_getD]; refine fillA_other (List.range n) f fun j hj => ?_
      have := List.all_eq_true.1 hx j hj
      simpa using this
 have h0 := main n (Array.replicate l.toArray.size false) (fun _ => undef) w.drew ?_ ⟨by simp, fun j oj _ hl => (by rw [getD_replicate_false] at hl; cases hl), fun t _ ht => getD_in (by simpa using ht) (getD_replicate_false _ _)⟩ (Ext.drew w) (fun i _ hl _ => by rw [getD_replicate_false] at hl; cases hl)
 ·have hfill : fillA l.toArray (fun _ => undef) (Array.replicate l.toArray.size false) (List.range n) f = f := by
   have : ∀ (t : List Nat) (f : Act), fillA l.toArray (fun _ => undef) (Array.replicate l.toArray.size false) t f = f := by
    intro t
    induction t with
    | nil => intro f; rfl
    | cons k t ih =>
      intro f; rw [fillA_cons, if_neg (by rw [getD_replicate_false]; decide)]; exact ih f
   exact this _ _
  rw [hfill, show n + (l.toArray.size - n) = l.toArray.size by omega] at h0; exact h0
 ·have : (List.range n).filter (fun i => !(Array.replicate l.toArray.size false).getD i true) = List.range n := by
   rw [List.filter_eq_self]; intro i hi; have : i < n := by simpa using hi
   have : i < l.length := by omega
   simp [this]
  rw [this]
  simp
end Go.Proofs.YtmafmebcgmegeaaGreatDoor
