/- Part. -/
import Derived.Test.YtmafmebcgmegeaaGreatDoorGz24
import Derived.Test.YtmafmebcgmegeaaGreatDoorGz3
namespace Go.Proofs.YtmafmebcgmegeaaGreatDoor
open Go.RowKit
def allB2 (ops : Array Oper) : Bool := (List.range ops.size).all fun i => match ops[i]? with
 | none => false
 | some o => o.guard.isNone && (o.after.all fun e => !Region.binds .any e || decide (e.on < i)) && (match o.dst with | none => true | some t => (List.range ops.size).all fun j => decide (j = i) || decide (dstAt ops j ≠ some t))
theorem allB2_spec {ops : Array Oper} (h : allB2 ops = true) : (∀ i, i < ops.size -> ∃ o, ops[i]? = some o /\ o.guard = none /\ (∀ t, o.dst = some t -> ∀ j, j < ops.size -> j ≠ i -> dstAt ops j ≠ some t) /\ ∀ e, e ∈ o.after -> Region.binds .any e = true -> e.on < i) := by
 intro i hi; unfold allB2 at h; have h1 := List.all_eq_true.1 h i (by simpa using hi)
 cases ho : ops[i]? with
 | none => rw [ho] at h1; simp at h1
 | some o =>
   rw [ho] at h1; simp only [Bool.and_eq_true] at h1; obtain ⟨⟨h2, h4⟩, h3⟩ := h1; refine ⟨o, rfl, by simpa using h2, fun t hd j hj hji => ?_, fun e he hb => ?_⟩
   ·rw [hd] at h3; have := List.all_eq_true.1 h3 j (by simpa using hj)
    simpa [hji] using this
   ·have := Array.all_eq_true_iff_forall_mem.1 h4 e he
    simpa [hb] using this
theorem allReady2 {ops : Array Oper} {seen : Array Bool} (hB : allB2 ops = true) (inv : HeadInv .any ops ops.size seen) : ∀ {i : Nat}, i < ops.size -> seen.getD i true = false -> ∃ k, k < ops.size /\ k ∈ Region.ready .any ops seen := by
 intro i
 induction i using Nat.strongRecOn with
 | _ i ih =>
   intro hi hun; obtain ⟨o, ho, _, _, hb⟩ := allB2_spec hB i hi
   by_cases hall : ∀ e, e ∈ o.after -> Region.binds .any e = true -> seen.getD e.on false = true
   ·exact ⟨i, hi, mem_ready.2 ⟨hun, o, ho, hall⟩⟩
   ·simp only [Classical.not_forall] at hall; obtain ⟨e, he, hbe, hne⟩ := hall; have h1 := hb e he hbe; have hlt : i < ops.size := (Array.getElem?_eq_some_iff.1 ho).1; exact ih e.on h1 (by omega) (getD_in (by rw [inv.size]; omega) (by simpa using hne))
def OneStep (P : Program) (Q : Exit -> Act -> World -> Prop) (ops : Array Oper) (f : Act) (w : World) (S : Value -> World -> World -> Prop) (Rs : List GR) (n k j0 i : Nat) (o : Oper) : Prop :=
 ∀ (a : Act) (W : World), (i = k -> Ext w W) -> (Ext w W ∨ ∃ v0, AfterS w (S v0) W) -> (∀ j t, (o.after.any fun e => Region.binds .any e && decide (e.on = j)) = true -> dstAt ops j = some t -> (GR.at Rs j).r (a.tmps[t]?.getD undef) W) -> (∀ t, outOf ops n (.tmp t) = true -> a.tmps[t]?.getD undef = f.tmps[t]?.getD undef) ->
   Oper.wp P o a W (fun a' W' => ∃ v, a' = a.put o.dst v /\ (if i = k then ∃ t, dstAt ops j0 = some t /\ S (a.tmps[t]?.getD undef) W W' else Ext W W') /\ (GR.at Rs i).r v W') Q
def oneSteps (P : Program) (Q : Exit -> Act -> World -> Prop) (ops : Array Oper) (f : Act) (w : World) (S : Value -> World -> World -> Prop) (Rs : List GR) (n k j0 : Nat) : List Oper -> Nat -> Prop
 | [], _ => True
 | o :: l, i => OneStep P Q ops f w S Rs n k j0 i o /\ oneSteps P Q ops f w S Rs n k j0 l (i + 1)
theorem oneSteps_at {P : Program} {Q : Exit -> Act -> World -> Prop} {ops : Array Oper} {f : Act} {w : World} {S : Value -> World -> World -> Prop} {Rs : List GR} {n k j0 : Nat} (l : List Oper) : ∀ (q : Nat), oneSteps P Q ops f w S Rs n k j0 l q -> ∀ (i : Nat) (o : Oper), l[i]? = some o -> OneStep P Q ops f w S Rs n k j0 (q + i) o := by
 induction l with
 | nil => intro q _ i o h; simp at h
 | cons b t ih =>
   intro q h i o ho
   cases i with
   | zero => simp at ho; subst ho; exact h.1
   | succ i =>
     have := ih (q + 1) h.2 i o (by simpa using ho)
     rwa [show q + 1 + i = q + (i + 1) by omega] at this
theorem wp_region_one {P : Program} {id : Nat} {Q : Exit -> Act -> World -> Prop} {f : Act} {w : World} {l : List Oper} (k j0 : Nat) (hkn : k < l.length) (hjk : ∃ o, l[k]? = some o /\ (o.after.any fun e => Region.binds .any e && decide (e.on = j0)) = true) (S : Value -> World -> World -> Prop) (hm : P.follows .mixedOrders = true) (hB : allB2 l.toArray = true) (Rs : List GR) (size : Nat) (hsz : f.tmps.size = size) (hfB : dstB l.toArray l.length size = true)
  (hkS : ∀ j, j < l.length -> ∀ v v0 W W', (GR.at Rs j).r v W -> S v0 W W' -> (GR.at Rs j).r v W') (hstep : oneSteps P Q l.toArray f w S Rs l.length k j0 l 0)
  (h : ∀ (vs : Nat -> Value) (W : World), AfterS w (S (vs j0)) W -> (∀ i, i < l.length -> (GR.at Rs i).r (vs i) W) -> wpList P l.toArray Q [] ((List.range l.length).foldl (fun a i => a.put (dstAt l.toArray i) (vs i)) f) W) : (Code.region id l.toArray true).wp P Q f w := by
 obtain ⟨n, hn⟩ : ∃ n, n = l.length := ⟨_, rfl⟩; rw [<- hn] at hfB hstep h hkn hkS
 have hf : ∀ i t, i < n -> dstAt l.toArray i = some t -> t < f.tmps.size := fun i t hi ht => by
  have := List.all_eq_true.1 hfB i (by simpa using hi); rw [ht] at this; rw [hsz]
  simpa using this
 have hspec := allB2_spec hB; have hnz : l.toArray.size = n := by rw [hn]; simp
 have hspec : ∀ i, i < n -> ∃ o, l.toArray[i]? = some o /\ o.guard = none /\ (∀ t, o.dst = some t -> ∀ j, j < n -> j ≠ i -> dstAt l.toArray j ≠ some t) /\ ∀ e, e ∈ o.after -> Region.binds .any e = true -> e.on < i := by
  rw [<- hnz]; exact hspec
 have hdl : ([] : List Oper).length = l.toArray.size - n := by rw [hnz]; simp
 refine wp_region_any hm ?_
 -- the count of operations of the head that are still to come
 have main : ∀ (g : Nat) (seen : Array Bool) (vs : Nat -> Value) (W : World), ((List.range n).filter fun i => !seen.getD i true).length = g -> HeadInv .any l.toArray n seen -> StS w (S (vs j0)) k seen W -> (∀ i, i < n -> seen.getD i false = true -> (GR.at Rs i).r (vs i) W) ->
   wpAny P .any l.toArray Q (g + (l.toArray.size - n)) seen (fillA l.toArray vs seen (List.range n) f) W := by
  intro g
  induction g with
  | zero =>
    intro seen vs W hg inv hE hR
    have hall : ∀ i, i < n -> seen.getD i true = true := fun i hi => by
     have := List.eq_nil_of_length_eq_zero hg; rw [List.filter_eq_nil_iff] at this
     simpa using this i (by simpa using hi)
    have hsz := inv.size
    have hall' : ∀ i, i < n -> seen.getD i false = true := fun i hi => by
     have h1 : i < seen.size := by rw [hsz]; omega
     have h2 := hall i hi
     simp [h1] at h2 ⊢; exact h2
    have hseen : seen = (Array.replicate n true) ++ (Array.replicate (l.toArray.size - n) false) := by
     refine Array.ext (by simp [hsz]; omega) fun i h1 h2 => ?_
     rcases Nat.lt_or_ge i n with hi | hi
     ·have h3 := hall i hi
      simp [h1] at h3
      rw [h3, Array.getElem_append_left (by simpa using hi)]
      simp
     ·have h3 := inv.tail i hi (by rw [<- hsz]; exact h1)
      simp [h1] at h3
      rw [h3, Array.getElem_append_right (by simpa using hi)]
      simp
    have hfill : fillA l.toArray vs seen (List.range n) f = (List.range n).foldl (fun a i => a.put (dstAt l.toArray i) (vs i)) f := by
     have : ∀ (t : List Nat) (f : Act), (∀ i, i ∈ t -> i < n) -> fillA l.toArray vs seen t f = t.foldl (fun a i => a.put (dstAt l.toArray i) (vs i)) f := by
      intro t
      induction t with
      | nil => intro f _; rfl
      | cons k t ih =>
        intro f ht; rw [fillA_cons, List.foldl_cons, if_pos (hall' k (ht k (by simp)))]; exact ih _ fun i hi => ht i (List.mem_cons_of_mem _ hi)
     exact this _ _ fun i hi => by simpa using hi
    rw [hfill, Nat.zero_add]
    have := wpAny_of_seq (md := .any) (Q' := Q) ([] : List Oper) n seen _ W (fun j => by simp [hn]) (by
     show (Region.ready .any l.toArray seen).isEmpty = true
     rw [List.isEmpty_iff, List.eq_nil_iff_forall_not_mem]; intro j hj; obtain ⟨h1, o, h2, _⟩ := mem_ready.1 hj; have h3 := hall j (by rw [<- hnz]; exact (Array.getElem?_eq_some_iff.1 h2).1); rw [h3] at h1
     cases h1) (h vs W (StS.done hE (hall' k hkn)) fun i hi => hR i hi (hall' i hi))
    rwa [hdl] at this
  | succ g ih =>
    intro seen vs W hg inv hE hR
    obtain ⟨i0, hi0⟩ : ∃ i, i ∈ (List.range n).filter fun i => !seen.getD i true := by
     cases hl : (List.range n).filter fun i => !seen.getD i true with
     | nil => rw [hl] at hg; simp at hg
     | cons b t => exact ⟨b, by simp⟩
    rw [List.mem_filter] at hi0; have hi1 : i0 < n := by simpa using hi0.1
    have hi2 : seen.getD i0 true = false := by simpa using hi0.2
    have early : ∀ j, j ∈ Region.ready .any l.toArray seen -> j < n := fun j hj => by
     obtain ⟨_, o, ho, _⟩ := mem_ready.1 hj; rw [<- hnz]; exact (Array.getElem?_eq_some_iff.1 ho).1
    rw [show g + 1 + (l.toArray.size - n) = (g + (l.toArray.size - n)) + 1 by omega]; refine ⟨fun hnil => ?_, fun i hi => ?_⟩
    ·-- some operation of the head is ready: the first of those that are still to come by the order of its waits
     exfalso
     have hmin : ∃ i, i < n /\ i ∈ Region.ready .any l.toArray seen := by
      have h9 := allReady2 hB (by rw [hnz]; exact inv) (by rw [hnz]; exact hi1) hi2; rw [hnz] at h9; exact h9
     obtain ⟨i, _, hir⟩ := hmin; rw [hnil] at hir
     cases hir
    ·have hin := early i hi; obtain ⟨hun, o', ho', hall⟩ := mem_ready.1 hi; obtain ⟨o, ho, hgd, hdis, hbk⟩ := hspec i hin; have : o' = o := Option.some.inj (ho'.symm.trans ho); subst this; have hdi : dstAt l.toArray i = o'.dst := by simp [dstAt, ho]
     have hlo : l[i]? = some o' := by simpa using ho
     have st := oneSteps_at l 0 hstep i o' hlo; rw [Nat.zero_add] at st; have hnd : (List.range n).Nodup := List.nodup_range; have hisz : i < seen.size := by rw [inv.size]; omega
     have hus : seen.getD i false = false := getD_both hun; unfold wpOp; simp only [ho]; rw [if_pos (by simp [Region.wanted, hgd])]
     refine Or.inl (Oper.wp_mono ?_ (st _ W (fun e => hE.early (by rw [<- e]; exact hus)) (by
      rcases hE.base with h' | h'
      ·exact .inl h'
      ·exact .inr ⟨_, h'⟩) ?_ ?_))
     ·rintro a' W' ⟨v, rfl, hE', hr⟩
      have hj0 : i = k -> seen.getD j0 false = true := fun e => by
       obtain ⟨ok, hok, hany⟩ := hjk; rw [<- e] at hok; obtain rfl : o' = ok := Option.some.inj (hlo.symm.trans hok); obtain ⟨e, he, hh⟩ := Array.any_eq_true'.1 hany; simp only [Bool.and_eq_true, decide_eq_true_eq] at hh; rw [<- hh.2]; exact hall e he hh.1
      have hk0 : seen.getD k false = true -> seen.getD j0 false = true := fun e => by
       obtain ⟨ok, hok, hany⟩ := hjk; obtain ⟨e2, he, hh⟩ := Array.any_eq_true'.1 hany; simp only [Bool.and_eq_true, decide_eq_true_eq] at hh; rw [<- hh.2]; exact inv.closed k ok (by simpa using hok) e e2 he hh.1
      have hE2 : if i = k then S (vs j0) W W' else Ext W W' := by
       by_cases hik : i = k
       ·rw [if_pos hik] at hE' ⊢; obtain ⟨ok, hok, hany⟩ := hjk; rw [<- hik] at hok; obtain rfl : o' = ok := Option.some.inj (hlo.symm.trans hok); obtain ⟨t0, ht0, hS⟩ := hE'
        have hjn : j0 < n := by
         rcases Nat.lt_or_ge j0 n with h1 | h1
         ·exact h1
         ·have := hj0 hik; rw [Array.getD_eq_getD_getElem?, Array.getElem?_eq_none (by rw [inv.size, hnz]; exact h1)] at this
          simp at this
        rw [<- eval_getD, fillA_at (hj0 hik) ht0 (List.range n) f (hf _ _ hjn ht0) (by simpa using hjn) hnd (fun q hq hqj hq2 => by
         obtain ⟨o2, ho2, _, hdis2, _⟩ := hspec j0 hjn
         have e2 : o2.dst = some t0 := by
          have : dstAt l.toArray j0 = o2.dst := by simp [dstAt, ho2]
          rw [<- this]; exact ht0
         exact hdis2 t0 e2 q (by simpa using hq) hqj hq2)] at hS
        exact hS
       ·rw [if_neg hik] at hE' ⊢; exact hE'
      rw [<- hdi, <- fillA_put (vs := vs) (v := v) hus hisz (List.range n) f (by simpa using hin) hnd (fun j hj hji d hd => by rw [hdi]; intro e; exact hdis d e j (by simpa using hj) hji hd)]
      refine ih _ _ _ ?_ (inv.set hi hin) (by
       by_cases hi0 : i = j0
       ·have hkf : seen.getD k false = false := by
         cases hkk : seen.getD k false with
         | false => rfl
         | true =>
           have := hk0 hkk; rw [<- hi0, hus] at this
           cases this
        have hik : ¬ i = k := fun e => by
         have := hj0 e; rw [<- hi0, hus] at this
         cases this
        rw [if_neg hik] at hE2; refine StS.start ?_ ((hE.early hkf).trans hE2); rw [getD_set_ne false hik]; exact hkf
       ·rw [show updN vs i v j0 = vs j0 by simp [updN, Ne.symm hi0]]; exact hE.step hisz hus hE2) fun j hj hsj => ?_
      ·have hlen := filter_set hisz hun n hin
       omega
      ·by_cases hji : i = j
       ·subst hji; rw [show updN vs i v i = v by simp [updN]]; exact hr
       ·rw [getD_set_ne false hji] at hsj; rw [show updN vs i v j = vs j by simp [updN, Ne.symm hji]]; have hRj := hR j hj hsj
        by_cases hik : i = k
        ·rw [if_pos hik] at hE2; exact hkS j hj _ _ _ _ hRj hE2
        ·rw [if_neg hik] at hE2; exact (GR.at Rs j).keep hRj hE2
     ·intro j t' hj hd; obtain ⟨e, he, hh⟩ := Array.any_eq_true'.1 hj; simp only [Bool.and_eq_true, decide_eq_true_eq] at hh; obtain ⟨hb, rfl⟩ := hh; have hsj := hall e he hb
      have hjn : e.on < n := by
       rcases Nat.lt_or_ge e.on n with h1 | h1
       ·exact h1
       ·exfalso
        rcases Nat.lt_or_ge e.on l.toArray.size with h2 | h2
        ·have h3 := getD_both (inv.tail e.on h1 h2); rw [h3] at hsj; cases hsj
        ·rw [Array.getD_eq_getD_getElem?, Array.getElem?_eq_none (by rw [inv.size]; exact h2)] at hsj
         simp at hsj
      rw [<- eval_getD, fillA_at hsj hd (List.range n) f (hf _ _ hjn hd) (by simpa using hjn) hnd (fun k hk hkj hk2 => by
       obtain ⟨o2, ho2, _, hdis2, _⟩ := hspec e.on hjn
       have e2 : o2.dst = some t' := by
        have : dstAt l.toArray e.on = o2.dst := by simp [dstAt, ho2]
        rw [<- this]; exact hd
       exact hdis2 t' e2 k (by simpa using hk) hkj hk2)]
      exact hR _ hjn hsj
     ·intro t' hx; rw [<- eval_getD, <- eval_getD]; refine fillA_other (List.range n) f fun j hj => ?_
      have := List.all_eq_true.1 hx j hj
      simpa using this
 have h0 := main n (Array.replicate l.toArray.size false) (fun _ => undef) w.drew ?_ ⟨by simp, fun j oj _ hl => (by rw [getD_replicate_false] at hl; cases hl), fun t _ ht => getD_in (by simpa using ht) (getD_replicate_false _ _)⟩ (StS.start (by rw [getD_replicate_false]) (Ext.drew w)) (fun i _ hl => by rw [getD_replicate_false] at hl; cases hl)
 ·have hfill : fillA l.toArray (fun _ => undef) (Array.replicate l.toArray.size false) (List.range n) f = f := by
   have : ∀ (t : List Nat) (f : Act), fillA l.toArray (fun _ => undef) (Array.replicate l.toArray.size false) t f = f := by
    intro t
    induction t with
    | nil => intro f; rfl
    | cons k t ih =>
      intro f; rw [fillA_cons, if_neg (by rw [getD_replicate_false]; decide)]; exact ih f
   exact this _ _
  rw [hfill, show n + (l.toArray.size - n) = l.toArray.size by omega] at h0; exact h0
 ·have : (List.range n).filter (fun i => !(Array.replicate l.toArray.size false).getD i true) = List.range n := by
   rw [List.filter_eq_self]; intro i hi; have : i < n := by simpa using hi
   have : i < l.length := by omega
   simp [this]
  rw [this]
  simp
section
variable {P : Program} {Q : Exit -> Act -> World -> Prop} {o : Oper} {a : Act} {W W' : World} {r : Value -> World -> Prop} {E : World -> World -> Prop}
theorem one_same {i k : Nat} {X : World -> Prop} (hik : i ≠ k) {v : Value} (he : (execOp a.eval o).run P W = .ok (.value v) W) (hr : r v W) : Oper.wp P o a W (fun a' W' => ∃ v, a' = a.put o.dst v /\ (if i = k then X W' else Ext W W') /\ r v W') Q := by
 unfold Oper.wp; rw [he]; exact ⟨v, rfl, by rw [if_neg hik]; exact Ext.refl _, hr⟩
theorem one_val {i k : Nat} {X : World -> Prop} (hik : i ≠ k) {v : Value} (he : (execOp a.eval o).run P W = .ok (.value v) W') (hE : Ext W W') (hr : r v W') : Oper.wp P o a W (fun a' W' => ∃ v, a' = a.put o.dst v /\ (if i = k then X W' else Ext W W') /\ r v W') Q := by
 unfold Oper.wp; rw [he]; exact ⟨v, rfl, by rw [if_neg hik]; exact hE, hr⟩
theorem one_call {i k : Nat} {X : World -> Prop} (hik : i ≠ k) {f : FuncId} {args : Array Value} (he : (execOp a.eval o).run P W = .ok (.enter f args) W) (hc : Calls P f args W fun e w' => ∃ v, e = .returned v /\ Ext W w' /\ r v w') :
  Oper.wp P o a W (fun a' W' => ∃ v, a' = a.put o.dst v /\ (if i = k then X W' else Ext W W') /\ r v W') Q := by
 unfold Oper.wp; rw [he, Oper.upon_enter]; refine hc.mono ?_; rintro e w' ⟨v, rfl, hE, hr⟩; exact ⟨v, rfl, by rw [if_neg hik]; exact hE, hr⟩
end
theorem wp_region_oneN {P : Program} {id : Nat} {Q : Exit -> Act -> World -> Prop} {f : Act} {w : World} {l : List Oper} (n : Nat) (hn : l.length = n) (k j0 : Nat) (hkn : k < n) (hjk : ∃ o, l[k]? = some o /\ (o.after.any fun e => Region.binds .any e && decide (e.on = j0)) = true) (S : Value -> World -> World -> Prop) (hm : P.follows .mixedOrders = true) (hB : allB2 l.toArray = true) (Rs : List GR) (size : Nat) (hsz : f.tmps.size = size) (hfB : dstB l.toArray n size = true)
  (hkS : ∀ j, j < n -> ∀ v v0 W W', (GR.at Rs j).r v W -> S v0 W W' -> (GR.at Rs j).r v W') (hstep : oneSteps P Q l.toArray f w S Rs n k j0 l 0)
  (h : ∀ (vs : Nat -> Value) (W : World), AfterS w (S (vs j0)) W -> (∀ i, i < n -> (GR.at Rs i).r (vs i) W) -> wpList P l.toArray Q [] ((List.range n).foldl (fun a i => a.put (dstAt l.toArray i) (vs i)) f) W) : (Code.region id l.toArray true).wp P Q f w := by
 subst hn; exact wp_region_one k j0 hkn hjk S hm hB Rs size hsz hfB hkS hstep h
end Go.Proofs.YtmafmebcgmegeaaGreatDoor
namespace Go.Proofs.YtmafmebcgmegeaaGreatDoor
open Go.RowKit Go.Sort
theorem two_fls {w : World} {b ga gb : Nat} (h : Blk w b 168 #[.string oneN, .string jetN, .slice (some ⟨ga, 0, none⟩) 2 2, .string twoN, .string jetN, .slice (some ⟨gb, 0, none⟩) 2 2]) (ha : FixesAt w ga 0 2 trkL) (hb : FixesAt w gb 0 2 trkL) :
  FlsAt w (some ⟨b, 0, none⟩) 2 (twoFl (some ⟨ga, 0, none⟩) (some ⟨gb, 0, none⟩) 2 2) :=
 ⟨rfl, fun _ => ⟨b, 0, rfl, fun i hi => by
  match i, hi with
  | 0, _ => exact ⟨⟨(h.cell 0).trans rfl, (h.cell 1).trans rfl, (h.cell 2).trans rfl⟩, ⟨⟨rfl, fun _ => ⟨ga, 0, rfl, ha⟩⟩, (show 2 <= 140737488351232 by omega), (show 3 <= 140737488351232 by omega)⟩⟩
  | 1, _ => exact ⟨⟨(h.cell 3).trans rfl, (h.cell 4).trans rfl, (h.cell 5).trans rfl⟩, ⟨⟨rfl, fun _ => ⟨gb, 0, rfl, hb⟩⟩, (show 2 <= 140737488351232 by omega), (show 3 <= 140737488351232 by omega)⟩⟩⟩⟩
theorem one_tps {w : World} {b : Nat} {t : Tp} (h : Blk w b 42 t.cs) (k : TpOk w t) : TpsAt w (some ⟨b, 0, none⟩) 1 [t] :=
 ⟨rfl, fun _ => ⟨b, 0, rfl, fun i hi => by
  obtain rfl : i = 0 := by omega
  refine ⟨fun j hj => ?_, k⟩; have := h.cell j; rw [show (0 : Nat) + 0 * 13 + j = j by omega, this]
  show t.cs[j]? = some (t.cs.getD j undef)
  have hs : j < t.cs.size := hj
  simp [Array.getD, hs]⟩⟩
def jetV (g1 g2 g5 : Nat) : Array Value := #[.string jetN, .slice (some ⟨g1, 0, none⟩) 2 2, .int .i64 1000, .int .i64 1000, .int .i64 1000, .int .i64 1000, .int .i64 500, .int .i64 500, .int .i64 500, .int .i64 500, .int .i64 500, .slice (some ⟨g2, 0, none⟩) 2 2, .slice (some ⟨g5, 0, none⟩) 2 2]
theorem JetIs.lit {v : Value} {w : World} (h : JetIs v w) : ∃ g1 g2 g5, v = .agg (jetV g1 g2 g5) := by
 obtain ⟨t, e, g1, g2, g3, g4, g5, rfl, _⟩ := h; exact ⟨g1, g2, g5, e⟩
def TysIs (v : Value) (w : World) : Prop := ∃ (cs : Array Value) (b : Nat), v = .slice (some ⟨b, 0, none⟩) 1 1 /\ Blk w b 42 cs /\ JetIs (.agg cs) w
theorem TysIs.keep {v : Value} {w w' : World} (h : TysIs v w) (hb : Below w.heap.size w w') : TysIs v w' := by
 obtain ⟨cs, b, e, h1, h2⟩ := h; exact ⟨cs, b, e, h1.below hb, h2.keep hb⟩
def GR.tys : GR := ⟨TysIs, fun h hE => h.keep hE⟩
theorem aw_total {v : Value} {w : World} {A a b : Option Addr} (h : TysIs v w) (k : FlsAt w A 2 (twoFl a b 2 2)) :
  Calls Tryz.prog 63 #[v, .slice A 2 2, .agg #[.int .i64 4, .int .i64 2, .int .i64 0]] w fun e w' => e = .returned (.tuple #[.int .i64 5400, .int .i64 0]) /\ Below w.heap.size w w' := by
 obtain ⟨cs, g, rfl, h1, h2⟩ := h; obtain ⟨t, e, k1, k2, k3, k4, k5⟩ := h2.is; obtain rfl : cs = t.cs := Value.agg.inj e; have := Total_ok (some ⟨g, 0, none⟩) 1 1 [t] A 2 2 (twoFl a b 2 2) nearP expV w (one_tps h1 k1) k (listed_two t k2 k4 a b 2 2) (by omega) (fun _ _ => by unfold expV; omega)
 rwa [v_tot] at this
theorem aw_loud {v : Value} {w : World} {A a b : Option Addr} (h : TysIs v w) (k : FlsAt w A 2 (twoFl a b 2 2)) :
  Calls Tryz.prog 67 #[v, .slice A 2 2, .agg #[.int .i64 4, .int .i64 2, .int .i64 0]] w fun e w' => e = .returned (.tuple #[.string oneN, .int .i64 0]) /\ Below w.heap.size w w' := by
 obtain ⟨cs, g, rfl, h1, h2⟩ := h; obtain ⟨t, e, k1, k2, k3, k4, k5⟩ := h2.is; obtain rfl : cs = t.cs := Value.agg.inj e; have := Loudest_ok (some ⟨g, 0, none⟩) 1 1 [t] A 2 2 (twoFl a b 2 2) nearP expV w (one_tps h1 k1) k (listed_two t k2 k4 a b 2 2) (by omega) (by omega)
 rwa [v_best] at this
theorem aw_print {v : Value} {w : World} (h : JetIs v w) (F : FirstWords w) (T : Tab w) :
  Calls Tryz.prog 73 #[v] w fun e w' => e = .returned (.tuple #[.string jetPr, .int .i64 0]) /\ Below w.heap.size w w' := by
 obtain ⟨t, rfl, k1, k2, k3, k4, k5⟩ := h.is; have := Print_ok w k1 F T
 rwa [k2, k3, k4, v_pr] at this
end Go.Proofs.YtmafmebcgmegeaaGreatDoor
