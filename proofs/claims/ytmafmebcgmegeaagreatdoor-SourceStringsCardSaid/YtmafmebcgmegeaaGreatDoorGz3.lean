/- Part. -/
import Derived.Test.YtmafmebcgmegeaaGreatDoorGz2
import Derived.Test.YtmafmebcgmegeaaGreatDoorRows
namespace Go.Proofs.YtmafmebcgmegeaaGreatDoor
open Go.RowKit Go.Sort
def AfterS (w : World) (S : World -> World -> Prop) (W : World) : Prop := ∃ W1 W2, Ext w W1 /\ S W1 W2 /\ Ext W2 W
theorem AfterS.ext {w W W' : World} {S : World -> World -> Prop} (h : AfterS w S W) (hE : Ext W W') : AfterS w S W' := by
 obtain ⟨W1, W2, h1, h2, h3⟩ := h; exact ⟨W1, W2, h1, h2, h3.trans hE⟩
def StS (w : World) (S : World -> World -> Prop) (k : Nat) (seen : Array Bool) (W : World) : Prop := (seen.getD k false = true -> AfterS w S W) /\ (seen.getD k false = false -> Ext w W)
theorem StS.done {w W : World} {S : World -> World -> Prop} {k : Nat} {seen : Array Bool} (h : StS w S k seen W) (hk : seen.getD k false = true) : AfterS w S W := h.1 hk
theorem StS.early {w W : World} {S : World -> World -> Prop} {k : Nat} {seen : Array Bool} (h : StS w S k seen W) (hk : seen.getD k false = false) : Ext w W := h.2 hk
theorem StS.base {w W : World} {S : World -> World -> Prop} {k : Nat} {seen : Array Bool} (h : StS w S k seen W) : Ext w W ∨ AfterS w S W := by
 cases hk : seen.getD k false with
 | true => exact .inr (h.1 hk)
 | false => exact .inl (h.2 hk)
theorem StS.start {w W : World} {S : World -> World -> Prop} {k : Nat} {seen : Array Bool} (hk : seen.getD k false = false) (h : Ext w W) : StS w S k seen W := ⟨fun h' => (by rw [hk] at h'; cases h'), fun _ => h⟩
theorem StS.step {w W W' : World} {S : World -> World -> Prop} {k i : Nat} {seen : Array Bool} (h : StS w S k seen W) (hi : i < seen.size) (hun : seen.getD i false = false) (hE : if i = k then S W W' else Ext W W') : StS w S k (seen.setIfInBounds i true) W' := by
 by_cases hik : i = k
 ·subst hik; rw [if_pos rfl] at hE; exact ⟨fun _ => ⟨W, W', h.2 hun, hE, Ext.refl _⟩, fun h' => by simp [hi] at h'⟩
 ·rw [if_neg hik] at hE; unfold StS; rw [getD_set_ne false hik]; exact ⟨fun h' => (h.1 h').ext hE, fun h' => (h.2 h').trans hE⟩
def OnceStep (P : Program) (Q : Exit -> Act -> World -> Prop) (ops : Array Oper) (f : Act) (w : World) (S : World -> World -> Prop) (Rs : List GR) (n k i : Nat) (o : Oper) : Prop :=
 ∀ (a : Act) (W : World), (i = k -> Ext w W) -> (Ext w W ∨ AfterS w S W) -> (∀ j t, (o.after.any fun e => Region.binds .any e && decide (e.on = j)) = true -> dstAt ops j = some t -> (GR.at Rs j).r (a.tmps[t]?.getD undef) W) -> (∀ t, outOf ops n (.tmp t) = true -> a.tmps[t]?.getD undef = f.tmps[t]?.getD undef) ->
   Oper.wp P o a W (fun a' W' => ∃ v, a' = a.put o.dst v /\ (if i = k then S W W' else Ext W W') /\ (GR.at Rs i).r v W') Q
def onceSteps (P : Program) (Q : Exit -> Act -> World -> Prop) (ops : Array Oper) (f : Act) (w : World) (S : World -> World -> Prop) (Rs : List GR) (n k : Nat) : List Oper -> Nat -> Prop
 | [], _ => True
 | o :: l, i => OnceStep P Q ops f w S Rs n k i o /\ onceSteps P Q ops f w S Rs n k l (i + 1)
theorem onceSteps_at {P : Program} {Q : Exit -> Act -> World -> Prop} {ops : Array Oper} {f : Act} {w : World} {S : World -> World -> Prop} {Rs : List GR} {n k : Nat} (l : List Oper) : ∀ (q : Nat), onceSteps P Q ops f w S Rs n k l q -> ∀ (i : Nat) (o : Oper), l[i]? = some o -> OnceStep P Q ops f w S Rs n k (q + i) o := by
 induction l with
 | nil => intro q _ i o h; simp at h
 | cons b t ih =>
   intro q h i o ho
   cases i with
   | zero => simp at ho; subst ho; exact h.1
   | succ i =>
     have := ih (q + 1) h.2 i o (by simpa using ho)
     rwa [show q + 1 + i = q + (i + 1) by omega] at this
theorem wp_region_once {P : Program} {id : Nat} {Q : Exit -> Act -> World -> Prop} {f : Act} {w : World} {l : List Oper} (n k : Nat) (hkn : k < n) (S : World -> World -> Prop) (hm : P.follows .mixedOrders = true) (hB : growB l.toArray n = true) (Rs : List GR) (size : Nat) (hsz : f.tmps.size = size) (hfB : dstB l.toArray n size = true)
  (hkS : ∀ j, j < n -> ∀ v W W', (GR.at Rs j).r v W -> S W W' -> (GR.at Rs j).r v W') (hstep : onceSteps P Q l.toArray f w S Rs n k (l.take n) 0)
  (h : ∀ (vs : Nat -> Value) (W : World), AfterS w S W -> (∀ i, i < n -> (GR.at Rs i).r (vs i) W) -> wpList P l.toArray Q (l.drop n) ((List.range n).foldl (fun a i => a.put (dstAt l.toArray i) (vs i)) f) W) : (Code.region id l.toArray true).wp P Q f w := by
 have hf : ∀ i t, i < n -> dstAt l.toArray i = some t -> t < f.tmps.size := fun i t hi ht => by
  have := List.all_eq_true.1 hfB i (by simpa using hi); rw [ht] at this; rw [hsz]
  simpa using this
 have hspec := growB_spec hB; have hB' := hB; unfold growB at hB'; simp only [Bool.and_eq_true, decide_eq_true_eq] at hB'; obtain ⟨⟨⟨⟨⟨hsel, hn⟩, hs⟩, hc⟩, hseq⟩, _⟩ := hB'; have hn' : n < l.length := by simpa using hn
 have hdl : (l.drop n).length = l.toArray.size - n := by simp
 refine wp_region_any hm ?_
 -- the count of operations of the head that are still to come
 have main : ∀ (g : Nat) (seen : Array Bool) (vs : Nat -> Value) (W : World), ((List.range n).filter fun i => !seen.getD i true).length = g -> HeadInv .any l.toArray n seen -> StS w S k seen W -> (∀ i, i < n -> seen.getD i false = true -> (GR.at Rs i).r (vs i) W) ->
   wpAny P .any l.toArray Q (g + (l.toArray.size - n)) seen (fillA l.toArray vs seen (List.range n) f) W := by
  intro g
  induction g with
  | zero =>
    intro seen vs W hg inv hE hR
    have hall : ∀ i, i < n -> seen.getD i true = true := fun i hi => by
     have := List.eq_nil_of_length_eq_zero hg; rw [List.filter_eq_nil_iff] at this
     simpa using this i (by simpa using hi)
    have hsz := inv.size
    have hall' : ∀ i, i < n -> seen.getD i false = true := fun i hi => by
     have h1 : i < seen.size := by rw [hsz]; omega
     have h2 := hall i hi
     simp [h1] at h2 ⊢; exact h2
    have hseen : seen = (Array.replicate n true) ++ (Array.replicate (l.toArray.size - n) false) := by
     refine Array.ext (by simp [hsz]; omega) fun i h1 h2 => ?_
     rcases Nat.lt_or_ge i n with hi | hi
     ·have h3 := hall i hi
      simp [h1] at h3
      rw [h3, Array.getElem_append_left (by simpa using hi)]
      simp
     ·have h3 := inv.tail i hi (by rw [<- hsz]; exact h1)
      simp [h1] at h3
      rw [h3, Array.getElem_append_right (by simpa using hi)]
      simp
    have hfill : fillA l.toArray vs seen (List.range n) f = (List.range n).foldl (fun a i => a.put (dstAt l.toArray i) (vs i)) f := by
     have : ∀ (t : List Nat) (f : Act), (∀ i, i ∈ t -> i < n) -> fillA l.toArray vs seen t f = t.foldl (fun a i => a.put (dstAt l.toArray i) (vs i)) f := by
      intro t
      induction t with
      | nil => intro f _; rfl
      | cons k t ih =>
        intro f ht; rw [fillA_cons, List.foldl_cons, if_pos (hall' k (ht k (by simp)))]; exact ih _ fun i hi => ht i (List.mem_cons_of_mem _ hi)
     exact this _ _ fun i hi => by simpa using hi
    rw [hfill, Nat.zero_add]; have hs2 : Region.seqB .any l.toArray (l.toArray.size - n) n seen = true := by rw [hseen]; exact hseq
    have := wpAny_of_seq (md := .any) (Q' := Q) (l.drop n) n seen _ W (fun j => by simp [List.getElem?_drop]) (by rw [hdl]; exact hs2) (h vs W (StS.done hE (hall' k hkn)) fun i hi => hR i hi (hall' i hi))
    rwa [hdl] at this
  | succ g ih =>
    intro seen vs W hg inv hE hR
    obtain ⟨i0, hi0⟩ : ∃ i, i ∈ (List.range n).filter fun i => !seen.getD i true := by
     cases hl : (List.range n).filter fun i => !seen.getD i true with
     | nil => rw [hl] at hg; simp at hg
     | cons b t => exact ⟨b, by simp⟩
    rw [List.mem_filter] at hi0; have hi1 : i0 < n := by simpa using hi0.1
    have hi2 : seen.getD i0 true = false := by simpa using hi0.2
    have early : ∀ j, j ∈ Region.ready .any l.toArray seen -> j < n := fun j hj => (Nat.lt_or_ge j n).elim (fun h => h) fun hh => absurd hj (tail_waits hs hc hn inv _ i0 rfl hi1 hi2 j hh)
    rw [show g + 1 + (l.toArray.size - n) = (g + (l.toArray.size - n)) + 1 by omega]; refine ⟨fun hnil => ?_, fun i hi => ?_⟩
    ·-- some operation of the head is ready: the first of those that are still to come by the order of its waits
     exfalso
     have hmin : ∃ i, i < n /\ i ∈ Region.ready .any l.toArray seen := by
      exact headReady hB inv hi1 hi2
     obtain ⟨i, _, hir⟩ := hmin; rw [hnil] at hir
     cases hir
    ·have hin := early i hi; obtain ⟨hun, o', ho', hall⟩ := mem_ready.1 hi; obtain ⟨o, t, ho, hgd, hdst, hdis, _⟩ := hspec i hin; have : o' = o := Option.some.inj (ho'.symm.trans ho); subst this; have hdi : dstAt l.toArray i = some t := by simp [dstAt, ho, hdst]
     have hlo : (l.take n)[i]? = some o' := by
      rw [List.getElem?_take, if_pos hin]
      simpa using ho
     have st := onceSteps_at (l.take n) 0 hstep i o' hlo; rw [Nat.zero_add] at st; have hnd : (List.range n).Nodup := List.nodup_range; have hisz : i < seen.size := by rw [inv.size]; omega
     have hus : seen.getD i false = false := getD_both hun; unfold wpOp; simp only [ho]; rw [if_pos (by simp [Region.wanted, hgd])]; refine Or.inl (Oper.wp_mono ?_ (st _ W (fun e => hE.early (by rw [<- e]; exact hus)) hE.base ?_ ?_))
     ·rintro a' W' ⟨v, rfl, hE', hr⟩; rw [hdst, <- hdi, <- fillA_put (vs := vs) (v := v) hus hisz (List.range n) f (by simpa using hin) hnd (fun j hj hji d hd => by rw [hdi]; intro e; exact hdis j (by simpa using hj) hji (hd.trans e.symm))]; refine ih _ _ _ ?_ (inv.set hi hin) (hE.step hisz hus hE') fun j hj hsj => ?_
      ·have hlen := filter_set hisz hun n hin
       omega
      ·by_cases hji : i = j
       ·subst hji; rw [show updN vs i v i = v by simp [updN]]; exact hr
       ·rw [getD_set_ne false hji] at hsj; rw [show updN vs i v j = vs j by simp [updN, Ne.symm hji]]; have hRj := hR j hj hsj
        by_cases hik : i = k
        ·rw [if_pos hik] at hE'; exact hkS j hj _ _ _ hRj hE'
        ·rw [if_neg hik] at hE'; exact (GR.at Rs j).keep hRj hE'
     ·intro j t' hj hd; obtain ⟨e, he, hh⟩ := Array.any_eq_true'.1 hj; simp only [Bool.and_eq_true, decide_eq_true_eq] at hh; obtain ⟨hb, rfl⟩ := hh; have hsj := hall e he hb
      have hjn : e.on < n := by
       rcases Nat.lt_or_ge e.on n with h1 | h1
       ·exact h1
       ·exfalso
        rcases Nat.lt_or_ge e.on l.toArray.size with h2 | h2
        ·have h3 := getD_both (inv.tail e.on h1 h2); rw [h3] at hsj; cases hsj
        ·rw [Array.getD_eq_getD_getElem?, Array.getElem?_eq_none (by rw [inv.size]; exact h2)] at hsj
         simp at hsj
      rw [<- eval_getD, fillA_at hsj hd (List.range n) f (hf _ _ hjn hd) (by simpa using hjn) hnd (fun k hk hkj hk2 => by
       obtain ⟨o2, t2, ho2, _, hd2, hdis2, _⟩ := hspec e.on hjn; have e2 : dstAt l.toArray e.on = some t2 := by simp [dstAt, ho2, hd2]
       rw [e2] at hd; exact hdis2 k (by simpa using hk) hkj (by rw [hk2, hd]))]
      exact hR _ hjn hsj
     ·intro t' hx; rw [<- eval_getD, <- eval_getD]; refine fillA_other (List.range n) f fun j hj => ?_
      have := List.all_eq_true.1 hx j hj
      simpa using this
 have h0 := main n (Array.replicate l.toArray.size false) (fun _ => undef) w.drew ?_ ⟨by simp, fun j oj _ hl => (by rw [getD_replicate_false] at hl; cases hl), fun t _ ht => getD_in (by simpa using ht) (getD_replicate_false _ _)⟩ (StS.start (by rw [getD_replicate_false]) (Ext.drew w)) (fun i _ hl => by rw [getD_replicate_false] at hl; cases hl)
 ·have hfill : fillA l.toArray (fun _ => undef) (Array.replicate l.toArray.size false) (List.range n) f = f := by
   have : ∀ (t : List Nat) (f : Act), fillA l.toArray (fun _ => undef) (Array.replicate l.toArray.size false) t f = f := by
    intro t
    induction t with
    | nil => intro f; rfl
    | cons k t ih =>
      intro f; rw [fillA_cons, if_neg (by rw [getD_replicate_false]; decide)]; exact ih f
   exact this _ _
  rw [hfill, show n + (l.toArray.size - n) = l.toArray.size by omega] at h0; exact h0
 ·have : (List.range n).filter (fun i => !(Array.replicate l.toArray.size false).getD i true) = List.range n := by
   rw [List.filter_eq_self]; intro i hi; have : i < n := by simpa using hi
   have : i < l.length := by omega
   simp [this]
  rw [this]
  simp
section
variable {P : Program} {Q : Exit -> Act -> World -> Prop} {o : Oper} {a : Act} {W W' : World} {r : Value -> World -> Prop} {E : World -> World -> Prop}
theorem os_same {i k : Nat} (hik : i ≠ k) {v : Value} (he : (execOp a.eval o).run P W = .ok (.value v) W) (hr : r v W) : Oper.wp P o a W (fun a' W' => ∃ v, a' = a.put o.dst v /\ (if i = k then E W W' else Ext W W') /\ r v W') Q := by
 unfold Oper.wp; rw [he]; exact ⟨v, rfl, by rw [if_neg hik]; exact Ext.refl _, hr⟩
theorem os_call {i k : Nat} (hik : i ≠ k) {f : FuncId} {args : Array Value} (he : (execOp a.eval o).run P W = .ok (.enter f args) W) (hc : Calls P f args W fun e w' => ∃ v, e = .returned v /\ Ext W w' /\ r v w') :
  Oper.wp P o a W (fun a' W' => ∃ v, a' = a.put o.dst v /\ (if i = k then E W W' else Ext W W') /\ r v W') Q := by
 unfold Oper.wp; rw [he, Oper.upon_enter]; refine hc.mono ?_; rintro e w' ⟨v, rfl, hE, hr⟩; exact ⟨v, rfl, by rw [if_neg hik]; exact hE, hr⟩
theorem os_once {k : Nat} {f : FuncId} {args : Array Value} (he : (execOp a.eval o).run P W = .ok (.enter f args) W) (hc : Calls P f args W fun e w' => ∃ v, e = .returned v /\ E W w' /\ r v w') :
  Oper.wp P o a W (fun a' W' => ∃ v, a' = a.put o.dst v /\ (if k = k then E W W' else Ext W W') /\ r v W') Q := by
 unfold Oper.wp; rw [he, Oper.upon_enter]; refine hc.mono ?_; rintro e w' ⟨v, rfl, hE, hr⟩; exact ⟨v, rfl, by rw [if_pos rfl]; exact hE, hr⟩
end
/-! Maps of strings. -/
def MapIs (w : World) (b : Nat) (es : List (ByteArray × Value)) : Prop := ∃ arr clock, w.heap[b]? = some (.map arr clock) /\ arr.toList.map (fun e => (e.key, e.val)) = es.map (fun x => (Value.string x.1, x.2))
def mapGet (es : List (ByteArray × Value)) (s : ByteArray) : Option Value := (es.find? fun x => decide (x.1 = s)).map (·.2)
theorem ba_beq (a b : ByteArray) : (a == b) = decide (a = b) := by
 have h : (a == b) = (a.data == b.data) := rfl; rw [h]
 by_cases e : a = b
 ·subst e; simp
 ·rw [decide_eq_false e, beq_eq_false_iff_ne]; exact fun h => e (ByteArray.ext h)
instance : LawfulBEq ByteArray where
 eq_of_beq := fun {a b} h => by rw [ba_beq] at h; exact of_decide_eq_true h
 rfl := fun {a} => by rw [ba_beq]; simp
theorem MapIs.lt {w : World} {b : Nat} {es : List (ByteArray × Value)} (h : MapIs w b es) : b < w.heap.size := by
 obtain ⟨arr, clock, h, _⟩ := h; exact (Array.getElem?_eq_some_iff.1 h).1
theorem MapIs.keep {w w' : World} {b : Nat} {es : List (ByteArray × Value)} (h : MapIs w b es) (hb : Below w.heap.size w w') : MapIs w' b es := by
 have hl := h.lt; obtain ⟨arr, clock, h, h2⟩ := h; exact ⟨arr, clock, (hb.block b hl).trans h, h2⟩
theorem findNow_str (s : ByteArray) : ∀ (l : List MapEntry) (es : List (ByteArray × Value)) (i : Nat), l.map (fun e => (e.key, e.val)) = es.map (fun x => (Value.string x.1, x.2)) ->
  (mapGet es s = none -> Instr.findNow .string (.string s) l i = some none) /\ (∀ v, mapGet es s = some v -> ∃ j, Instr.findNow .string (.string s) l i = some (some (i + j, v)) /\ ∃ e, l[j]? = some e /\ e.key = .string s /\ e.val = v)
 | [], [], i, _ => ⟨fun _ => rfl, fun v h => by cases h⟩
 | [], _ :: _, _, h => by simp at h
 | _ :: _, [], _, h => by simp at h
 | e :: l, x :: es, i, h => by
   simp only [List.map_cons, List.cons.injEq, Prod.mk.injEq] at h; obtain ⟨⟨h1, h2⟩, h3⟩ := h; obtain ⟨i1, i2⟩ := findNow_str s l es (i + 1) h3; have e1 : Instr.sameNow .string (.string s) e.key = some (decide (s = x.1)) := by rw [h1, <- ba_beq]; rfl
   by_cases hs : x.1 = s
   ·have hg : mapGet (x :: es) s = some x.2 := by simp [mapGet, List.find?_cons, hs]
    rw [hg]; refine ⟨fun h => (by cases h), fun v hv => ⟨0, ?_, e, rfl, by rw [h1, hs], by cases hv; exact h2⟩⟩
    cases hv
    unfold Instr.findNow; rw [e1, decide_eq_true hs.symm, h2]
    rfl
   ·have hg : mapGet (x :: es) s = mapGet es s := by simp [mapGet, List.find?_cons, hs]
    have hs' : ¬ s = x.1 := fun h => hs h.symm
    rw [hg]; refine ⟨fun h => ?_, fun v hv => ?_⟩
    ·unfold Instr.findNow; rw [e1, decide_eq_false hs']; exact i1 h
    ·obtain ⟨j, hj, e', h4, h5, h6⟩ := i2 v hv; refine ⟨j + 1, ?_, e', by simpa using h4, h5, h6⟩; unfold Instr.findNow; rw [e1, decide_eq_false hs', show i + (j + 1) = i + 1 + j by omega]; exact hj
theorem checkKey_str {P : Program} {k : TypeId} (hk : P.underlying k = some .string) (b : Bool) (s : ByteArray) (w : World) : (Instr.checkKey b 10000 k (.string s)).run P w = .ok () w := by
 unfold Instr.checkKey; simp only [Sem.run_bind, run_underlying hk, Result.andThen_ok]
 rfl
theorem findKey_str {P : Program} {k : TypeId} (hk : P.underlying k = some .string) (s : ByteArray) (l : List MapEntry) (r : Option (Nat × Value)) (hf : Instr.findNow .string (.string s) l 0 = some r) (w : World) : (Instr.findKey k (.string s) l).run P w = .ok r w := by
 unfold Instr.findKey; simp only [Sem.run_bind, run_underlying hk, Result.andThen_ok, hf]
 rfl
theorem lookup_has {P : Program} {t k e : TypeId} (ht : P.underlying t = some (.map k e)) (hk : P.underlying k = some .string) {w : World} {b : Nat} {es : List (ByteArray × Value)} (h : MapIs w b es) {s : ByteArray} {v : Value} (hv : mapGet es s = some v) (ok : Bool) :
  (Instr.lookup t (.map (some b)) (.string s) ok).run P w = .ok (if ok then .tuple #[v, .bool true] else v) w := by
 obtain ⟨arr, clock, h1, h2⟩ := h; obtain ⟨j, hj, _⟩ := (findNow_str s arr.toList es 0 h2).2 v hv; unfold Instr.lookup; simp only [Sem.run_bind, run_underlying ht, Result.andThen_ok]
 simp [Sem.run, getObj, h1, checkKey_str hk, findKey_str hk s _ _ hj, Result.andThen_ok, Result.andThen]
theorem lookup_lacks {P : Program} {t k e : TypeId} (ht : P.underlying t = some (.map k e)) (hk : P.underlying k = some .string) {w : World} {b : Nat} {es : List (ByteArray × Value)} (h : MapIs w b es) {s : ByteArray} {z : Value} (hz : (zeroValue e).run P w = .ok z w) (hv : mapGet es s = none) (ok : Bool) :
  (Instr.lookup t (.map (some b)) (.string s) ok).run P w = .ok (if ok then .tuple #[z, .bool false] else z) w := by
 obtain ⟨arr, clock, h1, h2⟩ := h; have hj := (findNow_str s arr.toList es 0 h2).1 hv; unfold Instr.lookup; simp only [Sem.run_bind, run_underlying ht, Result.andThen_ok]
 simp [Sem.run, getObj, h1, checkKey_str hk, findKey_str hk s _ _ hj, hz, Result.andThen_ok, Result.andThen]
def World.mapPut (w : World) (b : Nat) (s : ByteArray) (v : Value) : World :=
 match w.heap[b]? with
 | some (.map arr clock) => { w with heap := w.heap.setIfInBounds b (.map (arr.push { key := .string s, val := v, born := clock }) (clock + 1)) }
 | _ => w
theorem update_new {P : Program} {t k e : TypeId} (ht : P.underlying t = some (.map k e)) (hk : P.underlying k = some .string) {w : World} {b : Nat} {es : List (ByteArray × Value)} (h : MapIs w b es) {s : ByteArray} (hv : mapGet es s = none) (v : Value) :
  (Instr.mapUpdate t (.map (some b)) (.string s) v).run P w = .ok () (World.mapPut w b s v) := by
 obtain ⟨arr, clock, h1, h2⟩ := h; have hj := (findNow_str s arr.toList es 0 h2).1 hv; unfold Instr.mapUpdate; simp only [Sem.run_bind, run_underlying ht, Result.andThen_ok]
 simp [Sem.run, getObj, setObj, h1, checkKey_str hk, findKey_str hk s _ _ hj, Result.andThen_ok, Result.andThen, World.mapPut]
theorem MapIs.put {w : World} {b : Nat} {es : List (ByteArray × Value)} (h : MapIs w b es) (s : ByteArray) (v : Value) : MapIs (World.mapPut w b s v) b (es ++ [(s, v)]) := by
 have hl := h.lt; obtain ⟨arr, clock, h1, h2⟩ := h; refine ⟨arr.push { key := .string s, val := v, born := clock }, clock + 1, ?_, ?_⟩
 ·unfold World.mapPut; rw [h1]
  simp [hl]
 ·simp [h2]
theorem mapPut_far {w : World} {b g : Nat} (s : ByteArray) (v : Value) (hg : g ≠ b) : (World.mapPut w b s v).heap[g]? = w.heap[g]? := by
 unfold World.mapPut
 split
 ·simp [Array.getElem?_setIfInBounds, Ne.symm hg]
 ·rfl
theorem mapPut_size {w : World} {b : Nat} (s : ByteArray) (v : Value) : (World.mapPut w b s v).heap.size = w.heap.size := by
 unfold World.mapPut
 split <;> simp
theorem mapPut_rest {w : World} {b : Nat} (s : ByteArray) (v : Value) : (World.mapPut w b s v).os = w.os /\ (World.mapPut w b s v).tape = w.tape /\ (World.mapPut w b s v).output = w.output := by
 unfold World.mapPut
 split <;> exact ⟨rfl, rfl, rfl⟩
theorem update_same {P : Program} {t k e : TypeId} (ht : P.underlying t = some (.map k e)) (hk : P.underlying k = some .string) {w : World} {b : Nat} {es : List (ByteArray × Value)} (h : MapIs w b es) {s : ByteArray} {v : Value} (hv : mapGet es s = some v) :
  (Instr.mapUpdate t (.map (some b)) (.string s) v).run P w = .ok () w := by
 obtain ⟨arr, clock, h1, h2⟩ := h; obtain ⟨j, hj, en, e1, e2, e3⟩ := (findNow_str s arr.toList es 0 h2).2 v hv; have hes : (s == s) = true := by rw [ba_beq]; simp
 have ha : arr[j]? = some en := by simpa using e1
 have hm : (arr.modify j fun e => { e with key := .string s, val := v }) = arr := by
  refine Array.ext (by simp) fun i hi1 hi2 => ?_
  rw [Array.getElem_modify]
  split
  ·rename_i hji
   subst hji
   have : arr[j] = en := by
    rw [Array.getElem?_eq_getElem hi2] at ha; exact Option.some.inj ha
   rw [this, <- e2, <- e3]
  ·rfl
 have hst : w.heap.setIfInBounds b (.map arr clock) = w.heap := by
  refine Array.ext (by simp) fun i hi1 hi2 => ?_
  rw [Array.getElem_setIfInBounds]
  split
  ·rename_i hbi
   subst hbi; rw [Array.getElem?_eq_getElem hi2] at h1; exact (Option.some.inj h1).symm
  ·rfl
 unfold Instr.mapUpdate; simp only [Sem.run_bind, run_underlying ht, Result.andThen_ok]
 simp [Sem.run, getObj, setObj, h1, checkKey_str hk, findKey_str hk s _ _ hj, Result.andThen_ok, Result.andThen, ha, e2, Instr.keyThatStays, Instr.sameBits, hes, hm, hst]
theorem mapGet_none {es : List (ByteArray × Value)} {s : ByteArray} : mapGet es s = none ↔ ∀ x ∈ es, x.1 ≠ s := by
 unfold mapGet; rw [Option.map_eq_none_iff, List.find?_eq_none]
 simp
theorem mapGet_snoc {es : List (ByteArray × Value)} {s : ByteArray} {v : Value} (h : mapGet es s = none) : mapGet (es ++ [(s, v)]) s = some v := by
 unfold mapGet at *; rw [List.find?_append, (Option.map_eq_none_iff.1 h)]
 simp
end Go.Proofs.YtmafmebcgmegeaaGreatDoor
set_option autoImplicit false
set_option relaxedAutoImplicit false
namespace Go.Proofs.Bell
/-! The plain mathematics of what is heard from a track (chapter 2): numbers between two others, emissions of settings, boxes, sums over ticks, and enclosures. No program is looked at. -/
def betw (a b p w : Int) : Int := a + (b - a) * p / w
theorem floor_is {n d : Int} (h : 0 < d) : (if n.tmod d < 0 then n.tdiv d - 1 else n.tdiv d) = n / d := by
 have h1 := Int.tmod_add_mul_tdiv n d; have h2 := Int.tmod_lt_of_pos n h; have h3 := Int.lt_tmod_of_pos n h
 split
 ·rename_i hn
  symm
  rw [Int.ediv_eq_iff_of_pos h]
  constructor <;> grind
 ·rename_i hn
  symm
  rw [Int.ediv_eq_iff_of_pos h]
  constructor <;> grind
theorem betw_eq {a b p w : Int} (h : 0 < w) : betw a b p w = (a * w + (b - a) * p) / w := by
 unfold betw; rw [Int.add_comm (a * w), Int.add_mul_ediv_right _ _ (by omega)]
 omega
theorem betw_mono {a b a' b' p w : Int} (h : 0 < w) (hp : 0 <= p) (hq : p <= w) (ha : a <= a') (hb : b <= b') : betw a b p w <= betw a' b' p w := by
 rw [betw_eq h, betw_eq h]
 apply Int.ediv_le_ediv h
 have h1 : 0 <= (a' - a) * (w - p) := Int.mul_nonneg (by omega) (by omega); have h2 : 0 <= (b' - b) * p := Int.mul_nonneg (by omega) (by omega)
 grind
theorem betw_same {a p w : Int} : betw a a p w = a := by
 unfold betw; simp
theorem betw_bounds {a b p w lo hi : Int} (h : 0 < w) (hp : 0 <= p) (hq : p <= w) (ha : lo <= a) (hb : lo <= b) (ha' : a <= hi) (hb' : b <= hi) : lo <= betw a b p w /\ betw a b p w <= hi := by
 constructor
 ·have := betw_mono h hp hq ha hb; rwa [betw_same] at this
 ·have := betw_mono h hp hq ha' hb'; rwa [betw_same] at this
/-! ### Emissions -/
abbrev Sets := List (Int × List Int)
def ePow (s : Sets) (k : Nat) : Int := (s.getD k (0, [])).1
def eAt (s : Sets) (k r : Nat) : Int := ((s.getD k (0, [])).2).getD r 0
def nextOf (s : Sets) (power : Int) : Nat := s.findIdx (fun x => decide (power <= x.1))
def reachOf (l : List Int) (sq : Int) : Nat := l.findIdx (fun x => decide (sq < x)) - 1
def emis (s : Sets) (r : Nat) (power : Int) : Int :=
 if nextOf s power = s.length then eAt s (s.length - 1) r
 else if nextOf s power = 0 then eAt s 0 r
 else betw (eAt s (nextOf s power - 1) r) (eAt s (nextOf s power) r) (power - ePow s (nextOf s power - 1)) (ePow s (nextOf s power) - ePow s (nextOf s power - 1))
structure GoodSets (s : Sets) (m : Nat) : Prop where
 some : 0 < s.length
 up : ∀ i j, i < j -> j < s.length -> ePow s i < ePow s j
 ord : ∀ i j r, i <= j -> j < s.length -> r < m -> eAt s i r <= eAt s j r
 down : ∀ i r r', i < s.length -> r <= r' -> r' < m -> eAt s i r' <= eAt s i r
 lo : ∀ i r, i < s.length -> r < m -> 0 <= eAt s i r
 hi : ∀ i r, i < s.length -> r < m -> eAt s i r <= 100000000
theorem next_le (s : Sets) (p : Int) : nextOf s p <= s.length := List.findIdx_le_length
theorem next_at {s : Sets} {p : Int} (h : nextOf s p < s.length) : p <= ePow s (nextOf s p) := by
 have := List.findIdx_getElem (p := fun x : Int × List Int => decide (p <= x.1)) (xs := s) (w := h); unfold ePow; rw [List.getD_eq_getElem?_getD, List.getElem?_eq_getElem h]; exact of_decide_eq_true this
theorem next_before {s : Sets} {p : Int} {i : Nat} (h : i < nextOf s p) : ePow s i < p := by
 have hl : i < s.length := Nat.lt_of_lt_of_le h (next_le s p); have := List.not_of_lt_findIdx (p := fun x : Int × List Int => decide (p <= x.1)) (xs := s) h; unfold ePow; rw [List.getD_eq_getElem?_getD, List.getElem?_eq_getElem hl]
 simpa using this
theorem reach_lt {l : List Int} {q : Int} (h : 0 < l.length) : reachOf l q < l.length := by
 unfold reachOf; have := List.findIdx_le_length (xs := l) (p := fun x => decide (q < x))
 omega
variable {s : Sets} {m : Nat}
theorem emis_bounds (g : GoodSets s m) {r : Nat} (p : Int) {lo hi : Int} (hlo : ∀ i, i < s.length -> lo <= eAt s i r) (hhi : ∀ i, i < s.length -> eAt s i r <= hi) : lo <= emis s r p /\ emis s r p <= hi := by
 have hn := next_le s p; have h0 := g.some; unfold emis
 split
 ·exact ⟨hlo _ (by omega), hhi _ (by omega)⟩
 ·split
  ·exact ⟨hlo _ (by omega), hhi _ (by omega)⟩
  ·rename_i h1 h2
   have h3 : nextOf s p < s.length := by omega
   have h4 := next_at h3; have h5 := next_before (s := s) (p := p) (i := nextOf s p - 1) (by omega); exact betw_bounds (by omega) (by omega) (by omega) (hlo _ (by omega)) (hlo _ h3) (hhi _ (by omega)) (hhi _ h3)
theorem emis_range (g : GoodSets s m) {r : Nat} (hr : r < m) (p : Int) : 0 <= emis s r p /\ emis s r p <= 100000000 :=
 emis_bounds g p (fun i h => g.lo i r h hr) (fun i h => g.hi i r h hr)
/-! ### Boxes -/
def nearOf (lo hi : Int) : Int := max (max lo (-hi)) 0
def farOf (lo hi : Int) : Int := max (-lo) hi
/-! ### Sums over ticks -/
def sumF (f : Int -> Int) (a : Int) : Nat -> Int
 | 0 => 0
 | n + 1 => sumF f a n + f (a + n)
theorem sumF_list (f : Int -> Int) (a : Int) (n : Nat) : ((List.range n).map (fun i : Nat => f (a + i))).sum = sumF f a n := by
 induction n with
 | zero => rfl
 | succ n ih => rw [List.range_succ, List.map_append, List.sum_append, ih]; simp [sumF]
/-! ### Tracks and states -/
structure Fx where
 t : Int
 x : Int
 y : Int
 z : Int
 p : Int
structure St where
 x : Int
 y : Int
 z : Int
 hx : Int
 hy : Int
 p : Int
def fxAt (l : List Fx) (i : Nat) : Fx := l.getD i ⟨0, 0, 0, 0, 0⟩
def segIx (l : List Fx) (k : Int) : Nat := l.findIdx (fun p => decide (k < p.t)) - 1
def stOf (a b : Fx) (k : Int) : St :=
 ⟨betw a.x b.x (k - a.t) (b.t - a.t), betw a.y b.y (k - a.t) (b.t - a.t), betw a.z b.z (k - a.t) (b.t - a.t), b.x - a.x, b.y - a.y, betw a.p b.p (k - a.t) (b.t - a.t)⟩
def stAt (l : List Fx) (k : Int) : St := stOf (fxAt l (segIx l k)) (fxAt l (segIx l k + 1)) k
structure GoodFx (a : Fx) : Prop where
 t0 : 0 <= a.t
 t1 : a.t <= 100000000
 x0 : -100000 <= a.x
 x1 : a.x <= 100000
 y0 : -100000 <= a.y
 y1 : a.y <= 100000
 z0 : 0 <= a.z
 z1 : a.z <= 20000
 p0 : 1 <= a.p
 p1 : a.p <= 100
def Ticks (l : List Fx) : Prop := ∀ i j, i < j -> j < l.length -> (fxAt l i).t < (fxAt l j).t
theorem part_ok {a b : Fx} {k : Int} (h1 : a.t <= k) (h2 : k < b.t) : 0 < b.t - a.t /\ 0 <= k - a.t /\ k - a.t <= b.t - a.t := by omega
/-! ### What is heard -/
structure Ty where
 direct : List Int
 side : Int
 squares : List Int
 sets : Sets
structure GoodTy (T : Ty) : Prop where
 dir : ∀ i, i < 8 -> 0 <= T.direct.getD i 0 /\ T.direct.getD i 0 <= 2000
 dlen : T.direct.length = 8
 side0 : 0 <= T.side
 side1 : T.side <= 1000
 sq : 0 < T.squares.length
 sets : GoodSets T.sets T.squares.length
def sectorOf (hx hy x y : Int) : Nat :=
 let u := hx * x + hy * y
 let v := hx * y - hy * x
 if (u > v /\ v ≥ 0) ∨ (u = 0 /\ v = 0) then 0
 else if v ≥ u /\ u > 0 then 1
 else if v > -u /\ -u ≥ 0 then 2
 else if -u ≥ v /\ v > 0 then 3
 else if -u > -v /\ -v ≥ 0 then 4
 else if -v ≥ -u /\ -u > 0 then 5
 else if -v > u /\ u ≥ 0 then 6
 else 7
theorem sector_lt (hx hy x y : Int) : sectorOf hx hy x y < 8 := by
 unfold sectorOf; simp only
 repeat' split
 all_goals omega
structure Pl where
 x : Int
 y : Int
 z : Int
def sqOf (x y z : Int) : Int := x * x + y * y + z * z
def energyOf (T : Ty) (s : St) (r : Pl) : Int :=
 emis T.sets (reachOf T.squares (sqOf (r.x - s.x) (r.y - s.y) (r.z - s.z))) s.p * T.direct.getD (sectorOf s.hx s.hy (r.x - s.x) (r.y - s.y)) 0
def steepOf (s : St) (r : Pl) : Prop := (r.x - s.x) * (r.x - s.x) + (r.y - s.y) * (r.y - s.y) <= 4 * (r.z - s.z) * (r.z - s.z)
instance (s : St) (r : Pl) : Decidable (steepOf s r) := inferInstanceAs (Decidable (_ <= _))
def heardOf (T : Ty) (s : St) (r : Pl) : Int :=
 if steepOf s r then energyOf T s r / 1000 else energyOf T s r * T.side / 1000000
variable {T : Ty}
theorem heard_between (g : GoodTy T) {s : St} {r : Pl} {E D F G : Int}
  (h1 : E <= emis T.sets (reachOf T.squares (sqOf (r.x - s.x) (r.y - s.y) (r.z - s.z))) s.p)
  (h2 : emis T.sets (reachOf T.squares (sqOf (r.x - s.x) (r.y - s.y) (r.z - s.z))) s.p <= F)
  (hE : 0 <= E) (hD : 0 <= D)
  (h3 : ∀ i, i < 8 -> D <= T.direct.getD i 0) (h4 : ∀ i, i < 8 -> T.direct.getD i 0 <= G) :
  E * D * T.side / 1000000 <= heardOf T s r /\ heardOf T s r * 1000 <= F * G := by
 have k3 := h3 _ (sector_lt s.hx s.hy (r.x - s.x) (r.y - s.y)); have k4 := h4 _ (sector_lt s.hx s.hy (r.x - s.x) (r.y - s.y)); have hl : E * D <= energyOf T s r := Int.mul_le_mul h1 k3 hD (by omega); have hh : energyOf T s r <= F * G := Int.mul_le_mul h2 k4 (by omega) (by omega); have h0 : 0 <= E * D := Int.mul_nonneg hE hD; have s0 := g.side0; have s1 := g.side1; unfold heardOf
 split
 ·constructor
  ·have a1 : E * D * T.side <= energyOf T s r * 1000 := Int.mul_le_mul hl s1 s0 (by omega); have a2 := Int.ediv_le_ediv (c := 1000000) (by decide) a1
   omega
  ·omega
 ·constructor
  ·exact Int.ediv_le_ediv (by decide) (Int.mul_le_mul_of_nonneg_right hl s0)
  ·have a1 : energyOf T s r * T.side <= energyOf T s r * 1000 := Int.mul_le_mul_of_nonneg_left s1 (by omega)
   omega
theorem heard_range (g : GoodTy T) (s : St) (r : Pl) : 0 <= heardOf T s r /\ heardOf T s r <= 200000000 := by
 have e := emis_range g.sets (reach_lt (q := sqOf (r.x - s.x) (r.y - s.y) (r.z - s.z)) g.sq) s.p; have := heard_between g (s := s) (r := r) (E := 0) (D := 0) (F := 100000000) (G := 2000) e.1 e.2 (by omega) (by omega) (fun i h => (g.dir i h).1) (fun i h => (g.dir i h).2)
 omega
/-! ### Enclosures -/
def dLow (l : List Int) : Int := l.foldl min (l.headD 0)
def dHigh (l : List Int) : Int := l.foldl max (l.headD 0)
theorem foldl_min_le (l : List Int) (a : Int) : l.foldl min a <= a /\ ∀ x, x ∈ l -> l.foldl min a <= x := by
 induction l generalizing a with
 | nil => simp
 | cons b l ih =>
   have := ih (min a b); refine ⟨by simp only [List.foldl_cons]; omega, ?_⟩; intro x hx; simp only [List.foldl_cons]; rcases List.mem_cons.1 hx with e | e
   ·subst e; omega
   ·exact this.2 x e
theorem le_foldl_max (l : List Int) (a : Int) : a <= l.foldl max a /\ ∀ x, x ∈ l -> x <= l.foldl max a := by
 induction l generalizing a with
 | nil => simp
 | cons b l ih =>
   have := ih (max a b); refine ⟨by simp only [List.foldl_cons]; omega, ?_⟩; intro x hx; simp only [List.foldl_cons]; rcases List.mem_cons.1 hx with e | e
   ·subst e; omega
   ·exact this.2 x e
theorem foldl_min_ge {l : List Int} {a c : Int} (ha : c <= a) (h : ∀ x, x ∈ l -> c <= x) : c <= l.foldl min a := by
 induction l generalizing a with
 | nil => exact ha
 | cons b l ih =>
   simp only [List.foldl_cons]; have := h b (by simp); exact ih (by omega) (fun x hx => h x (by simp [hx]))
theorem getD_mem {l : List Int} {i : Nat} (h : i < l.length) : l.getD i 0 ∈ l := by
 rw [List.getD_eq_getElem?_getD, List.getElem?_eq_getElem h]; simp
def sqNear (a b : Fx) (r : Pl) : Int :=
 nearOf (min (a.x - r.x) (b.x - r.x)) (max (a.x - r.x) (b.x - r.x)) * nearOf (min (a.x - r.x) (b.x - r.x)) (max (a.x - r.x) (b.x - r.x)) + nearOf (min (a.y - r.y) (b.y - r.y)) (max (a.y - r.y) (b.y - r.y)) * nearOf (min (a.y - r.y) (b.y - r.y)) (max (a.y - r.y) (b.y - r.y)) + nearOf (min (a.z - r.z) (b.z - r.z)) (max (a.z - r.z) (b.z - r.z)) * nearOf (min (a.z - r.z) (b.z - r.z)) (max (a.z - r.z) (b.z - r.z))
def sqFar (a b : Fx) (r : Pl) : Int :=
 farOf (min (a.x - r.x) (b.x - r.x)) (max (a.x - r.x) (b.x - r.x)) * farOf (min (a.x - r.x) (b.x - r.x)) (max (a.x - r.x) (b.x - r.x)) + farOf (min (a.y - r.y) (b.y - r.y)) (max (a.y - r.y) (b.y - r.y)) * farOf (min (a.y - r.y) (b.y - r.y)) (max (a.y - r.y) (b.y - r.y)) + farOf (min (a.z - r.z) (b.z - r.z)) (max (a.z - r.z) (b.z - r.z)) * farOf (min (a.z - r.z) (b.z - r.z)) (max (a.z - r.z) (b.z - r.z))
def leastOf (T : Ty) (a b : Fx) (r : Pl) : Int := emis T.sets (reachOf T.squares (sqFar a b r)) (min a.p b.p) * dLow T.direct * T.side / 1000000
def mostOf (T : Ty) (a b : Fx) (r : Pl) : Int := emis T.sets (reachOf T.squares (sqNear a b r)) (max a.p b.p) * dHigh T.direct
def lowOf (T : Ty) (a b : Fx) (r : Pl) : Int := (b.t - a.t) * leastOf T a b r
def highOf (T : Ty) (a b : Fx) (r : Pl) : Int := ((b.t - a.t) * mostOf T a b r + 1000 - 1) / 1000
def encLow (T : Ty) (l : List Fx) (r : Pl) : Nat -> Int
 | 0 => 0
 | n + 1 => encLow T l r n + lowOf T (fxAt l n) (fxAt l (n + 1)) r
def encHigh (T : Ty) (l : List Fx) (r : Pl) : Nat -> Int
 | 0 => 0
 | n + 1 => encHigh T l r n + highOf T (fxAt l n) (fxAt l (n + 1)) r
def heardAt (T : Ty) (l : List Fx) (r : Pl) (k : Int) : Int := heardOf T (stAt l k) r
/-! ### The maximum -/
def maxF (f : Int -> Int) (a : Int) : Nat -> Int × Int
 | 0 => (-1, 0)
 | n + 1 => if (maxF f a n).1 < f (a + n) then (f (a + n), a + n) else maxF f a n
theorem maxF_spec (f : Int -> Int) (a : Int) (n : Nat) (h : ∀ i : Nat, i < n -> 0 <= f (a + i)) :
  (∀ i : Nat, i < n -> f (a + i) <= (maxF f a n).1) /\ (0 < n -> 0 <= (maxF f a n).1 /\ ∃ i : Nat, i < n /\ (maxF f a n).2 = a + i /\ f (a + i) = (maxF f a n).1 /\ ∀ j : Nat, j < i -> f (a + j) < f (a + i)) := by
 induction n with
 | zero => exact ⟨fun i hi => by omega, fun hn => by omega⟩
 | succ n ih =>
   have ih := ih (fun i hi => h i (by omega)); have hn := h n (by omega); simp only [maxF]
   split
   ·rename_i hlt
    refine ⟨?_, fun _ => ⟨hn, n, by omega, rfl, rfl, ?_⟩⟩
    ·intro i hi; rcases Nat.lt_or_ge i n with hq | hq
     ·have := ih.1 i hq; simp only; omega
     ·have : i = n := by omega
      subst this; exact Int.le_refl _
    ·intro j hj; have := ih.1 j hj; omega
   ·rename_i hlt
    refine ⟨?_, ?_⟩
    ·intro i hi; rcases Nat.lt_or_ge i n with hq | hq
     ·exact ih.1 i hq
     ·have : i = n := by omega
      subst this; omega
    ·intro _; rcases Nat.eq_zero_or_pos n with e | e
     ·subst e; simp [maxF] at hlt; simp at hn; omega
     ·obtain ⟨k1, i, k2, k3, k4, k5⟩ := ih.2 e; exact ⟨k1, i, by omega, k3, k4, k5⟩
end Go.Proofs.Bell
