/- Part. -/
import Derived.Test.YtmafmebcgmegeaaGreatDoorGz1
import Derived.Laws.EntriesVeiled
import Derived.Deep.RegionHeld3
import Derived.Laws.CopyOwn
import Derived.ChangeKeysEq
import Derived.Laws.Rows
import Derived.Laws.Tables
import Derived.Deep.DeepCutAuto
import Derived.Lib.QuietBelow
import Derived.StillTail
namespace Go.Proofs.YtmafmebcgmegeaaGreatDoor
open Go.RowKit
def sumL : List Int -> Int
 | [] => 0
 | x :: l => x + sumL l
theorem sumL_append (a b : List Int) : sumL (a ++ b) = sumL a + sumL b := by
 induction a with
 | nil => simp [sumL]
 | cons x l ih => simp only [List.cons_append, sumL, ih]; omega
theorem take_snocI (zs : List Int) (k : Nat) (h : k < zs.length) : zs.take (k + 1) = zs.take k ++ [zs.getD k 0] := by
 rw [List.take_succ_eq_append_getElem h]; simp [List.getD_eq_getElem?_getD, List.getElem?_eq_getElem h]
theorem sumL_succ (zs : List Int) (k : Nat) (h : k < zs.length) : sumL (zs.take (k + 1)) = sumL (zs.take k) + zs.getD k 0 := by
 rw [take_snocI zs k h, sumL_append]; simp [sumL]
theorem sumL_bd (zs : List Int) (h : ∀ i, i < zs.length -> 0 <= zs.getD i 0 /\ zs.getD i 0 <= 100000000000000) (k : Nat) (hk : k <= zs.length) :
  0 <= sumL (zs.take k) /\ sumL (zs.take k) <= 100000000000000 * (k : Int) := by
 induction k with
 | zero => simp [sumL]
 | succ k ih =>
   rw [sumL_succ zs k (by omega)]; have := ih (by omega); have := h k (by omega)
   omega
theorem sumL_mono (zs : List Int) (h : ∀ i, i < zs.length -> 0 <= zs.getD i 0) (k : Nat) (hk : k <= zs.length) : sumL (zs.take k) <= sumL zs := by
 have h2 : sumL zs = sumL (zs.take k) + sumL (zs.drop k) := by rw [<- sumL_append, List.take_append_drop]
 have h3 : ∀ l : List Int, (∀ x ∈ l, 0 <= x) -> 0 <= sumL l := by
  intro l hl
  induction l with
  | nil => simp [sumL]
  | cons x l ih => simp only [sumL]; have := hl x (by simp); have := ih (fun y hy => hl y (by simp [hy])); omega
 have := h3 (zs.drop k) (fun x hx => by
  obtain ⟨i, hi, rfl⟩ := List.getElem_of_mem hx; simp only [List.length_drop] at hi; have := h (k + i) (by omega); rw [List.getElem_drop]
  simpa [List.getD_eq_getElem?_getD, List.getElem?_eq_getElem (show k + i < zs.length from by omega)] using this)
 omega
theorem firstE_zero {l : List Int} (h : firstE l = 0) : ∀ x ∈ l, x = 0 := by
 induction l with
 | nil => simp
 | cons y l ih =>
   unfold firstE at h
   by_cases hy : y = 0
   ·rw [if_pos hy] at h; intro x hx; rcases List.mem_cons.1 hx with rfl | hx
    ·exact hy
    ·exact ih h x hx
   ·rw [if_neg hy] at h; exact absurd h hy
theorem firstInE_zero {f : Int -> Int} {zs : List Int} (h : firstInE f zs = 0) (i : Nat) (hi : i < zs.length) : f (zs.getD i 0) = 0 := by
 refine firstE_zero h _ ?_; rw [List.getD_eq_getElem?_getD, List.getElem?_eq_getElem hi]; exact List.mem_map.2 ⟨_, List.getElem_mem hi, rfl⟩
theorem Blk.setRow {w : World} {g : Nat} {t : TypeId} {cs : Array Value} (h : Blk w g t cs) (new : Array Value) : Blk (w.setRow g new) g t new := setRow_heap w g cs new t (0, 0) h
theorem Blk.setRow_far {w : World} {g k : Nat} {t : TypeId} {cs : Array Value} (h : Blk w g t cs) (hne : g ≠ k) (new : Array Value) : Blk (w.setRow k new) g t cs := (setRow_other w k g new hne).trans h
theorem _root_.Go.RowKit.Below.setRow' {B g : Nat} {w0 w : World} (hb : Below B w0 w) (hBg : B <= g) (cs : Array Value) : Below B w0 (w.setRow g cs) := below_setRow hb hBg cs
theorem Blk.setCells {g : Nat} {t : TypeId} : ∀ (vs : List Value) (o : Nat) {w : World} {cs : Array Value}, Blk w g t cs -> ∃ cs' : Array Value, Blk (w.setCells g o vs) g t cs' /\ cs'.size = cs.size /\ (∀ i, i < o -> cs'[i]? = cs[i]?) /\ (∀ i, o + vs.length <= i -> cs'[i]? = cs[i]?) /\ (∀ j, j < vs.length -> o + j < cs.size -> cs'[o + j]? = vs[j]?)
 | [], _, _, cs, h => ⟨cs, h, rfl, fun _ _ => rfl, fun _ _ => rfl, fun j hj => absurd hj (by simp)⟩
 | v :: r, o, w, cs, h => by
   obtain ⟨cs', hb, hs, h1, h2, h3⟩ := Blk.setCells r (o + 1) (h.set_ o v); refine ⟨cs', hb, by simpa using hs, fun i hi => ?_, fun i hi => ?_, fun j hj hjc => ?_⟩
   ·rw [h1 i (by omega), Array.getElem?_setIfInBounds_ne (by omega)]
   ·simp only [List.length_cons] at hi; rw [h2 i (by omega), Array.getElem?_setIfInBounds_ne (by omega)]
   ·cases j with
    | zero =>
      rw [Nat.add_zero, h1 o (by omega), Array.getElem?_setIfInBounds]
      simp at hjc
      simp [hjc]
    | succ j =>
      simp only [List.length_cons] at hj; have := h3 j (by omega) (by simp; omega); rw [show o + (j + 1) = o + 1 + j by omega, this]
      simp
theorem _root_.Go.RowKit.Below.setCells' {B g : Nat} {w0 : World} (hg : B <= g) : ∀ (vs : List Value) (o : Nat) {w : World}, Below B w0 w -> Below B w0 (w.setCells g o vs)
 | [], _, _, h => h
 | v :: r, o, _, h => Go.RowKit.Below.setCells' hg r (o + 1) (h.setCell (p := ⟨g, o, none⟩) hg v)
theorem Blk.at_size {w : World} {g : Nat} (t : TypeId) (cs : Array Value) (h : g = w.heap.size) : Blk (w.alloc (.cells cs t)) g t cs := by
 subst h; exact Blk.new w t cs
end Go.Proofs.YtmafmebcgmegeaaGreatDoor
namespace Go.Proofs.YtmafmebcgmegeaaGreatDoor
open Go.RowKit Go.Sort
section
variable {P : Program} {ops : Array Oper} {md : Region.Mode} {C : World -> Prop}
def anyHead (P : Program) (md : Region.Mode) (ops : Array Oper) (C : World -> Prop) (n : Nat) (L : Array Bool -> Act -> Prop) : Nat -> Array Bool -> Act -> Prop
 | 0, seen, a => L seen a
 | f + 1, seen, a => Region.ready md ops seen ≠ [] /\ ∀ i, i ∈ Region.ready md ops seen -> i < n /\ qOp P ops C i (anyHead P md ops C n L f (seen.setIfInBounds i true)) a
theorem any_of_anyHead {n g : Nat} {L : Array Bool -> Act -> Prop} {Q' : Exit -> Act -> World -> Prop} (hL : ∀ seen a w, C w -> L seen a -> wpAny P md ops Q' g seen a w) (f : Nat) :
  ∀ (seen : Array Bool) (a : Act) (w : World), C w -> anyHead P md ops C n L f seen a -> wpAny P md ops Q' (f + g) seen a w := by
 induction f with
 | zero => intro seen a w hw h; rw [Nat.zero_add]; exact hL _ _ _ hw h
 | succ f ih =>
   intro seen a w hw h; rw [show f + 1 + g = (f + g) + 1 by omega]; exact ⟨fun h0 => absurd h0 h.1, fun i hi => wpOp_of_qOp hw (fun a' w' hw' h' => ih _ a' w' hw' h') (h.2 i hi).2⟩
theorem anyHead_first {n i : Nat} {oi : Oper} {v : Value} {L : Array Bool -> Act -> Prop} (hi : ops[i]? = some oi) (hsel : ∀ (j : Nat) (o : Oper) cs b, ops[j]? = some o -> o.op ≠ .select cs b)
  (hs : Region.sinkB md ops n = true) (hc : Region.chainB md ops n = true) (hn : n < ops.size) (hin : i < n)
  (hdone : ∀ seen a, L seen a -> ∀ j ∈ Region.ready md ops seen, n <= j) (f : Nat) :
  ∀ (seen : Array Bool) (a : Act), HeadInv md ops n seen ->
    (∀ j oj, ops[j]? = some oj -> j ≠ i -> seen.getD j true = false -> (∀ e ∈ oj.after, Region.binds md e = true -> e.on ≠ i) -> oi.apart ops oj = true) ->
    i ∈ Region.ready md ops seen -> YieldsIn P ops C oi v a ->
    anyHead P md ops C n L f (seen.setIfInBounds i true) (a.put oi.dst v) -> anyHead P md ops C n L (f + 1) seen a := by
 have early : ∀ (seen : Array Bool), HeadInv md ops n seen -> seen.getD i true = false -> ∀ j ∈ Region.ready md ops seen, j < n := fun seen inv hun j hj =>
  (Nat.lt_or_ge j n).elim id fun h => absurd hj (tail_waits hs hc hn inv _ i rfl hin hun j h)
 induction f with
 | zero =>
   intro seen a inv _ hr hy H; refine ⟨(fun h => by rw [h] at hr; cases hr), fun j hj => ⟨early seen inv (mem_ready.1 hr).1 j hj, ?_⟩⟩
   by_cases hji : j = i
   ·rw [hji]; exact hy.qOp hi H
   ·have h1 := hdone _ _ H j (ready_mono hj hji); have h2 := early seen inv (mem_ready.1 hr).1 j hj
    omega
 | succ f ih =>
   intro seen a inv hfree hr hy H; have hun := (mem_ready.1 hr).1; refine ⟨(fun h => by rw [h] at hr; cases hr), fun j hj => ⟨early seen inv hun j hj, ?_⟩⟩; have hjn := early seen inv hun j hj
   by_cases hji : j = i
   ·rw [hji]; exact hy.qOp hi H
   ·obtain ⟨hjun, oj, hoj, hall⟩ := mem_ready.1 hj
    have hnot : ∀ e ∈ oj.after, Region.binds md e = true -> e.on ≠ i := fun e he hb heq => by
     have h1 := hall e he hb; rw [heq, getD_both hun] at h1
     cases h1
    have h2 := qOp_put hoj (hfree j oj hoj hji hjun hnot) (fun cs b => hsel i oi cs b hi) (fun cs b => hsel j oj cs b hoj) hy (H.2 j (ready_mono hj hji)).2; refine qOp_mono (fun a' h3 => ih (seen.setIfInBounds j true) a' (inv.set hj hjn) (fun k ok hk hki hku hno => ?_) (ready_mono hr (Ne.symm hji)) h3.1 ?_) h2
    ·refine hfree k ok hk hki ?_ hno
     by_cases hjk : j = k
     ·rw [<- hjk]; exact hjun
     ·rw [getD_set_ne true hjk] at hku; exact hku
    ·rw [Array.setIfInBounds_comm _ _ hji]; exact h3.2
theorem anyHead_lex {n g : Nat} {Lq : Act -> Prop} (hsel : Region.noSelect ops = true) (hs : Region.sinkB md ops n = true) (hc : Region.chainB md ops n = true) (hn : n < ops.size) (l : List Oper) :
  ∀ (k : Nat) (seen : Array Bool) (a : Act), (∀ j, j < l.length -> l[j]? = ops[k + j]?) -> k + l.length = n -> HeadInv md ops n seen ->
  Region.lexHead md ops g l.length k seen = true -> wpQuiet P ops C Lq l a ->
  anyHead P md ops C n (fun seen' a' => Region.seqB md ops g n seen' = true /\ Lq a') l.length seen a := by
 induction l with
 | nil =>
   intro k seen a _ hk _ hB h; obtain rfl : k = n := by simpa using hk
   exact ⟨by simpa [Region.lexHead] using hB, h⟩
 | cons o l ih =>
   intro k seen a hl hk inv hB h; have h0 : ops[k]? = some o := by simpa using (hl 0 (by simp)).symm
   simp only [List.length_cons, Region.lexHead, Bool.and_eq_true] at hB; have hkn : k < n := by simp only [List.length_cons] at hk; omega
   have hr : k ∈ Region.ready md ops seen := by simpa using hB.1.1
   obtain ⟨v, hy, hK⟩ := yieldsIn_of_qOp (C := C) (K := wpQuiet P ops C Lq l) h0 (by unfold qOp; simp only [h0]; exact h)
   exact anyHead_first h0 (Region.noSelect_spec hsel) hs hc hn hkn (fun seen' a' hL => seqB_ready hL.1) l.length seen a inv (Region.free_spec h0 hB.1.2) hr hy
    (ih (k + 1) _ _ (fun j hj => by have := hl (j + 1) (by simp; omega); simpa [Nat.add_assoc, Nat.add_comm 1 j] using this) (by simp only [List.length_cons] at hk; omega) (inv.set hr hkn) hB.2 hK)
theorem wp_region_quiet_tail {id : Nat} {Q : Exit -> Act -> World -> Prop} {a : Act} {w : World} {l : List Oper} (n : Nat) (hm : P.follows .mixedOrders = true) (hB : Region.lexTailB .any l.toArray n = true) (hC : C { w with drawn := w.drawn + 1 })
  (h : wpQuiet P l.toArray C (fun a' => ∀ w', C w' -> wpList P l.toArray Q (l.drop n) a' w') (l.take n) a) : (Code.region id l.toArray true).wp P Q a w := by
 simp only [Region.lexTailB, Bool.and_eq_true, decide_eq_true_eq] at hB; obtain ⟨⟨⟨⟨hsel, hn⟩, hs⟩, hc⟩, hlex⟩ := hB; have hn' : n < l.length := by simpa using hn
 have htl : (l.take n).length = n := by simp; omega
 have hdl : (l.drop n).length = l.toArray.size - n := by simp
 have H := anyHead_lex (P := P) (C := C) (md := .any) (g := l.toArray.size - n) hsel hs hc hn (l.take n) 0 (Array.replicate l.toArray.size false) a
  (fun j hj => by have hj' : j < n := by rw [htl] at hj; exact hj
                  simp [hj']) (by simpa using htl)
  ⟨by simp, fun j oj _ hl => (by rw [getD_replicate_false] at hl; cases hl), fun t _ ht => getD_in (by simpa using ht) (getD_replicate_false _ _)⟩ (by rw [htl]; exact hlex) h
 refine wp_region_any hm ?_
 have := any_of_anyHead (Q' := Q) (g := l.toArray.size - n) (fun seen a' w' hw' hL => by
  have := wpAny_of_seq (md := .any) (Q' := Q) (l.drop n) n seen a' w' (fun j => by simp [List.getElem?_drop]) (by rw [hdl]; exact hL.1) (hL.2 w' hw')
  rwa [hdl] at this) _ _ _ _ hC H
 rw [htl, show n + (l.toArray.size - n) = l.toArray.size by omega] at this; exact this
end
theorem wp_region_below_tail {P : Program} {id : Nat} {Q : Exit -> Act -> World -> Prop} {a : Act} {w : World} {l : List Oper} (n : Nat) (hm : P.follows .mixedOrders = true) (hB : Region.lexTailB .any l.toArray n = true)
  (h : wpQuiet P l.toArray (fun w' => ∃ p : Regrown, w' = grow (redrawn w p.d) p.os) (fun a' => ∀ w', (∃ p : Regrown, w' = grow (redrawn w p.d) p.os) -> wpList P l.toArray Q (l.drop n) a' w') (l.take n) a) : (Code.region id l.toArray true).wp P Q a w :=
 wp_region_quiet_tail (C := fun w' => ∃ p : Regrown, w' = grow (redrawn w p.d) p.os) n hm hB ⟨⟨w.drawn + 1, #[]⟩, by rw [grow_empty]; rfl⟩ h
theorem quiet_load {P : Program} {ops : Array Oper} {rest : List Oper} {o : Oper} {a : Act} {Q : Act -> Prop} {w0 : World} (ty : TypeId) (x : Operand) (ho : o.op = .load ty x) (hw : Region.wanted o (yielded ops a.tmps) = true) (p : Addr) (v : Value)
  (hx : a.eval x = .pointer (some p)) (hl : ∀ d os, (loadVar ty p).run P (grow (redrawn w0 d) os) = .ok v (grow (redrawn w0 d) os))
  (hk : wpQuiet P ops (fun w' => ∃ p : Regrown, w' = grow (redrawn w0 p.d) p.os) Q rest (a.put o.dst v)) : wpQuiet P ops (fun w' => ∃ p : Regrown, w' = grow (redrawn w0 p.d) p.os) Q (o :: rest) a := by
 refine wpQuiet_step (fun K hK => ?_); rw [if_pos hw]; refine ⟨v, fun w hC => ?_, hK _ hk⟩; obtain ⟨p', rfl⟩ := hC; unfold Oper.quietAt
 have e : (execOp a.eval o).run P (grow (redrawn w0 p'.d) p'.os) = .ok (.value v) (grow (redrawn w0 p'.d) p'.os) := by
  unfold execOp; simp only [ho, hx, Instr.loadAt, Instr.sureAddr, Sem.run_bind, Sem.run_pure, Result.andThen_ok, hl]
 rw [e]; exact ⟨rfl, rfl⟩
theorem Blk.lv {W : World} {g : Nat} {t : TypeId} {cs : Array Value} (h : Blk W g t cs) (P : Program) {T : TypeId} {d : TypeDesc} (hu : P.underlying T = some d) (hd : (match d with | .struct _ | .array _ _ => true | _ => false) = true) (hi : (P.info? T).map (·.size) = some cs.size) :
  (loadVar T ⟨g, 0, none⟩).run P W = .ok (.agg cs) W := run_loadVar_row W g t T cs (0, 0) d h hu hd hi
def Ext (W W' : World) : Prop := Below W.heap.size W W'
theorem Ext.refl (W : World) : Ext W W := Below.refl _ _
theorem Ext.trans {A B C : World} (h : Ext A B) (k : Ext B C) : Ext A C := Below.trans h (Below.mono k (Below.size h))
theorem Ext.below {A B : World} (h : Ext A B) : Below A.heap.size A B := h
theorem Ext.drew (W : World) : Ext W W.drew := (Below.refl _ _).drew
structure GR where
 r : Value -> World -> Prop
 keep : ∀ {v : Value} {W W' : World}, r v W -> Ext W W' -> r v W'
def GR.eq (u : Value) : GR := ⟨fun v _ => v = u, fun h _ => h⟩
def GR.at (l : List GR) (i : Nat) : GR := l.getD i ⟨fun _ _ => True, fun _ _ => trivial⟩
def dstAt (ops : Array Oper) (i : Nat) : Option Tmp := (ops[i]?).bind (·.dst)
def updN (vs : Nat -> Value) (i : Nat) (v : Value) : Nat -> Value := fun j => if j = i then v else vs j
def fillA (ops : Array Oper) (vs : Nat -> Value) (seen : Array Bool) (l : List Nat) (f : Act) : Act := l.foldl (fun a i => if seen.getD i false = true then a.put (dstAt ops i) (vs i) else a) f
theorem fillA_cons {ops : Array Oper} {vs : Nat -> Value} {seen : Array Bool} (k : Nat) (t : List Nat) (f : Act) : fillA ops vs seen (k :: t) f = fillA ops vs seen t (if seen.getD k false = true then f.put (dstAt ops k) (vs k) else f) := rfl
theorem fillA_comm {ops : Array Oper} {vs : Nat -> Value} {seen : Array Bool} {x : Option Tmp} {v : Value} (l : List Nat) : ∀ (f : Act), (∀ j, j ∈ l -> ∀ d, dstAt ops j = some d -> x ≠ some d) -> fillA ops vs seen l (f.put x v) = (fillA ops vs seen l f).put x v := by
 induction l with
 | nil => intro f _; rfl
 | cons k t ih =>
   intro f h; rw [fillA_cons, fillA_cons]; have ht : ∀ j, j ∈ t -> ∀ d, dstAt ops j = some d -> x ≠ some d := fun j hj => h j (List.mem_cons_of_mem _ hj)
   split
   ·rw [<- Act.put_comm f (vs k) v (h k (by simp))]; exact ih _ ht
   ·exact ih _ ht
theorem fillA_congr {ops : Array Oper} {vs vs' : Nat -> Value} {seen seen' : Array Bool} (l : List Nat) : ∀ (f : Act), (∀ j, j ∈ l -> seen.getD j false = seen'.getD j false /\ vs j = vs' j) -> fillA ops vs seen l f = fillA ops vs' seen' l f := by
 induction l with
 | nil => intro f _; rfl
 | cons k t ih =>
   intro f h; rw [fillA_cons, fillA_cons]; rw [(h k (by simp)).1, (h k (by simp)).2]; exact ih _ fun j hj => h j (List.mem_cons_of_mem _ hj)
theorem fillA_put {ops : Array Oper} {vs : Nat -> Value} {seen : Array Bool} {i : Nat} {v : Value} (hs : seen.getD i false = false) (hi : i < seen.size) (l : List Nat) : ∀ (f : Act), i ∈ l -> l.Nodup -> (∀ j, j ∈ l -> j ≠ i -> ∀ d, dstAt ops j = some d -> dstAt ops i ≠ some d) ->
  fillA ops (updN vs i v) (seen.setIfInBounds i true) l f = (fillA ops vs seen l f).put (dstAt ops i) v := by
 induction l with
 | nil => intro f h; cases h
 | cons k t ih =>
   intro f hm hn hd; obtain ⟨hk, hn⟩ := List.nodup_cons.1 hn
   by_cases hki : k = i
   ·subst hki; have e1 : (seen.setIfInBounds k true).getD k false = true := by simp [hi]
    have e2 : updN vs k v k = v := by simp [updN]
    rw [fillA_cons, fillA_cons]; rw [if_pos e1, if_neg (by rw [hs]; decide), e2]; rw [<- fillA_comm t f (fun j hj => hd j (List.mem_cons_of_mem _ hj) (fun e => hk (e ▸ hj)))]; refine fillA_congr t _ fun j hj => ?_
    have hne : k ≠ j := fun e => hk (e ▸ hj)
    exact ⟨getD_set_ne false hne, by simp [updN, Ne.symm hne]⟩
   ·have hne : i ≠ k := fun e => hki e.symm
    rw [fillA_cons, fillA_cons]; rw [getD_set_ne false hne, show updN vs i v k = vs k by simp [updN, hki]]; refine ih _ ?_ hn fun j hj => hd j (List.mem_cons_of_mem _ hj)
    rcases List.mem_cons.1 hm with e | e
    ·exact absurd e.symm hki
    ·exact e
theorem put_eval_ne {a : Act} {x : Option Tmp} {v : Value} {t : Tmp} (h : x ≠ some t) : (a.put x v).eval (.tmp t) = a.eval (.tmp t) := by
 cases x with
 | none => rfl
 | some d =>
   have hne : d ≠ t := fun e => h (by rw [e])
   simp [Act.put, Act.eval, Array.getElem?_setIfInBounds_ne hne]
theorem put_eval_eq {a : Act} {v : Value} {t : Tmp} (h : t < a.tmps.size) : (a.put (some t) v).eval (.tmp t) = v := by
 simp [Act.put, Act.eval, h]
theorem put_size {a : Act} {x : Option Tmp} {v : Value} : (a.put x v).tmps.size = a.tmps.size := by cases x <;> simp [Act.put]
theorem fillA_other {ops : Array Oper} {vs : Nat -> Value} {seen : Array Bool} {t : Tmp} (l : List Nat) : ∀ (f : Act), (∀ j, j ∈ l -> dstAt ops j ≠ some t) -> (fillA ops vs seen l f).eval (.tmp t) = f.eval (.tmp t) := by
 induction l with
 | nil => intro f _; rfl
 | cons k r ih =>
   intro f h; rw [fillA_cons]; rw [ih _ fun j hj => h j (List.mem_cons_of_mem _ hj)]
   split
   ·exact put_eval_ne (h k (by simp))
   ·rfl
theorem fillA_at {ops : Array Oper} {vs : Nat -> Value} {seen : Array Bool} {i : Nat} {t : Tmp} (hs : seen.getD i false = true) (ht : dstAt ops i = some t) (l : List Nat) : ∀ (f : Act), t < f.tmps.size -> i ∈ l -> l.Nodup -> (∀ j, j ∈ l -> j ≠ i -> dstAt ops j ≠ some t) -> (fillA ops vs seen l f).eval (.tmp t) = vs i := by
 induction l with
 | nil => intro f _ h; cases h
 | cons k r ih =>
   intro f hf hm hn hd; obtain ⟨hk, hn⟩ := List.nodup_cons.1 hn; rw [fillA_cons]
   by_cases hki : k = i
   ·subst hki; rw [fillA_other r _ fun j hj => hd j (List.mem_cons_of_mem _ hj) (fun e => hk (e ▸ hj)), if_pos hs, ht]; exact put_eval_eq hf
   ·refine ih _ ?_ ?_ hn fun j hj => hd j (List.mem_cons_of_mem _ hj)
    ·split
     ·rw [put_size]; exact hf
     ·exact hf
    ·rcases List.mem_cons.1 hm with e | e
     ·exact absurd e.symm hki
     ·exact e
theorem eval_getD (a : Act) (t : Tmp) : a.eval (.tmp t) = a.tmps[t]?.getD undef := by simp [Act.eval]
def outOf (ops : Array Oper) (n : Nat) : Operand -> Bool
 | .tmp t => (List.range n).all fun j => decide (dstAt ops j ≠ some t)
 | _ => true
def growB (ops : Array Oper) (n : Nat) : Bool :=
 Region.noSelect ops && decide (n < ops.size) && Region.sinkB .any ops n && Region.chainB .any ops n && Region.seqB .any ops (ops.size - n) n ((Array.replicate n true) ++ (Array.replicate (ops.size - n) false)) &&
  (List.range n).all fun i => match ops[i]? with
   | none => false
   | some o => o.guard.isNone && (o.after.all fun e => !Region.binds .any e || decide (e.on < i)) && (match o.dst with | none => false | some t => (List.range n).all fun j => decide (j = i) || decide (dstAt ops j ≠ some t))
def dstB (ops : Array Oper) (n size : Nat) : Bool := (List.range n).all fun i => match dstAt ops i with
 | some t => decide (t < size)
 | none => true
def GrowStep (P : Program) (Q : Exit -> Act -> World -> Prop) (ops : Array Oper) (f : Act) (w : World) (Rs : List GR) (n i : Nat) (o : Oper) : Prop :=
 ∀ (a : Act) (W : World), Ext w W -> (∀ j t, (o.after.any fun e => Region.binds .any e && decide (e.on = j)) = true -> dstAt ops j = some t -> (GR.at Rs j).r (a.tmps[t]?.getD undef) W) -> (∀ t, outOf ops n (.tmp t) = true -> a.tmps[t]?.getD undef = f.tmps[t]?.getD undef) ->
   Oper.wp P o a W (fun a' W' => ∃ v, a' = a.put o.dst v /\ Ext W W' /\ (GR.at Rs i).r v W') Q
def growSteps (P : Program) (Q : Exit -> Act -> World -> Prop) (ops : Array Oper) (f : Act) (w : World) (Rs : List GR) (n : Nat) : List Oper -> Nat -> Prop
 | [], _ => True
 | o :: l, i => GrowStep P Q ops f w Rs n i o /\ growSteps P Q ops f w Rs n l (i + 1)
theorem growSteps_at {P : Program} {Q : Exit -> Act -> World -> Prop} {ops : Array Oper} {f : Act} {w : World} {Rs : List GR} {n : Nat} (l : List Oper) : ∀ (k : Nat), growSteps P Q ops f w Rs n l k -> ∀ (i : Nat) (o : Oper), l[i]? = some o -> GrowStep P Q ops f w Rs n (k + i) o := by
 induction l with
 | nil => intro k _ i o h; simp at h
 | cons b t ih =>
   intro k h i o ho
   cases i with
   | zero => simp at ho; subst ho; exact h.1
   | succ i =>
     have := ih (k + 1) h.2 i o (by simpa using ho)
     rwa [show k + 1 + i = k + (i + 1) by omega] at this
theorem growB_spec {ops : Array Oper} {n : Nat} (h : growB ops n = true) : (∀ i, i < n -> ∃ o t, ops[i]? = some o /\ o.guard = none /\ o.dst = some t /\ (∀ j, j < n -> j ≠ i -> dstAt ops j ≠ some t) /\ ∀ e, e ∈ o.after -> Region.binds .any e = true -> e.on < i) := by
 intro i hi; unfold growB at h; simp only [Bool.and_eq_true] at h; have h1 := List.all_eq_true.1 h.2 i (by simpa using hi)
 cases ho : ops[i]? with
 | none => rw [ho] at h1; simp at h1
 | some o =>
   rw [ho] at h1; simp only [Bool.and_eq_true] at h1; obtain ⟨⟨h2, h4⟩, h3⟩ := h1
   cases hd : o.dst with
   | none => rw [hd] at h3; simp at h3
   | some t =>
     rw [hd] at h3; refine ⟨o, t, rfl, by simpa using h2, hd, fun j hj hji => ?_, fun e he hb => ?_⟩
     ·have := List.all_eq_true.1 h3 j (by simpa using hj)
      simpa [hji] using this
     ·have := Array.all_eq_true_iff_forall_mem.1 h4 e he
      simpa [hb] using this
theorem filter_set {seen : Array Bool} {i : Nat} (hs : i < seen.size) (hun : seen.getD i true = false) (n : Nat) (hin : i < n) :
  ((List.range n).filter fun j => !(seen.setIfInBounds i true).getD j true).length + 1 = ((List.range n).filter fun j => !seen.getD j true).length := by
 induction n with
 | zero => omega
 | succ n ih =>
   rw [List.range_succ, List.filter_append, List.filter_append, List.length_append, List.length_append]
   by_cases hni : i = n
   ·subst hni
    have e1 : (List.range i).filter (fun j => !(seen.setIfInBounds i true).getD j true) = (List.range i).filter (fun j => !seen.getD j true) := by
     refine List.filter_congr fun j hj => ?_
     have : j < i := by simpa using hj
     rw [getD_set_ne true (by omega)]
    have e2 : (seen.setIfInBounds i true).getD i true = true := by simp [hs]
    rw [e1]; simp only [List.filter_cons, List.filter_nil, e2, hun]
    simp
   ·have := ih (by omega); have e1 : (seen.setIfInBounds i true).getD n true = seen.getD n true := getD_set_ne true hni; simp only [List.filter_cons, List.filter_nil, e1]
    omega
theorem headReady {ops : Array Oper} {n : Nat} {seen : Array Bool} (hB : growB ops n = true) (inv : HeadInv .any ops n seen) : ∀ {i : Nat}, i < n -> seen.getD i true = false -> ∃ k, k < n /\ k ∈ Region.ready .any ops seen := by
 intro i
 induction i using Nat.strongRecOn with
 | _ i ih =>
   intro hi hun; obtain ⟨o, t, ho, _, _, _, hb⟩ := growB_spec hB i hi
   by_cases hall : ∀ e, e ∈ o.after -> Region.binds .any e = true -> seen.getD e.on false = true
   ·exact ⟨i, hi, mem_ready.2 ⟨hun, o, ho, hall⟩⟩
   ·simp only [Classical.not_forall] at hall; obtain ⟨e, he, hbe, hne⟩ := hall; have h1 := hb e he hbe; have hlt : i < ops.size := (Array.getElem?_eq_some_iff.1 ho).1; exact ih e.on h1 (by omega) (getD_in (by rw [inv.size]; omega) (by simpa using hne))
theorem wp_region_grow {P : Program} {id : Nat} {Q : Exit -> Act -> World -> Prop} {f : Act} {w : World} {l : List Oper} (n : Nat) (hm : P.follows .mixedOrders = true) (hB : growB l.toArray n = true) (Rs : List GR) (size : Nat) (hsz : f.tmps.size = size) (hfB : dstB l.toArray n size = true)
  (hstep : growSteps P Q l.toArray f w Rs n (l.take n) 0)
  (h : ∀ (vs : Nat -> Value) (W : World), Ext w W -> (∀ i, i < n -> (GR.at Rs i).r (vs i) W) -> wpList P l.toArray Q (l.drop n) ((List.range n).foldl (fun a i => a.put (dstAt l.toArray i) (vs i)) f) W) : (Code.region id l.toArray true).wp P Q f w := by
 have hf : ∀ i t, i < n -> dstAt l.toArray i = some t -> t < f.tmps.size := fun i t hi ht => by
  have := List.all_eq_true.1 hfB i (by simpa using hi); rw [ht] at this; rw [hsz]
  simpa using this
 have hspec := growB_spec hB; have hB' := hB; unfold growB at hB'; simp only [Bool.and_eq_true, decide_eq_true_eq] at hB'; obtain ⟨⟨⟨⟨⟨hsel, hn⟩, hs⟩, hc⟩, hseq⟩, _⟩ := hB'; have hn' : n < l.length := by simpa using hn
 have hdl : (l.drop n).length = l.toArray.size - n := by simp
 refine wp_region_any hm ?_
 -- the count of operations of the head that are still to come
 have main : ∀ (g : Nat) (seen : Array Bool) (vs : Nat -> Value) (W : World), ((List.range n).filter fun i => !seen.getD i true).length = g -> HeadInv .any l.toArray n seen -> Ext w W -> (∀ i, i < n -> seen.getD i false = true -> (GR.at Rs i).r (vs i) W) ->
   wpAny P .any l.toArray Q (g + (l.toArray.size - n)) seen (fillA l.toArray vs seen (List.range n) f) W := by
  intro g
  induction g with
  | zero =>
    intro seen vs W hg inv hE hR
    have hall : ∀ i, i < n -> seen.getD i true = true := fun i hi => by
     have := List.eq_nil_of_length_eq_zero hg; rw [List.filter_eq_nil_iff] at this
     simpa using this i (by simpa using hi)
    have hsz := inv.size
    have hall' : ∀ i, i < n -> seen.getD i false = true := fun i hi => by
     have h1 : i < seen.size := by rw [hsz]; omega
     have h2 := hall i hi
     simp [h1] at h2 ⊢; exact h2
    have hseen : seen = (Array.replicate n true) ++ (Array.replicate (l.toArray.size - n) false) := by
     refine Array.ext (by simp [hsz]; omega) fun i h1 h2 => ?_
     rcases Nat.lt_or_ge i n with hi | hi
     ·have h3 := hall i hi
      simp [h1] at h3
      rw [h3, Array.getElem_append_left (by simpa using hi)]
      simp
     ·have h3 := inv.tail i hi (by rw [<- hsz]; exact h1)
      simp [h1] at h3
      rw [h3, Array.getElem_append_right (by simpa using hi)]
      simp
    have hfill : fillA l.toArray vs seen (List.range n) f = (List.range n).foldl (fun a i => a.put (dstAt l.toArray i) (vs i)) f := by
     have : ∀ (t : List Nat) (f : Act), (∀ i, i ∈ t -> i < n) -> fillA l.toArray vs seen t f = t.foldl (fun a i => a.put (dstAt l.toArray i) (vs i)) f := by
      intro t
      induction t with
      | nil => intro f _; rfl
      | cons k t ih =>
        intro f ht; rw [fillA_cons, List.foldl_cons, if_pos (hall' k (ht k (by simp)))]; exact ih _ fun i hi => ht i (List.mem_cons_of_mem _ hi)
     exact this _ _ fun i hi => by simpa using hi
    rw [hfill, Nat.zero_add]; have hs2 : Region.seqB .any l.toArray (l.toArray.size - n) n seen = true := by rw [hseen]; exact hseq
    have := wpAny_of_seq (md := .any) (Q' := Q) (l.drop n) n seen _ W (fun j => by simp [List.getElem?_drop]) (by rw [hdl]; exact hs2) (h vs W hE fun i hi => hR i hi (hall' i hi))
    rwa [hdl] at this
  | succ g ih =>
    intro seen vs W hg inv hE hR
    obtain ⟨i0, hi0⟩ : ∃ i, i ∈ (List.range n).filter fun i => !seen.getD i true := by
     cases hl : (List.range n).filter fun i => !seen.getD i true with
     | nil => rw [hl] at hg; simp at hg
     | cons b t => exact ⟨b, by simp⟩
    rw [List.mem_filter] at hi0; have hi1 : i0 < n := by simpa using hi0.1
    have hi2 : seen.getD i0 true = false := by simpa using hi0.2
    have early : ∀ j, j ∈ Region.ready .any l.toArray seen -> j < n := fun j hj => (Nat.lt_or_ge j n).elim (fun h => h) fun hh => absurd hj (tail_waits hs hc hn inv _ i0 rfl hi1 hi2 j hh)
    rw [show g + 1 + (l.toArray.size - n) = (g + (l.toArray.size - n)) + 1 by omega]; refine ⟨fun hnil => ?_, fun i hi => ?_⟩
    ·-- some operation of the head is ready: the first of those that are still to come by the order of its waits
     exfalso
     have hmin : ∃ i, i < n /\ i ∈ Region.ready .any l.toArray seen := by
      exact headReady hB inv hi1 hi2
     obtain ⟨i, _, hir⟩ := hmin; rw [hnil] at hir
     cases hir
    ·have hin := early i hi; obtain ⟨hun, o', ho', hall⟩ := mem_ready.1 hi; obtain ⟨o, t, ho, hgd, hdst, hdis, _⟩ := hspec i hin; have : o' = o := Option.some.inj (ho'.symm.trans ho); subst this; have hdi : dstAt l.toArray i = some t := by simp [dstAt, ho, hdst]
     have hlo : (l.take n)[i]? = some o' := by
      rw [List.getElem?_take, if_pos hin]
      simpa using ho
     have st := growSteps_at (l.take n) 0 hstep i o' hlo; rw [Nat.zero_add] at st; have hnd : (List.range n).Nodup := List.nodup_range; have hisz : i < seen.size := by rw [inv.size]; omega
     have hus : seen.getD i false = false := getD_both hun; unfold wpOp; simp only [ho]; rw [if_pos (by simp [Region.wanted, hgd])]; refine Or.inl (Oper.wp_mono ?_ (st _ W hE ?_ ?_))
     ·rintro a' W' ⟨v, rfl, hE', hr⟩; rw [hdst, <- hdi, <- fillA_put (vs := vs) (v := v) hus hisz (List.range n) f (by simpa using hin) hnd (fun j hj hji d hd => by rw [hdi]; intro e; exact hdis j (by simpa using hj) hji (hd.trans e.symm))]; refine ih _ _ _ ?_ (inv.set hi hin) (hE.trans hE') fun j hj hsj => ?_
      ·have hlen := filter_set hisz hun n hin
       omega
      ·by_cases hji : i = j
       ·subst hji; rw [show updN vs i v i = v by simp [updN]]; exact hr
       ·rw [getD_set_ne false hji] at hsj; rw [show updN vs i v j = vs j by simp [updN, Ne.symm hji]]; exact (GR.at Rs j).keep (hR j hj hsj) hE'
     ·intro j t' hj hd; obtain ⟨e, he, hh⟩ := Array.any_eq_true'.1 hj; simp only [Bool.and_eq_true, decide_eq_true_eq] at hh; obtain ⟨hb, rfl⟩ := hh; have hsj := hall e he hb
      have hjn : e.on < n := by
       rcases Nat.lt_or_ge e.on n with h1 | h1
       ·exact h1
       ·exfalso
        rcases Nat.lt_or_ge e.on l.toArray.size with h2 | h2
        ·have h3 := getD_both (inv.tail e.on h1 h2); rw [h3] at hsj; cases hsj
        ·rw [Array.getD_eq_getD_getElem?, Array.getElem?_eq_none (by rw [inv.size]; exact h2)] at hsj
         simp at hsj
      rw [<- eval_getD, fillA_at hsj hd (List.range n) f (hf _ _ hjn hd) (by simpa using hjn) hnd (fun k hk hkj hk2 => by
       obtain ⟨o2, t2, ho2, _, hd2, hdis2, _⟩ := hspec e.on hjn; have e2 : dstAt l.toArray e.on = some t2 := by simp [dstAt, ho2, hd2]
       rw [e2] at hd; exact hdis2 k (by simpa using hk) hkj (by rw [hk2, hd]))]
      exact hR _ hjn hsj
     ·intro t' hx; rw [<- eval_getD, <- eval_getD]; refine fillA_other (List.range n) f fun j hj => ?_
      have := List.all_eq_true.1 hx j hj
      simpa using this
 have h0 := main n (Array.replicate l.toArray.size false) (fun _ => undef) w.drew ?_ ⟨by simp, fun j oj _ hl => (by rw [getD_replicate_false] at hl; cases hl), fun t _ ht => getD_in (by simpa using ht) (getD_replicate_false _ _)⟩ (Ext.drew w) (fun i _ hl => by rw [getD_replicate_false] at hl; cases hl)
 ·have hfill : fillA l.toArray (fun _ => undef) (Array.replicate l.toArray.size false) (List.range n) f = f := by
   have : ∀ (t : List Nat) (f : Act), fillA l.toArray (fun _ => undef) (Array.replicate l.toArray.size false) t f = f := by
    intro t
    induction t with
    | nil => intro f; rfl
    | cons k t ih =>
      intro f; rw [fillA_cons, if_neg (by rw [getD_replicate_false]; decide)]; exact ih f
   exact this _ _
  rw [hfill, show n + (l.toArray.size - n) = l.toArray.size by omega] at h0; exact h0
 ·have : (List.range n).filter (fun i => !(Array.replicate l.toArray.size false).getD i true) = List.range n := by
   rw [List.filter_eq_self]; intro i hi; have : i < n := by simpa using hi
   have : i < l.length := by omega
   simp [this]
  rw [this]
  simp
/-! The steps of a head. -/
section
variable {P : Program} {Q : Exit -> Act -> World -> Prop} {o : Oper} {a : Act} {W W' : World} {r : Value -> World -> Prop}
theorem gs_val {v : Value} (he : (execOp a.eval o).run P W = .ok (.value v) W') (hE : Ext W W') (hr : r v W') :
  Oper.wp P o a W (fun a' W' => ∃ v, a' = a.put o.dst v /\ Ext W W' /\ r v W') Q := by
 unfold Oper.wp; rw [he]; exact ⟨v, rfl, hE, hr⟩
theorem gs_same {v : Value} (he : (execOp a.eval o).run P W = .ok (.value v) W) (hr : r v W) : Oper.wp P o a W (fun a' W' => ∃ v, a' = a.put o.dst v /\ Ext W W' /\ r v W') Q := gs_val he (Ext.refl _) hr
theorem gs_call {f : FuncId} {args : Array Value} (he : (execOp a.eval o).run P W = .ok (.enter f args) W) (hc : Calls P f args W fun e w' => ∃ v, e = .returned v /\ Ext W w' /\ r v w') :
  Oper.wp P o a W (fun a' W' => ∃ v, a' = a.put o.dst v /\ Ext W W' /\ r v W') Q := by
 unfold Oper.wp; rw [he, Oper.upon_enter]; refine hc.mono ?_; rintro e w' ⟨v, rfl, hE, hr⟩; exact ⟨v, rfl, hE, hr⟩
theorem gs_load (ty : TypeId) (x : Operand) (ho : o.op = .load ty x) (p : Addr) (v : Value) (hx : a.eval x = .pointer (some p)) (hl : (loadVar ty p).run P W = .ok v W) (hr : r v W) :
  Oper.wp P o a W (fun a' W' => ∃ v, a' = a.put o.dst v /\ Ext W W' /\ r v W') Q := by
 refine gs_same (v := v) ?_ hr; unfold execOp; simp only [ho, hx, Instr.loadAt, Instr.sureAddr, Sem.run_bind, Sem.run_pure, Result.andThen_ok, hl]
end
end Go.Proofs.YtmafmebcgmegeaaGreatDoor
