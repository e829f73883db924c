/- Part. -/
import Derived.Test.YtmafmebcgmegeaaGreatDoorGz2
namespace Go.Proofs.YtmafmebcgmegeaaGreatDoor
open Go.RowKit Go.Sort
section
variable {P : Program} {ops : Array Oper} {md : Region.Mode} {w0 : World} {al : Nat -> Option (Tmp × Array Value × TypeId)}
def GrowCall (P : Program) (f : FuncId) (args : Array Value) (W : World) (v : Value) : Prop := Calls P f args W (fun e w'' => e = .returned v /\ Below W.heap.size W w'')
def growUpon (P : Program) (W : World) (v : Value) : Result Next -> Prop
 | .ok (.value u) w' => w' = W /\ u = v
 | .ok .skip w' => w' = W /\ v = undef
 | .ok (.enter f args) w' => w' = W /\ GrowCall P f args W v
 | _ => False
def growsTo (P : Program) (o : Oper) (a : Act) (w0 : World) (v : Value) : Prop := ∀ d os, growUpon P (grow (redrawn w0 d) os) v ((execOp a.eval o).run P (grow (redrawn w0 d) os))
def opG (P : Program) (ops : Array Oper) (w0 : World) (al : Nat -> Option (Tmp × Array Value × TypeId)) (i : Nat) (K : Act -> Prop) (a : Act) : Prop :=
 if (al i).isSome then K a else match ops[i]? with
 | none => K a
 | some o => if Region.wanted o (yielded ops a.tmps) then ∃ v, growsTo P o a w0 v /\ K (a.put o.dst v) else K (a.put o.dst undef)
theorem opG_mono {i : Nat} {a : Act} {K K' : Act -> Prop} (h : ∀ a, K a -> K' a) (hh : opG P ops w0 al i K a) : opG P ops w0 al i K' a := by
 unfold opG at *
 split
 ·rename_i hs; rw [if_pos hs] at hh; exact h _ hh
 ·rename_i hs
  rw [if_neg hs] at hh
  split
  ·rename_i ho; simp only [ho] at hh; exact h _ hh
  ·rename_i o ho
   simp only [ho] at hh
   split
   ·rename_i hw; rw [if_pos hw] at hh; obtain ⟨v, h1, h2⟩ := hh; exact ⟨v, h1, h _ h2⟩
   ·rename_i hw; rw [if_neg hw] at hh; exact h _ hh
def anyG (P : Program) (md : Region.Mode) (ops : Array Oper) (w0 : World) (al : Nat -> Option (Tmp × Array Value × TypeId)) (n : Nat) (L : Array Bool -> Act -> Prop) : Nat -> Array Bool -> Act -> Prop
 | 0, seen, a => L seen a
 | f + 1, seen, a => Region.ready md ops seen ≠ [] /\ ∀ i, i ∈ Region.ready md ops seen -> i < n /\ opG P ops w0 al i (anyG P md ops w0 al n L f (seen.setIfInBounds i true)) a
def YieldsG (P : Program) (ops : Array Oper) (w0 : World) (o : Oper) (v : Value) (a : Act) : Prop :=
 (Region.wanted o (yielded ops a.tmps) = true /\ growsTo P o a w0 v) ∨ (Region.wanted o (yielded ops a.tmps) = false /\ v = undef)
theorem YieldsG.opG {i : Nat} {o : Oper} {v : Value} {a : Act} (hal : al i = none) (hi : ops[i]? = some o) (hy : YieldsG P ops w0 o v a) {K : Act -> Prop} (h : K (a.put o.dst v)) : opG P ops w0 al i K a := by
 unfold Go.Proofs.YtmafmebcgmegeaaGreatDoor.opG; simp only [hal, hi, Option.isSome_none, Bool.false_eq_true, if_false]; rcases hy with ⟨hw, hv⟩ | ⟨hw, rfl⟩
 ·simp only [hw, if_true]; exact ⟨v, hv, h⟩
 ·simp only [hw, Bool.false_eq_true, if_false]; exact h
theorem YieldsG.put {j : Nat} {oi oj : Oper} {v : Value} (hal : al j = none) (hj : ops[j]? = some oj) (hap : oi.apart ops oj = true)
  (hsi : ∀ cs b, oi.op ≠ .select cs b) (hsj : ∀ cs b, oj.op ≠ .select cs b) {K : Act -> Prop} {a : Act}
  (hy : YieldsG P ops w0 oi v a) (h : Go.Proofs.YtmafmebcgmegeaaGreatDoor.opG P ops w0 al j K (a.put oi.dst v)) : Go.Proofs.YtmafmebcgmegeaaGreatDoor.opG P ops w0 al j (fun a' => YieldsG P ops w0 oi v a' /\ K (a'.put oi.dst v)) a := by
 obtain ⟨h1, h2, h3⟩ := Oper.apart_spec hap
 have keep : ∀ u, YieldsG P ops w0 oi v (a.put oj.dst u) := fun u => by
  unfold YieldsG growsTo at *; rw [execOp_put oi hsi a oj.dst u h3, wanted_put oi a oj.dst u h3]; exact hy
 unfold Go.Proofs.YtmafmebcgmegeaaGreatDoor.opG at *; simp only [hal, hj, Option.isSome_none, Bool.false_eq_true, if_false] at *; rw [wanted_put oj a oi.dst v h1] at h
 split
 ·rename_i hw
  rw [if_pos hw] at h; obtain ⟨u, hu, hn⟩ := h; refine ⟨u, ?_, keep u, by rw [<- Act.put_comm a v u h2]; exact hn⟩; unfold growsTo at *
  rwa [execOp_put oj hsj a oi.dst v h1] at hu
 ·rename_i hw
  rw [if_neg hw] at h; exact ⟨keep _, by rw [<- Act.put_comm a v undef h2]; exact h⟩
theorem anyG_first {n i : Nat} {oi : Oper} {v : Value} {L : Array Bool -> Act -> Prop} (hali : al i = none) (hi : ops[i]? = some oi) (hsel : ∀ (j : Nat) (o : Oper) cs b, ops[j]? = some o -> o.op ≠ .select cs b)
  (hs : Region.sinkB md ops n = true) (hc : Region.chainB md ops n = true) (hn : n < ops.size) (hin : i < n)
  (hdone : ∀ seen a, L seen a -> ∀ j ∈ Region.ready md ops seen, n <= j) (f : Nat) :
  ∀ (seen : Array Bool) (a : Act), HeadInv md ops n seen ->
    (∀ j oj, ops[j]? = some oj -> j ≠ i -> seen.getD j true = false -> (∀ e ∈ oj.after, Region.binds md e = true -> e.on ≠ i) -> oi.apart ops oj = true) ->
    i ∈ Region.ready md ops seen -> YieldsG P ops w0 oi v a ->
    anyG P md ops w0 al n L f (seen.setIfInBounds i true) (a.put oi.dst v) -> anyG P md ops w0 al n L (f + 1) seen a := by
 have early : ∀ (seen : Array Bool), HeadInv md ops n seen -> seen.getD i true = false -> ∀ j ∈ Region.ready md ops seen, j < n := fun seen inv hun j hj =>
  (Nat.lt_or_ge j n).elim id fun h => absurd hj (tail_waits hs hc hn inv _ i rfl hin hun j h)
 induction f with
 | zero =>
   intro seen a inv _ hr hy H; refine ⟨(fun h => by rw [h] at hr; cases hr), fun j hj => ⟨early seen inv (mem_ready.1 hr).1 j hj, ?_⟩⟩
   by_cases hji : j = i
   ·rw [hji]; exact hy.opG hali hi H
   ·have h1 := hdone _ _ H j (ready_mono hj hji); have h2 := early seen inv (mem_ready.1 hr).1 j hj
    omega
 | succ f ih =>
   intro seen a inv hfree hr hy H; have hun := (mem_ready.1 hr).1; refine ⟨(fun h => by rw [h] at hr; cases hr), fun j hj => ⟨early seen inv hun j hj, ?_⟩⟩; have hjn := early seen inv hun j hj
   by_cases hji : j = i
   ·rw [hji]; exact hy.opG hali hi H
   ·obtain ⟨hjun, oj, hoj, hall⟩ := mem_ready.1 hj
    have hnot : ∀ e ∈ oj.after, Region.binds md e = true -> e.on ≠ i := fun e he hb heq => by
     have h1 := hall e he hb; rw [heq, getD_both hun] at h1
     cases h1
    have hfree' : ∀ k ok, ops[k]? = some ok -> k ≠ i -> (seen.setIfInBounds j true).getD k true = false -> (∀ e ∈ ok.after, Region.binds md e = true -> e.on ≠ i) -> oi.apart ops ok = true := fun k ok hk hki hku hno => by
     refine hfree k ok hk hki ?_ hno
     by_cases hjk : j = k
     ·rw [<- hjk]; exact hjun
     ·rw [getD_set_ne true hjk] at hku; exact hku
    have hH := (H.2 j (ready_mono hj hji)).2
    cases halj : al j with
    | some x =>
      unfold Go.Proofs.YtmafmebcgmegeaaGreatDoor.opG at hH ⊢; simp only [halj, Option.isSome_some, if_true] at hH ⊢; refine ih (seen.setIfInBounds j true) a (inv.set hj hjn) hfree' (ready_mono hr (Ne.symm hji)) hy ?_; rw [Array.setIfInBounds_comm _ _ hji]; exact hH
    | none =>
      refine opG_mono (fun a' h3 => ih (seen.setIfInBounds j true) a' (inv.set hj hjn) hfree' (ready_mono hr (Ne.symm hji)) h3.1 ?_)
       (YieldsG.put halj hoj (hfree j oj hoj hji hjun hnot) (fun cs b => hsel i oi cs b hi) (fun cs b => hsel j oj cs b hoj) hy hH)
      rw [Array.setIfInBounds_comm _ _ hji]; exact h3.2
theorem anyG_skip {n i : Nat} {L : Array Bool -> Act -> Prop} (hali : (al i).isSome = true) (hs : Region.sinkB md ops n = true) (hc : Region.chainB md ops n = true) (hn : n < ops.size) (hin : i < n)
  (hdone : ∀ seen a, L seen a -> ∀ j ∈ Region.ready md ops seen, n <= j) (f : Nat) :
  ∀ (seen : Array Bool) (a : Act), HeadInv md ops n seen -> i ∈ Region.ready md ops seen -> anyG P md ops w0 al n L f (seen.setIfInBounds i true) a -> anyG P md ops w0 al n L (f + 1) seen a := by
 have early : ∀ (seen : Array Bool), HeadInv md ops n seen -> seen.getD i true = false -> ∀ j ∈ Region.ready md ops seen, j < n := fun seen inv hun j hj =>
  (Nat.lt_or_ge j n).elim id fun h => absurd hj (tail_waits hs hc hn inv _ i rfl hin hun j h)
 have self : ∀ {K : Act -> Prop} {a : Act}, K a -> opG P ops w0 al i K a := fun h => by unfold opG; rw [if_pos hali]; exact h
 induction f with
 | zero =>
   intro seen a inv hr H; refine ⟨(fun h => by rw [h] at hr; cases hr), fun j hj => ⟨early seen inv (mem_ready.1 hr).1 j hj, ?_⟩⟩
   by_cases hji : j = i
   ·rw [hji]; exact self H
   ·have h1 := hdone _ _ H j (ready_mono hj hji); have h2 := early seen inv (mem_ready.1 hr).1 j hj
    omega
 | succ f ih =>
   intro seen a inv hr H; have hun := (mem_ready.1 hr).1; refine ⟨(fun h => by rw [h] at hr; cases hr), fun j hj => ⟨early seen inv hun j hj, ?_⟩⟩; have hjn := early seen inv hun j hj
   by_cases hji : j = i
   ·rw [hji]; exact self H
   ·refine opG_mono (fun a' h3 => ih (seen.setIfInBounds j true) a' (inv.set hj hjn) (ready_mono hr (Ne.symm hji)) ?_) (H.2 j (ready_mono hj hji)).2; rw [Array.setIfInBounds_comm _ _ hji]; exact h3
def wpG (P : Program) (ops : Array Oper) (w0 : World) (al : Nat -> Option (Tmp × Array Value × TypeId)) (Q : Act -> Prop) : Nat -> List Oper -> Act -> Prop
 | _, [], a => Q a
 | k, o :: rest, a => if (al k).isSome then wpG P ops w0 al Q (k + 1) rest a else
   if Region.wanted o (yielded ops a.tmps) then ∃ v, growsTo P o a w0 v /\ wpG P ops w0 al Q (k + 1) rest (a.put o.dst v) else wpG P ops w0 al Q (k + 1) rest (a.put o.dst undef)
theorem anyG_lex {n g : Nat} {Lq : Act -> Prop} (hsel : Region.noSelect ops = true) (hs : Region.sinkB md ops n = true) (hc : Region.chainB md ops n = true) (hn : n < ops.size) (l : List Oper) :
  ∀ (k : Nat) (seen : Array Bool) (a : Act), (∀ j, j < l.length -> l[j]? = ops[k + j]?) -> k + l.length = n -> HeadInv md ops n seen -> (∀ j, j < k -> seen.getD j false = true) ->
  Region.lexHead md ops g l.length k seen = true -> wpG P ops w0 al Lq k l a ->
  anyG P md ops w0 al n (fun seen' a' => Region.seqB md ops g n seen' = true /\ (∀ j, j < n -> seen'.getD j false = true) /\ Lq a') l.length seen a := by
 induction l with
 | nil =>
   intro k seen a _ hk _ hdn hB h; obtain rfl : k = n := by simpa using hk
   exact ⟨by simpa [Region.lexHead] using hB, hdn, h⟩
 | cons o l ih =>
   intro k seen a hl hk inv hdn hB h; have h0 : ops[k]? = some o := by simpa using (hl 0 (by simp)).symm
   simp only [List.length_cons, Region.lexHead, Bool.and_eq_true] at hB; have hkn : k < n := by simp only [List.length_cons] at hk; omega
   have hr : k ∈ Region.ready md ops seen := by simpa using hB.1.1
   have hdn' : ∀ j, j < k + 1 -> (seen.setIfInBounds k true).getD j false = true := fun j hj => by
    by_cases hjk : j < k
    ·exact getD_set_true (hdn j hjk)
    ·obtain rfl : j = k := by omega
     have : j < seen.size := by rw [inv.size]; omega
     simp [this]
   have next := ih (k + 1) (seen.setIfInBounds k true); have hl' : ∀ j, j < l.length -> l[j]? = ops[k + 1 + j]? := fun j hj => by have := hl (j + 1) (by simp; omega); simpa [Nat.add_assoc, Nat.add_comm 1 j] using this
   have hk' : k + 1 + l.length = n := by simp only [List.length_cons] at hk; omega
   simp only [wpG] at h
   cases hal : al k with
   | some x =>
     simp only [hal, Option.isSome_some, if_true] at h; exact anyG_skip (by rw [hal]; rfl) hs hc hn hkn (fun seen' a' hL => seqB_ready hL.1) l.length seen a inv hr (next a hl' hk' (inv.set hr hkn) hdn' hB.2 h)
   | none =>
     simp only [hal, Option.isSome_none, Bool.false_eq_true, if_false] at h
     by_cases hw : Region.wanted o (yielded ops a.tmps) = true
     ·rw [if_pos hw] at h; obtain ⟨v, hv, hK⟩ := h; exact anyG_first hal h0 (Region.noSelect_spec hsel) hs hc hn hkn (fun seen' a' hL => seqB_ready hL.1) l.length seen a inv (Region.free_spec h0 hB.1.2) hr (Or.inl ⟨hw, hv⟩) (next _ hl' hk' (inv.set hr hkn) hdn' hB.2 hK)
     ·rw [if_neg hw] at h; exact anyG_first hal h0 (Region.noSelect_spec hsel) hs hc hn hkn (fun seen' a' hL => seqB_ready hL.1) l.length seen a inv (Region.free_spec h0 hB.1.2) hr (Or.inr ⟨by simpa using hw, rfl⟩) (next _ hl' hk' (inv.set hr hkn) hdn' hB.2 h)
/-! The cells that are made on the way. -/
def puts (al : Nat -> Option (Tmp × Array Value × TypeId)) (a : Act) (seen : Array Bool) (gs : Nat -> Nat) : Nat -> Act
 | 0 => a
 | k + 1 => match al k with
   | some x => if seen.getD k false then (puts al a seen gs k).put (some x.1) (.pointer (some ⟨gs k, 0, none⟩)) else puts al a seen gs k
   | none => puts al a seen gs k
theorem puts_congr {a : Act} {seen seen' : Array Bool} {gs gs' : Nat -> Nat} (k : Nat) (h : ∀ j x, j < k -> al j = some x -> seen.getD j false = seen'.getD j false /\ gs j = gs' j) : puts al a seen gs k = puts al a seen' gs' k := by
 induction k with
 | zero => rfl
 | succ k ih =>
   have ih' := ih fun j x hj hx => h j x (by omega) hx
   unfold puts
   cases hal : al k with
   | none => exact ih'
   | some x =>
     obtain ⟨h1, h2⟩ := h k x (by omega) hal; simp only [h1, h2, ih']
theorem puts_put {a : Act} {seen : Array Bool} {gs : Nat -> Nat} {dst : Option Tmp} {v : Value} (k : Nat) (h : ∀ j x, j < k -> al j = some x -> dst ≠ some x.1) : (puts al a seen gs k).put dst v = puts al (a.put dst v) seen gs k := by
 induction k with
 | zero => rfl
 | succ k ih =>
   have ih' := ih fun j x hj hx => h j x (by omega) hx
   unfold puts
   cases hal : al k with
   | none => exact ih'
   | some x =>
     simp only
     split
     ·rw [<- ih']; exact Act.put_comm _ _ _ (fun d hd he => h k x (by omega) hal (by rw [he, hd]))
     ·exact ih'
theorem puts_set {a : Act} {seen : Array Bool} {gs : Nat -> Nat} {i g : Nat} {x : Tmp × Array Value × TypeId} (hi : al i = some x) (hs : i < seen.size) (hun : seen.getD i false = false)
  (hd : ∀ j y, al j = some y -> j ≠ i -> y.1 ≠ x.1) (k : Nat) (hk : i < k) :
  (puts al a seen gs k).put (some x.1) (.pointer (some ⟨g, 0, none⟩)) = puts al a (seen.setIfInBounds i true) (fun j => if j = i then g else gs j) k := by
 induction k with
 | zero => omega
 | succ k ih =>
   by_cases hik : i = k
   ·subst hik; unfold puts; simp only [hi]; rw [if_neg (by rw [hun]; simp), if_pos (by simp [hs])]; simp only [if_true]
    congr 1
    exact puts_congr i fun j y hj hy => ⟨(getD_set_ne false (by omega)).symm, by rw [if_neg (by omega)]⟩
   ·have ih' := ih (by omega); unfold puts
    cases hal : al k with
    | none => exact ih'
    | some y =>
      simp only; rw [getD_set_ne false hik, if_neg (show k ≠ i by omega)]
      split
      ·rw [<- ih']
       exact Act.put_comm _ _ _ (fun d hd1 he => hd k y hal (by omega) (by
        have h1 : y.1 = d := Option.some.inj hd1; have h2 : x.1 = d := Option.some.inj he; rw [h1, h2]))
      ·exact ih'
theorem puts_exec {o : Oper} (hsel : ∀ cs b, o.op ≠ .select cs b) {a : Act} {seen : Array Bool} {gs : Nat -> Nat} (k : Nat) (h : ∀ j x, j < k -> al j = some x -> x.1 ∉ o.looksAt ops) :
  execOp (puts al a seen gs k).eval o = execOp a.eval o /\ Region.wanted o (yielded ops (puts al a seen gs k).tmps) = Region.wanted o (yielded ops a.tmps) := by
 induction k with
 | zero => exact ⟨rfl, rfl⟩
 | succ k ih =>
   have ih' := ih fun j x hj hx => h j x (by omega) hx
   unfold puts
   cases hal : al k with
   | none => exact ih'
   | some x =>
     simp only
     split
     ·have hx := h k x (by omega) hal; have hd : ∀ d, (some x.1 : Option Tmp) = some d -> d ∉ o.looksAt ops := fun d hd => by rw [<- Option.some.inj hd]; exact hx
      exact ⟨(execOp_put o hsel _ _ _ hd).trans ih'.1, (wanted_put o _ _ _ hd).trans ih'.2⟩
     ·exact ih'
structure Made (w0 : World) (al : Nat -> Option (Tmp × Array Value × TypeId)) (n : Nat) (seen : Array Bool) (gs : Nat -> Nat) (w : World) : Prop where
 below : Below w0.heap.size w0 w
 blk : ∀ i x, al i = some x -> i < n -> seen.getD i false = true -> Blk w (gs i) x.2.2 x.2.1 /\ w0.heap.size <= gs i
 apart : ∀ i j x y, al i = some x -> al j = some y -> i < n -> j < n -> seen.getD i false = true -> seen.getD j false = true -> i ≠ j -> gs i ≠ gs j
structure AllocOk (P : Program) (ops : Array Oper) (n : Nat) (al : Nat -> Option (Tmp × Array Value × TypeId)) : Prop where
 op : ∀ i x, al i = some x -> ∃ o, ops[i]? = some o /\ o.dst = some x.1 /\ o.guard = none /\ ∀ ev W, (execOp ev o).run P W = .ok (.value (.pointer (some ⟨W.heap.size, 0, none⟩))) (W.alloc (.cells x.2.1 x.2.2))
 looks : ∀ i x j o, al i = some x -> i < n -> al j = none -> j < n -> ops[j]? = some o -> x.1 ∉ o.looksAt ops /\ o.dst ≠ some x.1
 names : ∀ i j x y, al i = some x -> al j = some y -> j ≠ i -> y.1 ≠ x.1
theorem Made.grown {n : Nat} {seen : Array Bool} {gs : Nat -> Nat} {w w' : World} (h : Made w0 al n seen gs w) (hb : Below w.heap.size w w') : Made w0 al n seen gs w' :=
 ⟨h.below.trans (hb.mono h.below.size), fun i x hx hi hs => ⟨(h.blk i x hx hi hs).1.below hb, (h.blk i x hx hi hs).2⟩, h.apart⟩
theorem any_of_anyG {n g : Nat} {L : Array Bool -> Act -> Prop} {Q' : Exit -> Act -> World -> Prop} (hsel : ∀ (j : Nat) (o : Oper) cs b, ops[j]? = some o -> o.op ≠ .select cs b) (hA : AllocOk P ops n al)
  (hL : ∀ seen a w gs, Made w0 al n seen gs w -> L seen a -> wpAny P md ops Q' g seen (puts al a seen gs n) w) (f : Nat) :
  ∀ (seen : Array Bool) (a : Act) (w : World) (gs : Nat -> Nat), seen.size = ops.size -> Made w0 al n seen gs w -> anyG P md ops w0 al n L f seen a -> wpAny P md ops Q' (f + g) seen (puts al a seen gs n) w := by
 induction f with
 | zero => intro seen a w gs _ hw h; rw [Nat.zero_add]; exact hL _ _ _ _ hw h
 | succ f ih =>
   intro seen a w gs hsz hw h; rw [show f + 1 + g = (f + g) + 1 by omega]; refine ⟨fun h0 => absurd h0 h.1, fun i hi => ?_⟩; obtain ⟨hin, hop⟩ := h.2 i hi; obtain ⟨hun, o, ho, _⟩ := mem_ready.1 hi; have hlt : i < seen.size := by rw [hsz]; exact (Array.getElem?_eq_some_iff.1 ho).1
   have hun' : seen.getD i false = false := getD_both hun; unfold opG at hop; unfold wpOp; simp only [ho]
   cases hal : al i with
   | some x =>
     simp only [hal, Option.isSome_some, if_true] at hop; obtain ⟨o', ho', hdst, hg, hex⟩ := hA.op i x hal; obtain rfl : o = o' := Option.some.inj (ho.symm.trans ho'); rw [if_pos (by unfold Region.wanted; rw [hg])]; refine Or.inl ?_; unfold Oper.wp; rw [hex]; simp only [Oper.upon]; rw [hdst, puts_set hal hlt hun' (fun j y hy hji => hA.names i j x y hal hy hji) n hin]; refine ih _ _ _ _ (by simp [hsz]) ?_ hop; refine ⟨hw.below.alloc hw.below.size _, fun j y hy hj hs => ?_, fun j k y z hy hz hj hk hs1 hs2 hjk => ?_⟩
     ·by_cases hji : j = i
      ·subst hji; obtain rfl : x = y := Option.some.inj (hal.symm.trans hy); rw [if_pos rfl]; exact ⟨Blk.new _ _ _, hw.below.size⟩
      ·rw [if_neg hji]; rw [getD_set_ne false (Ne.symm hji)] at hs; obtain ⟨h1, h2⟩ := hw.blk j y hy hj hs; exact ⟨h1.alloc _, h2⟩
     ·by_cases hji : j = i
      ·subst hji; rw [if_pos rfl, if_neg (Ne.symm hjk)]; rw [getD_set_ne false hjk] at hs2; have := lt_of_block (hw.blk k z hz hk hs2).1
       omega
      ·rw [if_neg hji]; rw [getD_set_ne false (Ne.symm hji)] at hs1
       by_cases hki : k = i
       ·subst hki; rw [if_pos rfl]; have := lt_of_block (hw.blk j y hy hj hs1).1
        omega
       ·rw [if_neg hki]; rw [getD_set_ne false (Ne.symm hki)] at hs2; exact hw.apart j k y z hy hz hj hk hs1 hs2 hjk
   | none =>
     simp only [hal, ho, Option.isSome_none, Bool.false_eq_true, if_false] at hop; obtain ⟨e1, e2⟩ := puts_exec (ops := ops) (al := al) (fun cs b => hsel i o cs b ho) (a := a) (seen := seen) (gs := gs) n (fun j x hj hx => (hA.looks j x i o hx hj hal hin ho).1)
     have e3 : ∀ v, (puts al a seen gs n).put o.dst v = puts al (a.put o.dst v) (seen.setIfInBounds i true) gs n := fun v => by
      rw [puts_put n (fun j x hj hx => (hA.looks j x i o hx hj hal hin ho).2)]; refine puts_congr n fun j x _ hx => ⟨(getD_set_ne false ?_).symm, rfl⟩
      rintro rfl; rw [hal] at hx; cases hx
     have mk : ∀ w', Made w0 al n seen gs w' -> Made w0 al n (seen.setIfInBounds i true) gs w' := fun w' h' => by
      have back : ∀ j x, al j = some x -> (seen.setIfInBounds i true).getD j false = true -> seen.getD j false = true := fun j x hx hs => by
       rw [getD_set_ne false (by rintro rfl; rw [hal] at hx; cases hx)] at hs; exact hs
      exact ⟨h'.below, fun j x hx hj hs => h'.blk j x hx hj (back j x hx hs), fun j k x y hx hy hj hk hs1 hs2 => h'.apart j k x y hx hy hj hk (back j x hx hs1) (back k y hy hs2)⟩
     rw [e2]
     split
     ·rename_i hwa
      rw [if_pos hwa] at hop; obtain ⟨v, hv, hK⟩ := hop; refine Or.inl ?_; obtain ⟨p, hp⟩ := regrown_of_below hw.below; have h3 := hv p.d p.os; rw [<- hp] at h3; unfold Oper.wp; rw [e1]
      generalize (execOp a.eval o).run P w = r at *
      cases r with
      | halt x w' => simp only [growUpon] at h3
      | ok nx w' =>
        cases nx <;> simp only [growUpon] at h3 <;> simp only [Oper.upon]
        case value u =>
         obtain ⟨q1, q2⟩ := h3; rw [q1, q2, e3]; exact ih _ _ _ _ (by simp [hsz]) (mk _ hw) hK
        case skip =>
         obtain ⟨q1, q2⟩ := h3; rw [q1, <- q2, e3]; exact ih _ _ _ _ (by simp [hsz]) (mk _ hw) hK
        case enter fn args =>
         obtain ⟨q1, q2⟩ := h3; rw [q1]
         exact q2.mono fun e w'' ⟨he, hb⟩ => by
          subst he
          show wpAny P md ops Q' (f + g) (seen.setIfInBounds i true) ((puts al a seen gs n).put o.dst v) w''
          rw [e3]; exact ih _ _ _ _ (by simp [hsz]) (mk _ (hw.grown hb)) hK
     ·rename_i hwa
      rw [if_neg hwa] at hop; rw [e3]; exact ih _ _ _ _ (by simp [hsz]) (mk _ hw) hop
end
theorem wpG_step {P : Program} {ops : Array Oper} {w0 : World} {al : Nat -> Option (Tmp × Array Value × TypeId)} {Q : Act -> Prop} {k : Nat} {a : Act} {o : Oper} {rest : List Oper} (hal : (al k).isSome = false)
  (h : ∀ K : Act -> Prop, (∀ a, wpG P ops w0 al Q (k + 1) rest a -> K a) -> if Region.wanted o (yielded ops a.tmps) then ∃ v, growsTo P o a w0 v /\ K (a.put o.dst v) else K (a.put o.dst undef)) : wpG P ops w0 al Q k (o :: rest) a := by
 unfold wpG; rw [hal]; simp only [Bool.false_eq_true, if_false]; exact h _ (fun _ h => h)
theorem wpG_skip {P : Program} {ops : Array Oper} {w0 : World} {al : Nat -> Option (Tmp × Array Value × TypeId)} {Q : Act -> Prop} {k : Nat} {a : Act} {o : Oper} {rest : List Oper} (hal : (al k).isSome = true)
  (h : wpG P ops w0 al Q (k + 1) rest a) : wpG P ops w0 al Q k (o :: rest) a := by
 unfold wpG; rw [hal]; simp only [if_true]; exact h
theorem wpG_nil {P : Program} {ops : Array Oper} {w0 : World} {al : Nat -> Option (Tmp × Array Value × TypeId)} {Q : Act -> Prop} {k : Nat} {a : Act} (h : Q a) : wpG P ops w0 al Q k [] a := h
theorem wpG_load {P : Program} {ops : Array Oper} {w0 : World} {al : Nat -> Option (Tmp × Array Value × TypeId)} {Q : Act -> Prop} {k : Nat} {a : Act} {o : Oper} {rest : List Oper} (ty : TypeId) (x : Operand) (hal : (al k).isSome = false) (ho : o.op = .load ty x)
  (hw : Region.wanted o (yielded ops a.tmps) = true) (p : Addr) (v : Value) (hx : a.eval x = .pointer (some p)) (hl : ∀ d os, (loadVar ty p).run P (grow (redrawn w0 d) os) = .ok v (grow (redrawn w0 d) os))
  (hk : wpG P ops w0 al Q (k + 1) rest (a.put o.dst v)) : wpG P ops w0 al Q k (o :: rest) a := by
 refine wpG_step hal (fun K hK => ?_); rw [if_pos hw]; refine ⟨v, fun d os => ?_, hK _ hk⟩
 have e : (execOp a.eval o).run P (grow (redrawn w0 d) os) = .ok (.value v) (grow (redrawn w0 d) os) := by
  unfold execOp; simp only [ho, hx, Instr.loadAt, Instr.sureAddr, Sem.run_bind, Sem.run_pure, Result.andThen_ok, hl]
 rw [e]; exact ⟨rfl, rfl⟩
def alOf (L : List (Nat × Tmp × Array Value × TypeId)) (i : Nat) : Option (Tmp × Array Value × TypeId) := (L.find? (fun x => x.1 == i)).map (·.2)
def alB (ops : Array Oper) (n : Nat) (L : List (Nat × Tmp)) : Bool :=
 (L.all fun x => match ops[x.1]? with | some o => o.dst == some x.2 && o.guard.isNone | none => false) &&
 ((List.range n).all fun j => (L.any fun x => x.1 == j) || match ops[j]? with | some o => L.all (fun x => !(o.looksAt ops).contains x.2 && o.dst != some x.2) | none => true) &&
 (L.all fun x => L.all fun y => x.1 == y.1 || x.2 != y.2)
theorem alOf_mem {L : List (Nat × Tmp × Array Value × TypeId)} {i : Nat} {x : Tmp × Array Value × TypeId} (h : alOf L i = some x) : (i, x) ∈ L := by
 unfold alOf at h
 cases hf : L.find? (fun x => x.1 == i) with
 | none => rw [hf] at h; cases h
 | some y =>
   rw [hf] at h; have h1 := List.mem_of_find?_eq_some hf; have h2 := List.find?_some hf; obtain ⟨y1, y2⟩ := y; obtain rfl : y2 = x := Option.some.inj h; obtain rfl : y1 = i := by simpa using h2
   exact h1
theorem alOf_none {L : List (Nat × Tmp × Array Value × TypeId)} {j : Nat} (h : alOf L j = none) : (L.map fun x => (x.1, x.2.1)).any (fun x => x.1 == j) = false := by
 unfold alOf at h; have h2 := List.find?_eq_none.1 (Option.map_eq_none_iff.1 h); rw [List.any_eq_false]; intro y hy; obtain ⟨z, hz, rfl⟩ := List.mem_map.1 hy; exact h2 z hz
theorem alloc_ok {P : Program} {ops : Array Oper} {n : Nat} {L : List (Nat × Tmp × Array Value × TypeId)} (hB : alB ops n (L.map fun x => (x.1, x.2.1)) = true)
  (hz : ∀ x, x ∈ L -> ∀ o, ops[x.1]? = some o -> ∀ ev W, (execOp ev o).run P W = .ok (.value (.pointer (some ⟨W.heap.size, 0, none⟩))) (W.alloc (.cells x.2.2.1 x.2.2.2))) : AllocOk P ops n (alOf L) := by
 simp only [alB, Bool.and_eq_true] at hB; obtain ⟨⟨h1, h2⟩, h3⟩ := hB; refine ⟨fun i x hx => ?_, fun i x j o hx _ hj hjn ho => ?_, fun i j x y hx hy hji e => ?_⟩
 ·have hm := alOf_mem hx; have h4 := List.all_eq_true.1 h1 _ (List.mem_map.2 ⟨_, hm, rfl⟩); simp only at h4
  split at h4
  ·rename_i o ho
   simp only [Bool.and_eq_true, beq_iff_eq, Option.isNone_iff_eq_none] at h4; exact ⟨o, ho, h4.1, h4.2, fun ev W => hz _ hm o ho ev W⟩
  ·cases h4
 ·have h4 := List.all_eq_true.1 h2 j (List.mem_range.2 hjn); rw [alOf_none hj, Bool.false_or, ho] at h4; have h5 := List.all_eq_true.1 h4 _ (List.mem_map.2 ⟨_, alOf_mem hx, rfl⟩); simp only [Bool.and_eq_true, Bool.not_eq_true', List.contains_eq_mem, decide_eq_false_iff_not, bne_iff_ne] at h5; exact h5
 ·have h4 := List.all_eq_true.1 h3 _ (List.mem_map.2 ⟨_, alOf_mem hx, rfl⟩); have h5 := List.all_eq_true.1 h4 _ (List.mem_map.2 ⟨_, alOf_mem hy, rfl⟩); simp only [Bool.or_eq_true, beq_iff_eq, bne_iff_ne] at h5; rcases h5 with h5 | h5
  ·exact hji h5.symm
  ·exact h5 e.symm
def putAll (al : Nat -> Option (Tmp × Array Value × TypeId)) (a : Act) (gs : Nat -> Nat) : Nat -> Act
 | 0 => a
 | k + 1 => match al k with
   | some x => (putAll al a gs k).put (some x.1) (.pointer (some ⟨gs k, 0, none⟩))
   | none => putAll al a gs k
theorem puts_all {al : Nat -> Option (Tmp × Array Value × TypeId)} {a : Act} {gs : Nat -> Nat} {n : Nat} (k : Nat) (hk : k <= n) : puts al a (Array.replicate n true) gs k = putAll al a gs k := by
 induction k with
 | zero => rfl
 | succ k ih =>
   have ih' := ih (by omega); unfold puts putAll
   cases hal : al k with
   | none => exact ih'
   | some x =>
     simp only; have hk2 : (Array.replicate n true).getD k false = true := by simp [show k < n by omega]
     rw [if_pos hk2, ih']
theorem wp_region_made {P : Program} {id : Nat} {Q : Exit -> Act -> World -> Prop} {a : Act} {w : World} {l : List Oper} (n : Nat) (L : List (Nat × Tmp × Array Value × TypeId)) (hm : P.follows .mixedOrders = true) (hB : Region.lexTailB .any l.toArray n = true)
  (hA : alB l.toArray n (L.map fun x => (x.1, x.2.1)) = true)
  (hz : ∀ x, x ∈ L -> ∀ o, l[x.1]? = some o -> ∀ ev W, (execOp ev o).run P W = .ok (.value (.pointer (some ⟨W.heap.size, 0, none⟩))) (W.alloc (.cells x.2.2.1 x.2.2.2)))
  (h : wpG P l.toArray w (alOf L) (fun a' => ∀ gs w', Made w (alOf L) n (Array.replicate n true) gs w' -> wpList P l.toArray Q (l.drop n) (putAll (alOf L) a' gs n) w') 0 (l.take n) a) : (Code.region id l.toArray true).wp P Q a w := by
 have hlex := hB; simp only [Region.lexTailB, Bool.and_eq_true, decide_eq_true_eq] at hlex; obtain ⟨⟨⟨⟨hsel, hn⟩, hs⟩, hc⟩, hlex⟩ := hlex; have hn' : n < l.length := by simpa using hn
 have htl : (l.take n).length = n := by simp; omega
 have hdl : (l.drop n).length = l.toArray.size - n := by simp
 have H := anyG_lex (P := P) (w0 := w) (al := alOf L) (md := .any) (g := l.toArray.size - n) hsel hs hc hn (l.take n) 0 (Array.replicate l.toArray.size false) a
  (fun j hj => by have hj' : j < n := by rw [htl] at hj; exact hj
                  simp [hj']) (by simpa using htl)
  ⟨by simp, fun j oj _ hl => (by rw [getD_replicate_false] at hl; cases hl), fun t _ ht => getD_in (by simpa using ht) (getD_replicate_false _ _)⟩ (fun j hj => by omega) (by rw [htl]; exact hlex) h
 refine wp_region_any hm ?_; have htrue : ∀ j, j < n -> (Array.replicate n true).getD j false = true := fun j hj => by simp [hj]
 have hfin : ∀ (seen : Array Bool) (a' : Act) (w' : World) (gs : Nat -> Nat), Made w (alOf L) n seen gs w' -> (Region.seqB .any l.toArray (l.toArray.size - n) n seen = true /\ (∀ j, j < n -> seen.getD j false = true) /\
   (∀ gs w', Made w (alOf L) n (Array.replicate n true) gs w' -> wpList P l.toArray Q (l.drop n) (putAll (alOf L) a' gs n) w')) -> wpAny P .any l.toArray Q (l.toArray.size - n) seen (puts (alOf L) a' seen gs n) w' := fun seen a' w' gs hw' hL => by
  have hc2 := puts_congr (al := alOf L) (a := a') (seen := seen) (seen' := Array.replicate n true) (gs := gs) (gs' := gs) n (fun j x hj _ => ⟨by rw [hL.2.1 j hj, htrue j hj], rfl⟩); rw [hc2, puts_all n (Nat.le_refl _)]
  have := wpAny_of_seq (md := .any) (Q' := Q) (l.drop n) n seen (putAll (alOf L) a' gs n) w' (fun j => by simp [List.getElem?_drop]) (by rw [hdl]; exact hL.1)
   (hL.2.2 gs w' ⟨hw'.below, fun i x hx hi _ => hw'.blk i x hx hi (hL.2.1 i hi), fun i j x y hx hy hi hj _ _ => hw'.apart i j x y hx hy hi hj (hL.2.1 i hi) (hL.2.1 j hj)⟩)
  rwa [hdl] at this
 have := any_of_anyG (Q' := Q) (Region.noSelect_spec hsel) (alloc_ok (L := L) hA (fun x hx o ho => hz x hx o (by simpa using ho))) hfin _ _ _ { w with drawn := w.drawn + 1 } (fun _ => 0) (by simp)
  ⟨⟨rfl, rfl, rfl, Nat.le_refl _, fun _ _ => rfl⟩, fun i x _ _ hs => (by rw [getD_replicate_false] at hs; cases hs), fun i j x y _ _ _ _ hs => (by rw [getD_replicate_false] at hs; cases hs)⟩ H
 rw [htl, show n + (l.toArray.size - n) = l.toArray.size by omega] at this
 have e0 : ∀ k, puts (alOf L) a (Array.replicate l.toArray.size false) (fun _ => 0) k = a := fun k => by
  induction k with
  | zero => rfl
  | succ k ih =>
    unfold puts
    split
    ·rw [getD_replicate_false, if_neg (by simp)]; exact ih
    ·exact ih
 rw [e0] at this; exact this
end Go.Proofs.YtmafmebcgmegeaaGreatDoor
