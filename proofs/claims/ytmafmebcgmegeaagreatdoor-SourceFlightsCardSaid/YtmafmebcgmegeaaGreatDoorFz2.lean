/- Texts B1 B2 B3 B4 C1 C2 C3 C4 C5 D1 D2 D3 D4 E1 E2 E3 E4 F1 G0 H1 P0 I0 Ib1 of the proof. -/
import Derived.BigRegion
import Derived.RegionTactic
import Derived.Test.YtmafmebcgmegeaaGreatDoorFz1
import Derived.Laws.EntriesVeiled
import Derived.Deep.RegionHeld3
import Derived.Laws.CopyOwn
import Derived.ChangeKeysEq
import Derived.Laws.Rows
import Derived.Laws.Tables
import Derived.Deep.DeepCutAuto
import Derived.Lib.QuietBelow
import Derived.StillTail
import Derived.Test.YtmafmebcgmegeaaGreatDoorRows
namespace Go.Proofs.YtmafmebcgmegeaaGreatDoor
open Go.RowKit
theorem infoInt : (Tryz.prog.info? 3).map (fun i => (i.zero, i.size, i.bytes)) = some (some (.int .i64 0), 1, 8) := by kernel_rfl
def OwnI (w : World) (base : Nat) (v : Value) (zs : List Int) : Prop := w.ownsRow base 3 1 v zs.length (zs.map (Value.int .i64))
theorem OwnI.alloc {w : World} {base : Nat} {v : Value} {zs : List Int} (h : OwnI w base v zs) (o : Obj) : OwnI (w.alloc o) base v zs := World.ownsRow.alloc h o
theorem OwnI.form {w : World} {base : Nat} {v : Value} {zs : List Int} (h : OwnI w base v zs) :
    (v = .slice none 0 0 ∧ zs = []) ∨ ∃ g cap, v = .slice (some ⟨g, 0, none⟩) zs.length cap ∧ base ≤ g ∧ g < w.heap.size ∧ zs.length ≤ cap ∧
      (∀ i, i < zs.length → w.cell? ⟨g, i, none⟩ = some (.int .i64 (zs.getD i 0))) ∧ (∀ i, w.frozen? ⟨g, i, none⟩ = false) := by
  have h0 := h; rcases h.2 with ⟨hv, hn⟩ | ⟨g, cap, cur, hv, hb, hg, hnc, hm, hs, ht⟩
  · exact .inl ⟨hv, List.eq_nil_of_length_eq_zero hn⟩
  · subst hv; refine .inr ⟨g, cap, rfl, hb, lt_of_block hg, hnc, fun i hi => ?_, fun i => World.ownsRow.frozenAt h0 i⟩; rw [World.ownsRow.cellAt h0 i (by omega)]
    simp [List.getElem?_eq_getElem hi]
theorem OwnI.at_ {w : World} {base : Nat} {A : Option Addr} {n c : Nat} {zs : List Int} (h : OwnI w base (.slice A n c) zs) : IntsAt w A n zs := by
  rcases h.form with ⟨hv, rfl⟩ | ⟨g, cap, hv, _, _, _, hc, _⟩
  · simp only [Value.slice.injEq] at hv; obtain ⟨rfl, rfl, rfl⟩ := hv; exact ⟨rfl, fun h => by omega⟩
  · simp only [Value.slice.injEq] at hv; obtain ⟨rfl, rfl, rfl⟩ := hv; exact ⟨rfl, fun _ => ⟨g, 0, rfl, fun i hi => by rw [Nat.zero_add]; exact hc i hi⟩⟩
theorem OwnI.mono {w : World} {base base' : Nat} {v : Value} {zs : List Int} (h : OwnI w base v zs) (hb : base' ≤ base) : OwnI w base' v zs := by
  rcases h with ⟨h1, h2 | ⟨g, cap, cur, hv, hg, r⟩⟩
  · exact ⟨h1, .inl h2⟩
  · exact ⟨h1, .inr ⟨g, cap, cur, hv, Nat.le_trans hb hg, r⟩⟩
theorem OwnI.below {w w' : World} {base : Nat} {v : Value} {zs : List Int} (h : OwnI w base v zs) (hb : Below w.heap.size w w') : OwnI w' base v zs := by
  refine World.ownsRow.kept h (row := none) ⟨hb.os, hb.tape, hb.output, hb.size, fun k hk _ => hb.block k hk⟩ ?_; rcases h.form with ⟨rfl, _⟩ | ⟨g, cap, rfl, _⟩
  · exact .inl rfl
  · exact .inr (by simp [Value.ownBlock])
theorem IntsAt.keep {w w' : World} {A : Option Addr} {n : Nat} {zs : List Int} (h : IntsAt w A n zs) (hb : Below w.heap.size w w') : IntsAt w' A n zs := by
  refine ⟨h.1, fun hn => ?_⟩; obtain ⟨b, off, rfl, hc⟩ := h.2 hn
  exact ⟨b, off, rfl, fun i hi => by
    have h1 := hc i hi; rw [hb.cell (p := ⟨b, off + i, none⟩) (World.block_lt_of_cell? _ _ h1)]; exact h1⟩
/-! The permutation. -/
end Go.Proofs.YtmafmebcgmegeaaGreatDoor

namespace Go.Proofs.YtmafmebcgmegeaaGreatDoor
open Go.RowKit
theorem made_zero (n : Nat) : (madeCells (Value.int .i64 0).cells (n * 1)).toList = (List.replicate n (0 : Int)).map (Value.int .i64) := by
  simp [madeCells, Value.cells, Nat.mod_one]
  apply List.ext_getElem
  · simp
  · intro i h1 h2; simp
end Go.Proofs.YtmafmebcgmegeaaGreatDoor

namespace Go.Proofs.YtmafmebcgmegeaaGreatDoor
open Go.RowKit
/-! The reference. -/
def Blk (w : World) (g : Nat) (t : TypeId) (cs : Array Value) : Prop := w.heap[g]? = some (.cells cs t (0, 0))
theorem Blk.new (w : World) (t : TypeId) (cs : Array Value) : Blk (w.alloc (.cells cs t)) w.heap.size t cs := heap_alloc_new w _
theorem Blk.alloc {w : World} {g : Nat} {t : TypeId} {cs : Array Value} (h : Blk w g t cs) (o : Obj) : Blk (w.alloc o) g t cs := (Below.heap_alloc w o g (lt_of_block h)).trans h
theorem Blk.drew {w : World} {g : Nat} {t : TypeId} {cs : Array Value} (h : Blk w g t cs) : Blk w.drew g t cs := h
theorem Blk.drewN {w : World} {g : Nat} {t : TypeId} {cs : Array Value} (h : Blk w g t cs) (n : Nat) : Blk (w.drewN n) g t cs := h
theorem Blk.below {w w' : World} {g : Nat} {t : TypeId} {cs : Array Value} (h : Blk w g t cs) (hb : Below w.heap.size w w') : Blk w' g t cs := (hb.block g (lt_of_block h)).trans h
theorem Blk.cell {w : World} {g : Nat} {t : TypeId} {cs : Array Value} (h : Blk w g t cs) (i : Nat) : w.cell? ⟨g, i, none⟩ = cs[i]? := cell_of_row w g i cs t (0, 0) h
theorem Blk.frozen {w : World} {g : Nat} {t : TypeId} {cs : Array Value} (h : Blk w g t cs) (i : Nat) : w.frozen? ⟨g, i, none⟩ = false := by
  unfold Blk at h
  simp [World.frozen?, h]
theorem Blk.set_ {w : World} {g : Nat} {t : TypeId} {cs : Array Value} (h : Blk w g t cs) (i : Nat) (u : Value) : Blk (w.setCell ⟨g, i, none⟩ u) g t (cs.setIfInBounds i u) := by
  unfold Blk at h ⊢
  simp [World.setCell, Array.getElem?_modify, h]
theorem Blk.far {w : World} {g : Nat} {t : TypeId} {cs : Array Value} (h : Blk w g t cs) {p : Addr} (hp : g ≠ p.block) (u : Value) : Blk (w.setCell p u) g t cs := (Below.heap_setCell w p u g hp).trans h
end Go.Proofs.YtmafmebcgmegeaaGreatDoor

namespace Go.Proofs.YtmafmebcgmegeaaGreatDoor
open Go.RowKit
def sumL : List Int → Int
  | [] => 0
  | x :: l => x + sumL l
theorem sumL_append (a b : List Int) : sumL (a ++ b) = sumL a + sumL b := by
  induction a with
  | nil => simp [sumL]
  | cons x l ih => simp only [List.cons_append, sumL, ih]; omega
theorem take_snocI (zs : List Int) (k : Nat) (h : k < zs.length) : zs.take (k + 1) = zs.take k ++ [zs.getD k 0] := by
  rw [List.take_succ_eq_append_getElem h]; simp [List.getD_eq_getElem?_getD, List.getElem?_eq_getElem h]
theorem sumL_succ (zs : List Int) (k : Nat) (h : k < zs.length) : sumL (zs.take (k + 1)) = sumL (zs.take k) + zs.getD k 0 := by
  rw [take_snocI zs k h, sumL_append]; simp [sumL]
theorem sumL_bd (zs : List Int) (h : ∀ i, i < zs.length → 0 ≤ zs.getD i 0 ∧ zs.getD i 0 ≤ 100000000000000) (k : Nat) (hk : k ≤ zs.length) :
    0 ≤ sumL (zs.take k) ∧ sumL (zs.take k) ≤ 100000000000000 * (k : Int) := by
  induction k with
  | zero => simp [sumL]
  | succ k ih =>
    rw [sumL_succ zs k (by omega)]; have := ih (by omega); have := h k (by omega)
    omega
theorem sumL_mono (zs : List Int) (h : ∀ i, i < zs.length → 0 ≤ zs.getD i 0) (k : Nat) (hk : k ≤ zs.length) : sumL (zs.take k) ≤ sumL zs := by
  have h2 : sumL zs = sumL (zs.take k) + sumL (zs.drop k) := by rw [← sumL_append, List.take_append_drop]
  have h3 : ∀ l : List Int, (∀ x ∈ l, 0 ≤ x) → 0 ≤ sumL l := by
    intro l hl
    induction l with
    | nil => simp [sumL]
    | cons x l ih => simp only [sumL]; have := hl x (by simp); have := ih (fun y hy => hl y (by simp [hy])); omega
  have := h3 (zs.drop k) (fun x hx => by
    obtain ⟨i, hi, rfl⟩ := List.getElem_of_mem hx; simp only [List.length_drop] at hi; have := h (k + i) (by omega); rw [List.getElem_drop]
    simpa [List.getD_eq_getElem?_getD, List.getElem?_eq_getElem (show k + i < zs.length from by omega)] using this)
  omega
theorem firstE_zero {l : List Int} (h : firstE l = 0) : ∀ x ∈ l, x = 0 := by
  induction l with
  | nil => simp
  | cons y l ih =>
    unfold firstE at h
    by_cases hy : y = 0
    · rw [if_pos hy] at h; intro x hx; rcases List.mem_cons.1 hx with rfl | hx
      · exact hy
      · exact ih h x hx
    · rw [if_neg hy] at h; exact absurd h hy
theorem firstInE_zero {f : Int → Int} {zs : List Int} (h : firstInE f zs = 0) (i : Nat) (hi : i < zs.length) : f (zs.getD i 0) = 0 := by
  refine firstE_zero h _ ?_; rw [List.getD_eq_getElem?_getD, List.getElem?_eq_getElem hi]; exact List.mem_map.2 ⟨_, List.getElem_mem hi, rfl⟩
theorem firstE_ne (a b : Int) : firstE [a, b] = if a = 0 then b else a := by
  unfold firstE; split
  · unfold firstE; split
    · simp [firstE]; omega
    · rfl
  · rfl
end Go.Proofs.YtmafmebcgmegeaaGreatDoor

namespace Go.Proofs.YtmafmebcgmegeaaGreatDoor
open Go.RowKit
theorem Blk.setRow {w : World} {g : Nat} {t : TypeId} {cs : Array Value} (h : Blk w g t cs) (new : Array Value) : Blk (w.setRow g new) g t new := setRow_heap w g cs new t (0, 0) h
theorem Blk.setRow_far {w : World} {g k : Nat} {t : TypeId} {cs : Array Value} (h : Blk w g t cs) (hne : g ≠ k) (new : Array Value) : Blk (w.setRow k new) g t cs := (setRow_other w k g new hne).trans h
theorem _root_.Go.RowKit.Below.setRow' {B g : Nat} {w0 w : World} (hb : Below B w0 w) (hBg : B ≤ g) (cs : Array Value) : Below B w0 (w.setRow g cs) := below_setRow hb hBg cs
theorem Blk.setCells {g : Nat} {t : TypeId} : ∀ (vs : List Value) (o : Nat) {w : World} {cs : Array Value}, Blk w g t cs → ∃ cs' : Array Value, Blk (w.setCells g o vs) g t cs' ∧ cs'.size = cs.size ∧ (∀ i, i < o → cs'[i]? = cs[i]?) ∧ (∀ i, o + vs.length ≤ i → cs'[i]? = cs[i]?) ∧ (∀ j, j < vs.length → o + j < cs.size → cs'[o + j]? = vs[j]?)
  | [], _, _, cs, h => ⟨cs, h, rfl, fun _ _ => rfl, fun _ _ => rfl, fun j hj => absurd hj (by simp)⟩
  | v :: r, o, w, cs, h => by
    obtain ⟨cs', hb, hs, h1, h2, h3⟩ := Blk.setCells r (o + 1) (h.set_ o v); refine ⟨cs', hb, by simpa using hs, fun i hi => ?_, fun i hi => ?_, fun j hj hjc => ?_⟩
    · rw [h1 i (by omega), Array.getElem?_setIfInBounds_ne (by omega)]
    · simp only [List.length_cons] at hi; rw [h2 i (by omega), Array.getElem?_setIfInBounds_ne (by omega)]
    · cases j with
      | zero =>
        rw [Nat.add_zero, h1 o (by omega), Array.getElem?_setIfInBounds]
        simp at hjc
        simp [hjc]
      | succ j =>
        simp only [List.length_cons] at hj; have := h3 j (by omega) (by simp; omega); rw [show o + (j + 1) = o + 1 + j by omega, this]
        simp
theorem _root_.Go.RowKit.Below.setCells' {B g : Nat} {w0 : World} (hg : B ≤ g) : ∀ (vs : List Value) (o : Nat) {w : World}, Below B w0 w → Below B w0 (w.setCells g o vs)
  | [], _, _, h => h
  | v :: r, o, _, h => Go.RowKit.Below.setCells' hg r (o + 1) (h.setCell (p := ⟨g, o, none⟩) hg v)
end Go.Proofs.YtmafmebcgmegeaaGreatDoor

namespace Go.Proofs.YtmafmebcgmegeaaGreatDoor
open Go.RowKit
theorem Blk.at_size {w : World} {g : Nat} (t : TypeId) (cs : Array Value) (h : g = w.heap.size) : Blk (w.alloc (.cells cs t)) g t cs := by
  subst h; exact Blk.new w t cs
end Go.Proofs.YtmafmebcgmegeaaGreatDoor

namespace Go.Proofs.YtmafmebcgmegeaaGreatDoor
open Go.RowKit Go.Sort
section
variable {P : Program} {ops : Array Oper} {md : Region.Mode} {C : World → Prop}
def anyHead (P : Program) (md : Region.Mode) (ops : Array Oper) (C : World → Prop) (n : Nat) (L : Array Bool → Act → Prop) : Nat → Array Bool → Act → Prop
  | 0, seen, a => L seen a
  | f + 1, seen, a => Region.ready md ops seen ≠ [] ∧ ∀ i, i ∈ Region.ready md ops seen → i < n ∧ qOp P ops C i (anyHead P md ops C n L f (seen.setIfInBounds i true)) a
theorem any_of_anyHead {n g : Nat} {L : Array Bool → Act → Prop} {Q' : Exit → Act → World → Prop} (hL : ∀ seen a w, C w → L seen a → wpAny P md ops Q' g seen a w) (f : Nat) :
    ∀ (seen : Array Bool) (a : Act) (w : World), C w → anyHead P md ops C n L f seen a → wpAny P md ops Q' (f + g) seen a w := by
  induction f with
  | zero => intro seen a w hw h; rw [Nat.zero_add]; exact hL _ _ _ hw h
  | succ f ih =>
    intro seen a w hw h; rw [show f + 1 + g = (f + g) + 1 by omega]; exact ⟨fun h0 => absurd h0 h.1, fun i hi => wpOp_of_qOp hw (fun a' w' hw' h' => ih _ a' w' hw' h') (h.2 i hi).2⟩
theorem anyHead_first {n i : Nat} {oi : Oper} {v : Value} {L : Array Bool → Act → Prop} (hi : ops[i]? = some oi) (hsel : ∀ (j : Nat) (o : Oper) cs b, ops[j]? = some o → o.op ≠ .select cs b)
    (hs : Region.sinkB md ops n = true) (hc : Region.chainB md ops n = true) (hn : n < ops.size) (hin : i < n)
    (hdone : ∀ seen a, L seen a → ∀ j ∈ Region.ready md ops seen, n ≤ j) (f : Nat) :
    ∀ (seen : Array Bool) (a : Act), HeadInv md ops n seen →
      (∀ j oj, ops[j]? = some oj → j ≠ i → seen.getD j true = false → (∀ e ∈ oj.after, Region.binds md e = true → e.on ≠ i) → oi.apart ops oj = true) →
      i ∈ Region.ready md ops seen → YieldsIn P ops C oi v a →
      anyHead P md ops C n L f (seen.setIfInBounds i true) (a.put oi.dst v) → anyHead P md ops C n L (f + 1) seen a := by
  have early : ∀ (seen : Array Bool), HeadInv md ops n seen → seen.getD i true = false → ∀ j ∈ Region.ready md ops seen, j < n := fun seen inv hun j hj =>
    (Nat.lt_or_ge j n).elim id fun h => absurd hj (tail_waits hs hc hn inv _ i rfl hin hun j h)
  induction f with
  | zero =>
    intro seen a inv _ hr hy H; refine ⟨(fun h => by rw [h] at hr; cases hr), fun j hj => ⟨early seen inv (mem_ready.1 hr).1 j hj, ?_⟩⟩
    by_cases hji : j = i
    · rw [hji]; exact hy.qOp hi H
    · have h1 := hdone _ _ H j (ready_mono hj hji); have h2 := early seen inv (mem_ready.1 hr).1 j hj
      omega
  | succ f ih =>
    intro seen a inv hfree hr hy H; have hun := (mem_ready.1 hr).1; refine ⟨(fun h => by rw [h] at hr; cases hr), fun j hj => ⟨early seen inv hun j hj, ?_⟩⟩; have hjn := early seen inv hun j hj
    by_cases hji : j = i
    · rw [hji]; exact hy.qOp hi H
    · obtain ⟨hjun, oj, hoj, hall⟩ := mem_ready.1 hj
      have hnot : ∀ e ∈ oj.after, Region.binds md e = true → e.on ≠ i := fun e he hb heq => by
        have h1 := hall e he hb; rw [heq, getD_both hun] at h1
        cases h1
      have h2 := qOp_put hoj (hfree j oj hoj hji hjun hnot) (fun cs b => hsel i oi cs b hi) (fun cs b => hsel j oj cs b hoj) hy (H.2 j (ready_mono hj hji)).2; refine qOp_mono (fun a' h3 => ih (seen.setIfInBounds j true) a' (inv.set hj hjn) (fun k ok hk hki hku hno => ?_) (ready_mono hr (Ne.symm hji)) h3.1 ?_) h2
      · refine hfree k ok hk hki ?_ hno
        by_cases hjk : j = k
        · rw [← hjk]; exact hjun
        · rw [getD_set_ne true hjk] at hku; exact hku
      · rw [Array.setIfInBounds_comm _ _ hji]; exact h3.2
theorem anyHead_lex {n g : Nat} {Lq : Act → Prop} (hsel : Region.noSelect ops = true) (hs : Region.sinkB md ops n = true) (hc : Region.chainB md ops n = true) (hn : n < ops.size) (l : List Oper) :
    ∀ (k : Nat) (seen : Array Bool) (a : Act), (∀ j, j < l.length → l[j]? = ops[k + j]?) → k + l.length = n → HeadInv md ops n seen →
    Region.lexHead md ops g l.length k seen = true → wpQuiet P ops C Lq l a →
    anyHead P md ops C n (fun seen' a' => Region.seqB md ops g n seen' = true ∧ Lq a') l.length seen a := by
  induction l with
  | nil =>
    intro k seen a _ hk _ hB h; obtain rfl : k = n := by simpa using hk
    exact ⟨by simpa [Region.lexHead] using hB, h⟩
  | cons o l ih =>
    intro k seen a hl hk inv hB h; have h0 : ops[k]? = some o := by simpa using (hl 0 (by simp)).symm
    simp only [List.length_cons, Region.lexHead, Bool.and_eq_true] at hB; have hkn : k < n := by simp only [List.length_cons] at hk; omega
    have hr : k ∈ Region.ready md ops seen := by simpa using hB.1.1
    obtain ⟨v, hy, hK⟩ := yieldsIn_of_qOp (C := C) (K := wpQuiet P ops C Lq l) h0 (by unfold qOp; simp only [h0]; exact h)
    exact anyHead_first h0 (Region.noSelect_spec hsel) hs hc hn hkn (fun seen' a' hL => seqB_ready hL.1) l.length seen a inv (Region.free_spec h0 hB.1.2) hr hy
      (ih (k + 1) _ _ (fun j hj => by have := hl (j + 1) (by simp; omega); simpa [Nat.add_assoc, Nat.add_comm 1 j] using this) (by simp only [List.length_cons] at hk; omega) (inv.set hr hkn) hB.2 hK)
theorem wp_region_quiet_tail {id : Nat} {Q : Exit → Act → World → Prop} {a : Act} {w : World} {l : List Oper} (n : Nat) (hm : P.follows .mixedOrders = true) (hB : Region.lexTailB .any l.toArray n = true) (hC : C { w with drawn := w.drawn + 1 })
    (h : wpQuiet P l.toArray C (fun a' => ∀ w', C w' → wpList P l.toArray Q (l.drop n) a' w') (l.take n) a) : (Code.region id l.toArray true).wp P Q a w := by
  simp only [Region.lexTailB, Bool.and_eq_true, decide_eq_true_eq] at hB; obtain ⟨⟨⟨⟨hsel, hn⟩, hs⟩, hc⟩, hlex⟩ := hB; have hn' : n < l.length := by simpa using hn
  have htl : (l.take n).length = n := by simp; omega
  have hdl : (l.drop n).length = l.toArray.size - n := by simp
  have H := anyHead_lex (P := P) (C := C) (md := .any) (g := l.toArray.size - n) hsel hs hc hn (l.take n) 0 (Array.replicate l.toArray.size false) a
    (fun j hj => by have hj' : j < n := by rw [htl] at hj; exact hj
                    simp [hj']) (by simpa using htl)
    ⟨by simp, fun j oj _ hl => (by rw [getD_replicate_false] at hl; cases hl), fun t _ ht => getD_in (by simpa using ht) (getD_replicate_false _ _)⟩ (by rw [htl]; exact hlex) h
  refine wp_region_any hm ?_
  have := any_of_anyHead (Q' := Q) (g := l.toArray.size - n) (fun seen a' w' hw' hL => by
    have := wpAny_of_seq (md := .any) (Q' := Q) (l.drop n) n seen a' w' (fun j => by simp [List.getElem?_drop]) (by rw [hdl]; exact hL.1) (hL.2 w' hw')
    rwa [hdl] at this) _ _ _ _ hC H
  rw [htl, show n + (l.toArray.size - n) = l.toArray.size by omega] at this; exact this
end
theorem wp_region_below_tail {P : Program} {id : Nat} {Q : Exit → Act → World → Prop} {a : Act} {w : World} {l : List Oper} (n : Nat) (hm : P.follows .mixedOrders = true) (hB : Region.lexTailB .any l.toArray n = true)
    (h : wpQuiet P l.toArray (fun w' => ∃ p : Regrown, w' = grow (redrawn w p.d) p.os) (fun a' => ∀ w', (∃ p : Regrown, w' = grow (redrawn w p.d) p.os) → wpList P l.toArray Q (l.drop n) a' w') (l.take n) a) : (Code.region id l.toArray true).wp P Q a w :=
  wp_region_quiet_tail (C := fun w' => ∃ p : Regrown, w' = grow (redrawn w p.d) p.os) n hm hB ⟨⟨w.drawn + 1, #[]⟩, by rw [grow_empty]; rfl⟩ h
theorem quiet_load {P : Program} {ops : Array Oper} {rest : List Oper} {o : Oper} {a : Act} {Q : Act → Prop} {w0 : World} (ty : TypeId) (x : Operand) (ho : o.op = .load ty x) (hw : Region.wanted o (yielded ops a.tmps) = true) (p : Addr) (v : Value)
    (hx : a.eval x = .pointer (some p)) (hl : ∀ d os, (loadVar ty p).run P (grow (redrawn w0 d) os) = .ok v (grow (redrawn w0 d) os))
    (hk : wpQuiet P ops (fun w' => ∃ p : Regrown, w' = grow (redrawn w0 p.d) p.os) Q rest (a.put o.dst v)) : wpQuiet P ops (fun w' => ∃ p : Regrown, w' = grow (redrawn w0 p.d) p.os) Q (o :: rest) a := by
  refine wpQuiet_step (fun K hK => ?_); rw [if_pos hw]; refine ⟨v, fun w hC => ?_, hK _ hk⟩; obtain ⟨p', rfl⟩ := hC; unfold Oper.quietAt
  have e : (execOp a.eval o).run P (grow (redrawn w0 p'.d) p'.os) = .ok (.value v) (grow (redrawn w0 p'.d) p'.os) := by
    unfold execOp; simp only [ho, hx, Instr.loadAt, Instr.sureAddr, Sem.run_bind, Sem.run_pure, Result.andThen_ok, hl]
  rw [e]; exact ⟨rfl, rfl⟩
theorem Blk.lv {W : World} {g : Nat} {t : TypeId} {cs : Array Value} (h : Blk W g t cs) (P : Program) {T : TypeId} {d : TypeDesc} (hu : P.underlying T = some d) (hd : (match d with | .struct _ | .array _ _ => true | _ => false) = true) (hi : (P.info? T).map (·.size) = some cs.size) :
    (loadVar T ⟨g, 0, none⟩).run P W = .ok (.agg cs) W := run_loadVar_row W g t T cs (0, 0) d h hu hd hi
end Go.Proofs.YtmafmebcgmegeaaGreatDoor

set_option autoImplicit false
set_option relaxedAutoImplicit false
namespace Go.Proofs.Bell
/-! The plain mathematics of what is heard from a track (chapter 2): numbers between two others, emissions of settings, boxes, sums over ticks, and enclosures. No program is looked at. -/
def betw (a b p w : Int) : Int := a + (b - a) * p / w
theorem floor_is {n d : Int} (h : 0 < d) : (if n.tmod d < 0 then n.tdiv d - 1 else n.tdiv d) = n / d := by
  have h1 := Int.tmod_add_mul_tdiv n d; have h2 := Int.tmod_lt_of_pos n h; have h3 := Int.lt_tmod_of_pos n h
  split
  · rename_i hn
    symm
    rw [Int.ediv_eq_iff_of_pos h]
    constructor <;> grind
  · rename_i hn
    symm
    rw [Int.ediv_eq_iff_of_pos h]
    constructor <;> grind
theorem betw_eq {a b p w : Int} (h : 0 < w) : betw a b p w = (a * w + (b - a) * p) / w := by
  unfold betw; rw [Int.add_comm (a * w), Int.add_mul_ediv_right _ _ (by omega)]
  omega
theorem betw_mono {a b a' b' p w : Int} (h : 0 < w) (hp : 0 ≤ p) (hq : p ≤ w) (ha : a ≤ a') (hb : b ≤ b') : betw a b p w ≤ betw a' b' p w := by
  rw [betw_eq h, betw_eq h]
  apply Int.ediv_le_ediv h
  have h1 : 0 ≤ (a' - a) * (w - p) := Int.mul_nonneg (by omega) (by omega); have h2 : 0 ≤ (b' - b) * p := Int.mul_nonneg (by omega) (by omega)
  grind
theorem betw_same {a p w : Int} : betw a a p w = a := by
  unfold betw; simp
theorem betw_bounds {a b p w lo hi : Int} (h : 0 < w) (hp : 0 ≤ p) (hq : p ≤ w) (ha : lo ≤ a) (hb : lo ≤ b) (ha' : a ≤ hi) (hb' : b ≤ hi) : lo ≤ betw a b p w ∧ betw a b p w ≤ hi := by
  constructor
  · have := betw_mono h hp hq ha hb; rwa [betw_same] at this
  · have := betw_mono h hp hq ha' hb'; rwa [betw_same] at this
/-! ### Emissions -/
abbrev Sets := List (Int × List Int)
def ePow (s : Sets) (k : Nat) : Int := (s.getD k (0, [])).1
def eAt (s : Sets) (k r : Nat) : Int := ((s.getD k (0, [])).2).getD r 0
def nextOf (s : Sets) (power : Int) : Nat := s.findIdx (fun x => decide (power ≤ x.1))
def reachOf (l : List Int) (sq : Int) : Nat := l.findIdx (fun x => decide (sq < x)) - 1
def emis (s : Sets) (r : Nat) (power : Int) : Int :=
  if nextOf s power = s.length then eAt s (s.length - 1) r
  else if nextOf s power = 0 then eAt s 0 r
  else betw (eAt s (nextOf s power - 1) r) (eAt s (nextOf s power) r) (power - ePow s (nextOf s power - 1)) (ePow s (nextOf s power) - ePow s (nextOf s power - 1))
structure GoodSets (s : Sets) (m : Nat) : Prop where
  some : 0 < s.length
  up : ∀ i j, i < j → j < s.length → ePow s i < ePow s j
  ord : ∀ i j r, i ≤ j → j < s.length → r < m → eAt s i r ≤ eAt s j r
  down : ∀ i r r', i < s.length → r ≤ r' → r' < m → eAt s i r' ≤ eAt s i r
  lo : ∀ i r, i < s.length → r < m → 0 ≤ eAt s i r
  hi : ∀ i r, i < s.length → r < m → eAt s i r ≤ 100000000
theorem next_le (s : Sets) (p : Int) : nextOf s p ≤ s.length := List.findIdx_le_length
theorem next_at {s : Sets} {p : Int} (h : nextOf s p < s.length) : p ≤ ePow s (nextOf s p) := by
  have := List.findIdx_getElem (p := fun x : Int × List Int => decide (p ≤ x.1)) (xs := s) (w := h); unfold ePow; rw [List.getD_eq_getElem?_getD, List.getElem?_eq_getElem h]; exact of_decide_eq_true this
theorem next_before {s : Sets} {p : Int} {i : Nat} (h : i < nextOf s p) : ePow s i < p := by
  have hl : i < s.length := Nat.lt_of_lt_of_le h (next_le s p); have := List.not_of_lt_findIdx (p := fun x : Int × List Int => decide (p ≤ x.1)) (xs := s) h; unfold ePow; rw [List.getD_eq_getElem?_getD, List.getElem?_eq_getElem hl]
  simpa using this
theorem reach_lt {l : List Int} {q : Int} (h : 0 < l.length) : reachOf l q < l.length := by
  unfold reachOf; have := List.findIdx_le_length (xs := l) (p := fun x => decide (q < x))
  omega
variable {s : Sets} {m : Nat}
theorem emis_bounds (g : GoodSets s m) {r : Nat} (p : Int) {lo hi : Int} (hlo : ∀ i, i < s.length → lo ≤ eAt s i r) (hhi : ∀ i, i < s.length → eAt s i r ≤ hi) : lo ≤ emis s r p ∧ emis s r p ≤ hi := by
  have hn := next_le s p; have h0 := g.some; unfold emis
  split
  · exact ⟨hlo _ (by omega), hhi _ (by omega)⟩
  · split
    · exact ⟨hlo _ (by omega), hhi _ (by omega)⟩
    · rename_i h1 h2
      have h3 : nextOf s p < s.length := by omega
      have h4 := next_at h3; have h5 := next_before (s := s) (p := p) (i := nextOf s p - 1) (by omega); exact betw_bounds (by omega) (by omega) (by omega) (hlo _ (by omega)) (hlo _ h3) (hhi _ (by omega)) (hhi _ h3)
theorem emis_range (g : GoodSets s m) {r : Nat} (hr : r < m) (p : Int) : 0 ≤ emis s r p ∧ emis s r p ≤ 100000000 :=
  emis_bounds g p (fun i h => g.lo i r h hr) (fun i h => g.hi i r h hr)
/-! ### Boxes -/
def nearOf (lo hi : Int) : Int := max (max lo (-hi)) 0
def farOf (lo hi : Int) : Int := max (-lo) hi
/-! ### Sums over ticks -/
def sumF (f : Int → Int) (a : Int) : Nat → Int
  | 0 => 0
  | n + 1 => sumF f a n + f (a + n)
theorem sumF_list (f : Int → Int) (a : Int) (n : Nat) : ((List.range n).map (fun i : Nat => f (a + i))).sum = sumF f a n := by
  induction n with
  | zero => rfl
  | succ n ih => rw [List.range_succ, List.map_append, List.sum_append, ih]; simp [sumF]
/-! ### Tracks and states -/
structure Fx where
  t : Int
  x : Int
  y : Int
  z : Int
  p : Int
structure St where
  x : Int
  y : Int
  z : Int
  hx : Int
  hy : Int
  p : Int
def fxAt (l : List Fx) (i : Nat) : Fx := l.getD i ⟨0, 0, 0, 0, 0⟩
def segIx (l : List Fx) (k : Int) : Nat := l.findIdx (fun p => decide (k < p.t)) - 1
def stOf (a b : Fx) (k : Int) : St :=
  ⟨betw a.x b.x (k - a.t) (b.t - a.t), betw a.y b.y (k - a.t) (b.t - a.t), betw a.z b.z (k - a.t) (b.t - a.t), b.x - a.x, b.y - a.y, betw a.p b.p (k - a.t) (b.t - a.t)⟩
def stAt (l : List Fx) (k : Int) : St := stOf (fxAt l (segIx l k)) (fxAt l (segIx l k + 1)) k
structure GoodFx (a : Fx) : Prop where
  t0 : 0 ≤ a.t
  t1 : a.t ≤ 100000000
  x0 : -100000 ≤ a.x
  x1 : a.x ≤ 100000
  y0 : -100000 ≤ a.y
  y1 : a.y ≤ 100000
  z0 : 0 ≤ a.z
  z1 : a.z ≤ 20000
  p0 : 1 ≤ a.p
  p1 : a.p ≤ 100
def Ticks (l : List Fx) : Prop := ∀ i j, i < j → j < l.length → (fxAt l i).t < (fxAt l j).t
theorem part_ok {a b : Fx} {k : Int} (h1 : a.t ≤ k) (h2 : k < b.t) : 0 < b.t - a.t ∧ 0 ≤ k - a.t ∧ k - a.t ≤ b.t - a.t := by omega
/-! ### What is heard -/
structure Ty where
  direct : List Int
  side : Int
  squares : List Int
  sets : Sets
structure GoodTy (T : Ty) : Prop where
  dir : ∀ i, i < 8 → 0 ≤ T.direct.getD i 0 ∧ T.direct.getD i 0 ≤ 2000
  dlen : T.direct.length = 8
  side0 : 0 ≤ T.side
  side1 : T.side ≤ 1000
  sq : 0 < T.squares.length
  sets : GoodSets T.sets T.squares.length
def sectorOf (hx hy x y : Int) : Nat :=
  let u := hx * x + hy * y
  let v := hx * y - hy * x
  if (u > v ∧ v ≥ 0) ∨ (u = 0 ∧ v = 0) then 0
  else if v ≥ u ∧ u > 0 then 1
  else if v > -u ∧ -u ≥ 0 then 2
  else if -u ≥ v ∧ v > 0 then 3
  else if -u > -v ∧ -v ≥ 0 then 4
  else if -v ≥ -u ∧ -u > 0 then 5
  else if -v > u ∧ u ≥ 0 then 6
  else 7
theorem sector_lt (hx hy x y : Int) : sectorOf hx hy x y < 8 := by
  unfold sectorOf; simp only
  repeat' split
  all_goals omega
structure Pl where
  x : Int
  y : Int
  z : Int
def sqOf (x y z : Int) : Int := x * x + y * y + z * z
def energyOf (T : Ty) (s : St) (r : Pl) : Int :=
  emis T.sets (reachOf T.squares (sqOf (r.x - s.x) (r.y - s.y) (r.z - s.z))) s.p * T.direct.getD (sectorOf s.hx s.hy (r.x - s.x) (r.y - s.y)) 0
def steepOf (s : St) (r : Pl) : Prop := (r.x - s.x) * (r.x - s.x) + (r.y - s.y) * (r.y - s.y) ≤ 4 * (r.z - s.z) * (r.z - s.z)
instance (s : St) (r : Pl) : Decidable (steepOf s r) := inferInstanceAs (Decidable (_ ≤ _))
def heardOf (T : Ty) (s : St) (r : Pl) : Int :=
  if steepOf s r then energyOf T s r / 1000 else energyOf T s r * T.side / 1000000
variable {T : Ty}
theorem heard_between (g : GoodTy T) {s : St} {r : Pl} {E D F G : Int}
    (h1 : E ≤ emis T.sets (reachOf T.squares (sqOf (r.x - s.x) (r.y - s.y) (r.z - s.z))) s.p)
    (h2 : emis T.sets (reachOf T.squares (sqOf (r.x - s.x) (r.y - s.y) (r.z - s.z))) s.p ≤ F)
    (hE : 0 ≤ E) (hD : 0 ≤ D)
    (h3 : ∀ i, i < 8 → D ≤ T.direct.getD i 0) (h4 : ∀ i, i < 8 → T.direct.getD i 0 ≤ G) :
    E * D * T.side / 1000000 ≤ heardOf T s r ∧ heardOf T s r * 1000 ≤ F * G := by
  have k3 := h3 _ (sector_lt s.hx s.hy (r.x - s.x) (r.y - s.y)); have k4 := h4 _ (sector_lt s.hx s.hy (r.x - s.x) (r.y - s.y)); have hl : E * D ≤ energyOf T s r := Int.mul_le_mul h1 k3 hD (by omega); have hh : energyOf T s r ≤ F * G := Int.mul_le_mul h2 k4 (by omega) (by omega); have h0 : 0 ≤ E * D := Int.mul_nonneg hE hD; have s0 := g.side0; have s1 := g.side1; unfold heardOf
  split
  · constructor
    · have a1 : E * D * T.side ≤ energyOf T s r * 1000 := Int.mul_le_mul hl s1 s0 (by omega); have a2 := Int.ediv_le_ediv (c := 1000000) (by decide) a1
      omega
    · omega
  · constructor
    · exact Int.ediv_le_ediv (by decide) (Int.mul_le_mul_of_nonneg_right hl s0)
    · have a1 : energyOf T s r * T.side ≤ energyOf T s r * 1000 := Int.mul_le_mul_of_nonneg_left s1 (by omega)
      omega
theorem heard_range (g : GoodTy T) (s : St) (r : Pl) : 0 ≤ heardOf T s r ∧ heardOf T s r ≤ 200000000 := by
  have e := emis_range g.sets (reach_lt (q := sqOf (r.x - s.x) (r.y - s.y) (r.z - s.z)) g.sq) s.p; have := heard_between g (s := s) (r := r) (E := 0) (D := 0) (F := 100000000) (G := 2000) e.1 e.2 (by omega) (by omega) (fun i h => (g.dir i h).1) (fun i h => (g.dir i h).2)
  omega
/-! ### Enclosures -/
def dLow (l : List Int) : Int := l.foldl min (l.headD 0)
def dHigh (l : List Int) : Int := l.foldl max (l.headD 0)
theorem foldl_min_le (l : List Int) (a : Int) : l.foldl min a ≤ a ∧ ∀ x, x ∈ l → l.foldl min a ≤ x := by
  induction l generalizing a with
  | nil => simp
  | cons b l ih =>
    have := ih (min a b); refine ⟨by simp only [List.foldl_cons]; omega, ?_⟩; intro x hx; simp only [List.foldl_cons]; rcases List.mem_cons.1 hx with e | e
    · subst e; omega
    · exact this.2 x e
theorem le_foldl_max (l : List Int) (a : Int) : a ≤ l.foldl max a ∧ ∀ x, x ∈ l → x ≤ l.foldl max a := by
  induction l generalizing a with
  | nil => simp
  | cons b l ih =>
    have := ih (max a b); refine ⟨by simp only [List.foldl_cons]; omega, ?_⟩; intro x hx; simp only [List.foldl_cons]; rcases List.mem_cons.1 hx with e | e
    · subst e; omega
    · exact this.2 x e
theorem foldl_min_ge {l : List Int} {a c : Int} (ha : c ≤ a) (h : ∀ x, x ∈ l → c ≤ x) : c ≤ l.foldl min a := by
  induction l generalizing a with
  | nil => exact ha
  | cons b l ih =>
    simp only [List.foldl_cons]; have := h b (by simp); exact ih (by omega) (fun x hx => h x (by simp [hx]))
theorem getD_mem {l : List Int} {i : Nat} (h : i < l.length) : l.getD i 0 ∈ l := by
  rw [List.getD_eq_getElem?_getD, List.getElem?_eq_getElem h]; simp
def sqNear (a b : Fx) (r : Pl) : Int :=
  nearOf (min (a.x - r.x) (b.x - r.x)) (max (a.x - r.x) (b.x - r.x)) * nearOf (min (a.x - r.x) (b.x - r.x)) (max (a.x - r.x) (b.x - r.x)) + nearOf (min (a.y - r.y) (b.y - r.y)) (max (a.y - r.y) (b.y - r.y)) * nearOf (min (a.y - r.y) (b.y - r.y)) (max (a.y - r.y) (b.y - r.y)) + nearOf (min (a.z - r.z) (b.z - r.z)) (max (a.z - r.z) (b.z - r.z)) * nearOf (min (a.z - r.z) (b.z - r.z)) (max (a.z - r.z) (b.z - r.z))
def sqFar (a b : Fx) (r : Pl) : Int :=
  farOf (min (a.x - r.x) (b.x - r.x)) (max (a.x - r.x) (b.x - r.x)) * farOf (min (a.x - r.x) (b.x - r.x)) (max (a.x - r.x) (b.x - r.x)) + farOf (min (a.y - r.y) (b.y - r.y)) (max (a.y - r.y) (b.y - r.y)) * farOf (min (a.y - r.y) (b.y - r.y)) (max (a.y - r.y) (b.y - r.y)) + farOf (min (a.z - r.z) (b.z - r.z)) (max (a.z - r.z) (b.z - r.z)) * farOf (min (a.z - r.z) (b.z - r.z)) (max (a.z - r.z) (b.z - r.z))
def leastOf (T : Ty) (a b : Fx) (r : Pl) : Int := emis T.sets (reachOf T.squares (sqFar a b r)) (min a.p b.p) * dLow T.direct * T.side / 1000000
def mostOf (T : Ty) (a b : Fx) (r : Pl) : Int := emis T.sets (reachOf T.squares (sqNear a b r)) (max a.p b.p) * dHigh T.direct
def lowOf (T : Ty) (a b : Fx) (r : Pl) : Int := (b.t - a.t) * leastOf T a b r
def highOf (T : Ty) (a b : Fx) (r : Pl) : Int := ((b.t - a.t) * mostOf T a b r + 1000 - 1) / 1000
def encLow (T : Ty) (l : List Fx) (r : Pl) : Nat → Int
  | 0 => 0
  | n + 1 => encLow T l r n + lowOf T (fxAt l n) (fxAt l (n + 1)) r
def encHigh (T : Ty) (l : List Fx) (r : Pl) : Nat → Int
  | 0 => 0
  | n + 1 => encHigh T l r n + highOf T (fxAt l n) (fxAt l (n + 1)) r
def heardAt (T : Ty) (l : List Fx) (r : Pl) (k : Int) : Int := heardOf T (stAt l k) r
/-! ### The maximum -/
def maxF (f : Int → Int) (a : Int) : Nat → Int × Int
  | 0 => (-1, 0)
  | n + 1 => if (maxF f a n).1 < f (a + n) then (f (a + n), a + n) else maxF f a n
theorem maxF_spec (f : Int → Int) (a : Int) (n : Nat) (h : ∀ i : Nat, i < n → 0 ≤ f (a + i)) :
    (∀ i : Nat, i < n → f (a + i) ≤ (maxF f a n).1) ∧ (0 < n → 0 ≤ (maxF f a n).1 ∧ ∃ i : Nat, i < n ∧ (maxF f a n).2 = a + i ∧ f (a + i) = (maxF f a n).1 ∧ ∀ j : Nat, j < i → f (a + j) < f (a + i)) := by
  induction n with
  | zero => exact ⟨fun i hi => by omega, fun hn => by omega⟩
  | succ n ih =>
    have ih := ih (fun i hi => h i (by omega)); have hn := h n (by omega); simp only [maxF]
    split
    · rename_i hlt
      refine ⟨?_, fun _ => ⟨hn, n, by omega, rfl, rfl, ?_⟩⟩
      · intro i hi; rcases Nat.lt_or_ge i n with hq | hq
        · have := ih.1 i hq; simp only; omega
        · have : i = n := by omega
          subst this; exact Int.le_refl _
      · intro j hj; have := ih.1 j hj; omega
    · rename_i hlt
      refine ⟨?_, ?_⟩
      · intro i hi; rcases Nat.lt_or_ge i n with hq | hq
        · exact ih.1 i hq
        · have : i = n := by omega
          subst this; omega
      · intro _; rcases Nat.eq_zero_or_pos n with e | e
        · subst e; simp [maxF] at hlt; simp at hn; omega
        · obtain ⟨k1, i, k2, k3, k4, k5⟩ := ih.2 e; exact ⟨k1, i, by omega, k3, k4, k5⟩
theorem sumF_nonneg {f : Int → Int} {a : Int} {n : Nat} (h : ∀ k, 0 ≤ f k) : 0 ≤ sumF f a n := by
  induction n with
  | zero => exact Int.le_refl _
  | succ n ih => simp only [sumF]; have := h (a + n); omega
theorem sumF_upto {f : Int → Int} {a c : Int} {n : Nat} (h : ∀ k, f k ≤ c) : sumF f a n ≤ n * c := by
  induction n with
  | zero => simp [sumF]
  | succ n ih =>
    simp only [sumF]; have := h (a + n); have e : ((n + 1 : Nat) : Int) * c = n * c + c := by rw [Int.natCast_succ]; grind
    omega
end Go.Proofs.Bell
