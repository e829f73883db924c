/- Rows of one loop beside each other: each append leaves the others; three rows and the elements laid for them. -/
import Derived.Test.YtoipafnlcchmbaaGreatDoorQB
import Derived.Maps.AppendAt
import Derived.OrdersHeld
import Derived.Below
namespace Go.Proofs.YtoipafnlcchmbaaGreatDoor
open Go.RowKit

/-- Two values have no row in common. -/
def Sep (a b : Value) : Prop := a.ownBlock = none ∨ a.ownBlock ≠ b.ownBlock
theorem Sep.symm {a b : Value} (h : Sep a b) : Sep b a := by
  unfold Sep at *
  cases hb : b.ownBlock with
  | none => exact Or.inl rfl
  | some k =>
    refine Or.inr fun e => ?_
    rcases h with h | h
    · rw [h] at e; cases e
    · exact h (by rw [hb, e])
theorem Sep.nil (a : Value) : Sep (.slice none 0 0) a := Or.inl rfl
theorem Sep.kept {w w1 : World} {a b : Value} {base size n : Nat} {e : TypeId} {xs : List Value} (h : Sep a b) (hb : w.ownsRow base e size b n xs) (hg : w.grownBy w1 a.ownBlock) : w1.ownsRow base e size b n xs := by
  refine hb.kept hg ?_
  rcases h.symm with h | h
  · exact Or.inl h
  · exact Or.inr h
theorem Sep.new {w : World} {a a' b : Value} {base size n : Nat} {e : TypeId} {xs : List Value} (h : Sep a b) (hb : w.ownsRow base e size b n xs) (hat : a'.ownBlock = a.ownBlock ∨ a'.ownBlock = some w.heap.size) : Sep a' b := by
  unfold Sep at *
  rcases hat with h1 | h1
  · rw [h1]; exact h
  · refine Or.inr fun e => ?_
    have := (hb.lt w.heap.size (e.symm.trans h1)).2
    omega
/-- A row that is where it was, or new, beside one that was there. -/
theorem Sep.moved {W : World} {a a' b : Value} {base size n : Nat} {e : TypeId} {xs : List Value} (h : Sep a b) (hb : W.ownsRow base e size b n xs) (hat : ∀ k, a'.ownBlock = some k → a.ownBlock = some k ∨ W.heap.size ≤ k) : Sep a' b := by
  unfold Sep at *
  cases ha : a'.ownBlock with
  | none => exact Or.inl rfl
  | some k =>
    refine Or.inr fun e => ?_
    rcases hat k ha with h1 | h1
    · rcases h with h | h
      · rw [h] at h1; cases h1
      · exact h (h1.trans e)
    · have := (hb.lt k e.symm).2
      omega
theorem ownsRow_block {w w1 : World} {base size n : Nat} {e : TypeId} {v : Value} {xs : List Value} (h : w.ownsRow base e size v n xs) (hg : ∀ g, v.ownBlock = some g → w1.heap[g]? = w.heap[g]?) : w1.ownsRow base e size v n xs := by
  refine ⟨h.1, ?_⟩
  rcases h.2 with h0 | ⟨g, cap, cur, hv, h1, h2, h3⟩
  · exact .inl h0
  · exact .inr ⟨g, cap, cur, hv, h1, (hg g (by rw [hv]; rfl)).trans h2, h3⟩

def upd {α : Type} (f : Nat → α) (i : Nat) (x : α) : Nat → α := fun j => if j = i then x else f j
theorem upd_same {α : Type} (f : Nat → α) (i : Nat) (x : α) : upd f i x i = x := by unfold upd; rw [if_pos rfl]
theorem upd_other {α : Type} (f : Nat → α) {i j : Nat} (x : α) (h : j ≠ i) : upd f i x j = f j := by unfold upd; rw [if_neg h]
def tri {α : Type} [Inhabited α] (a b c : α) : Nat → α
  | 0 => a
  | 1 => b
  | 2 => c
  | _ => default
theorem upd_tri0 {α : Type} [Inhabited α] (a b c x : α) : upd (tri a b c) 0 x = tri x b c := by
  funext j
  match j with
  | 0 => rfl
  | 1 => rfl
  | 2 => rfl
  | j + 3 => rfl
theorem upd_tri1 {α : Type} [Inhabited α] (a b c x : α) : upd (tri a b c) 1 x = tri a x c := by
  funext j
  match j with
  | 0 => rfl
  | 1 => rfl
  | 2 => rfl
  | j + 3 => rfl
theorem upd_tri2 {α : Type} [Inhabited α] (a b c x : α) : upd (tri a b c) 2 x = tri a b x := by
  funext j
  match j with
  | 0 => rfl
  | 1 => rfl
  | 2 => rfl
  | j + 3 => rfl

/-- Three rows beside each other, and the elements that are laid for them in blocks of their own. -/
structure Rs (B : Nat) (e : TypeId) (W w : World) (rv0 rv : Nat → Value) (rx : Nat → List Value) (tg : Nat → Option Nat) (tx : Nat → Value) : Prop where
  own : ∀ i, i < 3 → w.ownsRow B e 1 (rv i) (rx i).length (rx i)
  sep : ∀ i j, i < 3 → j < 3 → i ≠ j → Sep (rv i) (rv j)
  tmp : ∀ i g, i < 3 → tg i = some g → w.heap[g]? = some (.cells #[tx i] e (0, 0)) ∧ ∀ j, j < 3 → (rv j).ownBlock ≠ some g
  below : Below B W w
  base : B ≤ W.heap.size
  keep : ∀ k, k < W.heap.size → (∀ i, i < 3 → (rv0 i).ownBlock ≠ some k) → w.heap[k]? = W.heap[k]?
  loc : ∀ i k, i < 3 → (rv i).ownBlock = some k → (rv0 i).ownBlock = some k ∨ W.heap.size ≤ k
theorem Rs.lay {B : Nat} {e : TypeId} {W w : World} {rv0 rv : Nat → Value} {rx : Nat → List Value} {tg : Nat → Option Nat} {tx : Nat → Value} (h : Rs B e W w rv0 rv rx tg tx) (i : Nat) (hi : i < 3) :
    Rs B e W (w.alloc (.cells #[tx i] e)) rv0 rv rx (upd tg i (some w.heap.size)) tx where
  own := fun j hj => (h.own j hj).alloc _
  sep := h.sep
  tmp := fun j g hj hg => by
    by_cases hji : j = i
    · subst hji
      rw [upd_same] at hg
      obtain rfl : w.heap.size = g := Option.some.inj hg
      refine ⟨heap_alloc_new w _, fun k hk he => ?_⟩
      have := ((h.own k hk).lt _ he).2
      omega
    · rw [upd_other _ _ hji] at hg
      have h1 := h.tmp j g hj hg
      exact ⟨(heap_alloc_old w _ (Array.getElem?_eq_some_iff.1 h1.1).1).trans h1.1, h1.2⟩
  below := h.below.alloc (Nat.le_trans h.base h.below.size) _
  base := h.base
  keep := fun k hk hne => (heap_alloc_old w _ (by have := h.below.size; omega)).trans (h.keep k hk hne)
  loc := h.loc
theorem Rs.grow {B : Nat} {e : TypeId} {W w w1 : World} {rv0 rv : Nat → Value} {rx : Nat → List Value} {tg : Nat → Option Nat} {tx : Nat → Value} (h : Rs B e W w rv0 rv rx tg tx) (i : Nat) (hi : i < 3) {v' : Value}
    (ho : w1.ownsRow B e 1 v' ((rx i).length + 1) (rx i ++ [tx i])) (hg : w.grownBy w1 (rv i).ownBlock) (hat : v'.ownBlock = (rv i).ownBlock ∨ v'.ownBlock = some w.heap.size) :
    Rs B e W w1 rv0 (upd rv i v') (upd rx i (rx i ++ [tx i])) tg tx where
  own := fun j hj => by
    by_cases hji : j = i
    · subst hji
      rw [upd_same, upd_same, List.length_append]
      exact ho
    · rw [upd_other _ _ hji, upd_other _ _ hji]
      exact Sep.kept (h.sep i j hi hj (Ne.symm hji)) (h.own j hj) hg
  sep := fun j k hj hk hjk => by
    by_cases hji : j = i
    · subst hji
      rw [upd_same, upd_other _ _ (Ne.symm hjk)]
      exact Sep.new (h.sep j k hj hk hjk) (h.own k hk) hat
    · by_cases hki : k = i
      · subst hki
        rw [upd_same, upd_other _ _ hji]
        exact (Sep.new (h.sep k j hk hj (Ne.symm hjk)) (h.own j hj) hat).symm
      · rw [upd_other _ _ hji, upd_other _ _ hki]
        exact h.sep j k hj hk hjk
  tmp := fun j g hj hjg => by
    have h1 := h.tmp j g hj hjg
    have hlt := (Array.getElem?_eq_some_iff.1 h1.1).1
    refine ⟨(hg.block g hlt (h1.2 i hi).symm).trans h1.1, fun k hk => ?_⟩
    by_cases hki : k = i
    · subst hki
      rw [upd_same]
      rcases hat with h2 | h2
      · rw [h2]; exact h1.2 k hk
      · rw [h2]; intro e; have := Option.some.inj e; omega
    · rw [upd_other _ _ hki]; exact h1.2 k hk
  below := h.below.grown hg (Nat.le_trans h.base h.below.size) (fun k hk => ((h.own i hi).lt k hk).1)
  base := h.base
  keep := fun k hk hne => by
    refine (hg.block k (by have := h.below.size; omega) (fun e => ?_)).trans (h.keep k hk hne)
    rcases h.loc i k hi e.symm with h1 | h1
    · exact hne i hi h1
    · omega
  loc := fun j k hj he => by
    by_cases hji : j = i
    · subst hji
      rw [upd_same] at he
      rcases hat with h2 | h2
      · exact h.loc j k hj (h2.symm.trans he)
      · refine Or.inr ?_
        have := Option.some.inj (h2.symm.trans he)
        have := h.below.size
        omega
    · rw [upd_other _ _ hji] at he
      exact h.loc j k hj he

/-! ### Frames as letters -/
theorem ev_ne (a : Act) {d t : Nat} (v : Value) (h : t ≠ d) : (a.put (some d) v).eval (.tmp t) = a.eval (.tmp t) := by
  simp [Act.put, Act.eval, Array.getElem?_setIfInBounds_ne (Ne.symm h)]
theorem ev_eq (a : Act) {d : Nat} (v : Value) (h : d < a.tmps.size) : (a.put (some d) v).eval (.tmp d) = v := by
  simp [Act.put, Act.eval, h]
theorem sz_put (a : Act) (d : Nat) (v : Value) : (a.put (some d) v).tmps.size = a.tmps.size := by simp [Act.put]

section
variable {P : Program} {ops : Array Oper} {Q : Exit → Act → World → Prop}
theorem wpOp_plain {i : Nat} {K : Act → World → Prop} {a : Act} {w : World} (o : Oper) (hi : ops[i]? = some o) (hg : o.guard = none) (h : o.wp P a w K Q) : wpOp P ops Q i K a w := by
  unfold wpOp
  simp only [hi]
  rw [if_pos (by unfold Region.wanted; rw [hg])]
  exact Or.inl h
theorem wp_append_at {a : Act} {w : World} {K : Act → World → Prop} (o : Oper) (s x : Operand) (t : TypeId)
    (ho : o.op = .call { callee := .builtin .append, args := #[s, x], argTypes := #[t, t] })
    (base : Nat) (e : TypeId) (i : TypeInfo) (z : Value) (bytes : Nat) (ht : P.underlying t = some (.slice e)) (hi : P.info? e = some i) (hz : i.zero = some z)
    (hsize : i.size = 1) (hby : i.bytes = bytes) (hzs : z.cells.size = 1)
    (v : Value) (n : Nat) (xs : List Value) (hs : a.eval s = v) (hown : w.ownsRow base e 1 v n xs)
    (g : Nat) (y : Value) (hx : a.eval x = .slice (some ⟨g, 0, none⟩) 1 1) (hy : w.heap[g]? = some (.cells #[y] e (0, 0))) (h1 : y.oneCell' = true)
    (h63 : n + 1 ≤ maxLen) (hbytes : (n + 1) * bytes ≤ 140737488355328) (hbase : base ≤ w.heap.size)
    (h : ∀ v' w', w'.ownsRow base e 1 v' (n + 1) (xs ++ [y]) → w.grownBy w' v.ownBlock → (v'.ownBlock = v.ownBlock ∨ v'.ownBlock = some w.heap.size) → K (a.put o.dst v') w') : o.wp P a w K Q := by
  have hnews : ∀ j u, [y][j]? = some u → w.cell? ((⟨g, 0, none⟩ : Addr).add j) = some u := fun j u hj => by
    match j, hj with
    | 0, hj =>
      simp at hj
      subst hj
      rw [show (⟨g, 0, none⟩ : Addr).add 0 = ⟨g, 0, none⟩ from rfl, cell_of_row w g 0 _ e (0, 0) hy]
      rfl
    | j + 1, hj => simp at hj
  obtain ⟨v', w', hr, h2, h3, h4, h5⟩ := run_append_own_at (P := P) w base t o.type e i z 1 bytes ht hi hz hsize hby hzs (by omega) v n xs hown ⟨g, 0, none⟩ 1 1 [y] rfl hnews (fun u hu => by
    rw [List.mem_singleton.1 hu]; exact h1) h63 hbytes hbase
  unfold Oper.wp execOp
  simp only [ho, resolve, invoke, builtin, Sem.run_bind, Sem.run_pure, Result.andThen_ok, List.map_toArray, List.map_cons, List.map_nil, hs, hx, hr]
  exact h v' w' h2 h3 h5
end
end Go.Proofs.YtoipafnlcchmbaaGreatDoor
