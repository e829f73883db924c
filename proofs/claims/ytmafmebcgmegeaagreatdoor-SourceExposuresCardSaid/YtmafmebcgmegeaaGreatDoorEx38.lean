/- Texts Iv Qc of the proof. -/
import Derived.ArgAppend
import Derived.Test.YtmafmebcgmegeaaGreatDoorEx12
import Derived.Test.YtmafmebcgmegeaaGreatDoorEx16
import Derived.Test.YtmafmebcgmegeaaGreatDoorEx3
namespace Go.Proofs.YtmafmebcgmegeaaGreatDoor
open Go.RowKit Go.Sort
/-- A slice of integers of one's own, as memory grows. -/
def GR.ints (B : Nat) (zs : List Int) : GR := ⟨fun v W => OwnI W B v zs, fun h hE => h.below hE⟩
/-- A slice with no room. -/
def GR.bare : GR := ⟨fun v _ => ∃ g, v = .slice (some ⟨g, 0, none⟩) 0 0, fun h _ => h⟩
/-- The cells of a type with lists of one's own. -/
def tyW (nm : ByteArray) (va : Value) (T : Bell.Ty) (vq vs : Value) : Array Value := #[.string nm, va, .int .i64 (T.direct.getD 0 0), .int .i64 (T.direct.getD 1 0), .int .i64 (T.direct.getD 2 0), .int .i64 (T.direct.getD 3 0), .int .i64 (T.direct.getD 4 0), .int .i64 (T.direct.getD 5 0), .int .i64 (T.direct.getD 6 0), .int .i64 (T.direct.getD 7 0), .int .i64 T.side, vq, vs]
def GR.ty (B : Nat) (nm : ByteArray) (sh : List Int) (T : Bell.Ty) : GR :=
  ⟨fun v W => ∃ va vq, v = .agg (tyW nm va T vq (.slice none 0 0)) ∧ OwnI W B va sh ∧ OwnI W B vq T.squares, fun ⟨va, vq, e, h1, h2⟩ hE => ⟨va, vq, e, h1.below hE, h2.below hE⟩⟩
/-- A setting with its own list; a slice of it alone. -/
def GR.set (B : Nat) (p : Int) (zs : List Int) : GR := ⟨fun v W => ∃ A m c, v = .agg #[.int .i64 p, .slice A m c] ∧ OwnI W B (.slice A m c) zs, fun ⟨A, m, c, e, h⟩ hE => ⟨A, m, c, e, h.below hE⟩⟩
def GR.one (B : Nat) (p : Int) (zs : List Int) : GR := ⟨fun v W => ∃ g A m c, v = .slice (some ⟨g, 0, none⟩) 1 1 ∧ Blk W g 172 #[.int .i64 p, .slice A m c] ∧ OwnI W B (.slice A m c) zs, fun ⟨g, A, m, c, e, h1, h2⟩ hE => ⟨g, A, m, c, e, h1.below hE, h2.below hE⟩⟩
/-- A new block. -/
def GR.new (B : Nat) (t : TypeId) (cs : Array Value) : GR := ⟨fun v W => ∃ g, v = .pointer (some ⟨g, 0, none⟩) ∧ B ≤ g ∧ Blk W g t cs, fun ⟨g, e, h1, h2⟩ hE => ⟨g, e, h1, h2.below hE⟩⟩
theorem IntsAt.cellsAt {w : World} {g o n : Nat} {zs : List Int} (h : IntsAt w (some ⟨g, o, none⟩) n zs) : ∀ j u, (zs.map (Value.int .i64))[j]? = some u → w.cell? ((⟨g, o, none⟩ : Addr).add j) = some u := fun j u hu => by
  have hj : j < n := by
    have := (List.getElem?_eq_some_iff.1 hu).1
    rw [List.length_map, h.1] at this
    exact this
  obtain ⟨b, off, he, hh⟩ := h.2 (by omega)
  cases he
  rw [addAddr, hh j hj, ← hu]
  simp [List.getD_eq_getElem?_getD, List.getElem?_eq_getElem (show j < zs.length by rw [h.1]; exact hj)]
/-- The cells of settings. -/
def stCells (P : List (Int × Value)) : List Value := P.flatMap fun p => [.int .i64 p.1, p.2]
theorem stCells_len (P : List (Int × Value)) : (stCells P).length = P.length * 2 := by
  induction P with
  | nil => rfl
  | cons p l ih => simp only [stCells, List.flatMap_cons, List.length_append, List.length_cons, List.length_nil] at *; omega
theorem stCells_snoc (P : List (Int × Value)) (p : Int × Value) : stCells (P ++ [p]) = stCells P ++ [.int .i64 p.1, p.2] := by simp [stCells]
theorem stCells_at (P : List (Int × Value)) (i : Nat) (hi : i < P.length) : (stCells P)[i * 2]? = some (.int .i64 (P.getD i (0, undef)).1) ∧ (stCells P)[i * 2 + 1]? = some (P.getD i (0, undef)).2 := by
  induction P generalizing i with
  | nil => simp at hi
  | cons p l ih =>
    cases i with
    | zero => exact ⟨rfl, rfl⟩
    | succ i =>
      have := ih i (by simpa using hi)
      have e : stCells (p :: l) = Value.int .i64 p.1 :: p.2 :: stCells l := rfl
      rw [e, show (i + 1) * 2 = i * 2 + 1 + 1 by omega]
      simpa using this
theorem infoSet : (Tryz.prog.info? 172).map (fun i => (i.zero, i.size, i.bytes)) = some (some (.agg #[.int .i64 0, .slice none 0 0]), 2, 32) := by kernel_rfl
/-- Rows of different types lie in different blocks. -/
theorem row_ext {W W' : World} {base : Nat} {e : TypeId} {size n : Nat} {v : Value} {xs : List Value} (h : W.ownsRow base e size v n xs) (hE : Ext W W') : W'.ownsRow base e size v n xs := by
  refine World.ownsRow.kept h (row := none) ⟨hE.os, hE.tape, hE.output, hE.size, fun k hk _ => hE.block k hk⟩ ?_
  cases hv : v.ownBlock with
  | none => exact .inl rfl
  | some b => exact .inr (by simp)
theorem row_type {W : World} {base : Nat} {e : TypeId} {size n : Nat} {v : Value} {xs : List Value} (h : W.ownsRow base e size v n xs) {b : Nat} (hb : some b = v.ownBlock) : ∃ cur, W.heap[b]? = some (.cells cur e (0, 0)) := by
  rcases h.2 with ⟨rfl, _⟩ | ⟨g, cap, cur, rfl, _, h2, _⟩
  · simp [Value.ownBlock] at hb
  · obtain rfl : b = g := by simpa [Value.ownBlock] using hb
    exact ⟨cur, h2⟩
theorem row_blk {W W' : World} {base : Nat} {e : TypeId} {size n : Nat} {v : Value} {xs : List Value} (h : W.ownsRow base e size v n xs) (hg : W.grownBy W' v.ownBlock) {b : Nat} {t : TypeId} {cs : Array Value} (hb : Blk W b t cs) (ht : t ≠ e) : Blk W' b t cs := by
  refine (hg.block b (lt_of_block hb) (fun ej => ?_)).trans hb
  obtain ⟨cur, h2⟩ := row_type h ej
  have := (show W.heap[b]? = _ from hb).symm.trans h2
  simp only [Option.some.injEq, Obj.cells.injEq] at this
  exact ht this.2.1
theorem row_row {W W' : World} {base base' : Nat} {e t : TypeId} {size size' n m : Nat} {v u : Value} {xs ys : List Value} (h : W.ownsRow base e size v n xs) (hg : W.grownBy W' v.ownBlock) (ho : W.ownsRow base' t size' u m ys) (ht : t ≠ e) : W'.ownsRow base' t size' u m ys := by
  refine World.ownsRow.kept ho hg ?_
  cases hu : u.ownBlock with
  | none => exact .inl rfl
  | some b =>
    refine .inr fun ej => ?_
    obtain ⟨cur, h2⟩ := row_type h ej
    obtain ⟨cur', h3⟩ := row_type ho hu.symm
    have := h3.symm.trans h2
    simp only [Option.some.injEq, Obj.cells.injEq] at this
    exact ht this.2.1
theorem row_cell {W : World} {base : Nat} {t e : TypeId} {size n : Nat} {v : Value} {xs : List Value} (h : W.ownsRow base t size v n xs) {b : Nat} {cs : Array Value} (hb : Blk W b e cs) (ht : t ≠ e) (i : Nat) (u : Value) : (W.setCell ⟨b, i, none⟩ u).ownsRow base t size v n xs := by
  rcases h with ⟨h1, h2 | ⟨g, cap, cur, hv, hg, hc, r⟩⟩
  · exact ⟨h1, .inl h2⟩
  · refine ⟨h1, .inr ⟨g, cap, cur, hv, hg, ?_, r⟩⟩
    have hne : g ≠ b := fun e => by
      subst e
      have := hc.symm.trans hb
      simp only [Option.some.injEq, Obj.cells.injEq] at this
      exact ht this.2.1
    exact (Below.heap_setCell W ⟨b, i, none⟩ u g hne).trans hc
theorem _root_.Go.RowKit.Below.ext {A B C : World} (h : Below A.heap.size A B) (k : Ext B C) : Ext A C := Ext.trans h k
theorem row_in_row {W : World} {base : Nat} {t e : TypeId} {size n : Nat} {v : Value} {xs : List Value} (h : W.ownsRow base t size v n xs) {b : Nat} {cs : Array Value} (hb : Blk W b e cs) (ht : t ≠ e) (new : Array Value) : (W.setRow b new).ownsRow base t size v n xs := by
  rcases h with ⟨h1, h2 | ⟨g, cap, cur, hv, hg, hc, r⟩⟩
  · exact ⟨h1, .inl h2⟩
  · refine ⟨h1, .inr ⟨g, cap, cur, hv, hg, ?_, r⟩⟩
    have hne : g ≠ b := fun e => by
      subst e
      have := hc.symm.trans hb
      simp only [Option.some.injEq, Obj.cells.injEq] at this
      exact ht this.2.1
    exact (setRow_other W b g new hne).trans hc
theorem OwnI.slice {W : World} {B : Nat} {v : Value} {zs : List Int} (h : OwnI W B v zs) : ∃ A m c, v = .slice A m c ∧ IntsAt W A m zs := by
  rcases h.form with ⟨rfl, _⟩ | ⟨g, cap, rfl, _⟩
  · exact ⟨_, _, _, rfl, h.at_⟩
  · exact ⟨_, _, _, rfl, h.at_⟩
theorem OwnI.room {W : World} {B : Nat} {A : Option Addr} {n c : Nat} {zs : List Int} (h : OwnI W B (.slice A n c) zs) (hn : 0 < n) : (∃ g, A = some ⟨g, 0, none⟩) ∧ n ≤ c ∧ c ≤ 9223372036854775807 := by
  rcases h.2 with ⟨hv, _⟩ | ⟨g, cap, cur, hv, _, _, h1, h2, _⟩
  · simp at hv; omega
  · simp only [Value.slice.injEq] at hv
    obtain ⟨rfl, e, rfl⟩ := hv
    unfold maxLen at h2
    exact ⟨⟨g, rfl⟩, by omega, by omega⟩
theorem Ext.alloc (W : World) (o : Obj) : Ext W (W.alloc o) := (Below.refl _ _).alloc (Nat.le_refl _) _
/-- A copy of integers, as a step of a head. -/
theorem gs_copy {o : Oper} {a : Act} {W : World} {Q : Exit → Act → World → Prop} {B n c b off : Nat} {zs : List Int} (s x : Operand) (ho : o.op = .call { callee := .builtin .append, args := #[s, x], argTypes := #[22, 22] })
    (hs : ∃ g, a.eval s = .slice (some ⟨g, 0, none⟩) 0 0) (hx : a.eval x = .slice (some ⟨b, off, none⟩) n c) (hz : IntsAt W (some ⟨b, off, none⟩) n zs) (hn : 0 < n) (hn2 : n ≤ 100000) (hB : B ≤ W.heap.size) :
    Oper.wp Tryz.prog o a W (fun a' W' => ∃ v, a' = a.put o.dst v ∧ Ext W W' ∧ (GR.ints B zs).r v W') Q := by
  obtain ⟨i0, hi, hz0, hz1, hz2⟩ := info_parts infoInt
  obtain ⟨g, hg⟩ := hs
  obtain ⟨v', w', hrun, r1, r2⟩ := run_append_arg_grows (P := Tryz.prog) W 22 o.type 3 i0 (.int .i64 0) 1 8 Tryz.underlying22 hi hz0 hz1 hz2 rfl (by decide) ⟨g, 0, none⟩ 0 0 [] rfl (fun j u h => by simp at h)
    ⟨b, off, none⟩ n c (zs.map (Value.int .i64)) (by rw [List.length_map, hz.1, Nat.mul_one]) hz.cellsAt (by omega) (by unfold maxLen; omega) (by omega)
  obtain ⟨g1, g2, g3, g4, g5⟩ := r2
  have hE : Ext W w' := ⟨g1, g2, g3, g4, fun k hk => g5 k hk (by simp)⟩
  refine gs_val (v := v') (W' := w') ?_ hE ?_
  · simp [execOp, ho, resolve, invoke, builtin, hg, hx, hrun, Result.andThen]
  · have h2 : OwnI w' W.heap.size v' zs := by
      unfold OwnI
      rw [hz.1]
      simpa using r1
    exact h2.mono hB
end Go.Proofs.YtmafmebcgmegeaaGreatDoor

namespace Go.Proofs.YtmafmebcgmegeaaGreatDoor
open Go.RowKit Go.Sort
theorem OwnI.sl {W : World} {B n : Nat} {v : Value} {zs : List Int} (h : OwnI W B v zs) (hl : zs.length = n) (hn : 0 < n) : ∃ A c, v = .slice A n c := by
  rcases h.form with ⟨h1, h2⟩ | ⟨g3, c3, h1, _⟩
  · exfalso; rw [h2] at hl; simp at hl; omega
  · exact ⟨_, _, by rw [h1, hl]⟩
theorem cell_kept {W W' : World} (hE : Ext W W') {p : Addr} {v : Value} (h : W.cell? p = some v) : W'.cell? p = some v := by
  rw [hE.below.cell (World.block_lt_of_cell? _ _ h)]; exact h
theorem Blk.cell_far {w : World} {g b i : Nat} {t : TypeId} {cs : Array Value} (h : Blk w g t cs) (hne : g ≠ b) (u : Value) : Blk (w.setCell ⟨b, i, none⟩ u) g t cs :=
  (Below.heap_setCell w ⟨b, i, none⟩ u g hne).trans h
theorem infoSetR : (Tryz.prog.info? 145).map (fun i => (i.zero, i.size, i.bytes)) = some (some (.agg #[.int .i64 0, .slice none 0 0]), 2, 32) := by kernel_rfl
theorem row_high {w W : World} {base : Nat} {t : TypeId} {size n : Nat} {v : Value} {xs : List Value} (h : w.ownsRow base t size v n xs) (k : ∀ b, base ≤ b → b < w.heap.size → W.heap[b]? = w.heap[b]?) : W.ownsRow base t size v n xs := by
  rcases h with ⟨h1, h2 | ⟨g, cap, cur, hv, hg, hc, r⟩⟩
  · exact ⟨h1, .inl h2⟩
  · refine ⟨h1, .inr ⟨g, cap, cur, hv, hg, ?_, r⟩⟩
    exact (k g hg (Array.getElem?_eq_some_iff.1 hc).1).trans hc
/-- A type of the reference whose lists are one's own. -/
structure OwnTy (w : World) (base : Nat) (sh : List Int) (T : Bell.Ty) (A1 : Option Addr) (sn c1 gq qn c2 gS gn cS : Nat) (P : List (Int × Value)) : Prop where
  sh : OwnI w base (.slice A1 sn c1) sh
  sq : OwnI w base (.slice (some ⟨gq, 0, none⟩) qn c2) T.squares
  row : w.ownsRow base 145 2 (.slice (some ⟨gS, 0, none⟩) gn cS) gn (stCells P)
  len : P.length = gn
  each : ∀ j, j < gn → (P.getD j (0, undef)).1 = Bell.ePow T.sets j ∧ OwnI w base (P.getD j (0, undef)).2 ((T.sets.getD j (0, [])).2)
  cap : qn ≤ c2 ∧ c2 ≤ 9223372036854775807
theorem OwnTy.high {w W : World} {base : Nat} {sh : List Int} {T : Bell.Ty} {A1 : Option Addr} {sn c1 gq qn c2 gS gn cS : Nat} {P : List (Int × Value)} (h : OwnTy w base sh T A1 sn c1 gq qn c2 gS gn cS P) (k : ∀ b, base ≤ b → b < w.heap.size → W.heap[b]? = w.heap[b]?) : OwnTy W base sh T A1 sn c1 gq qn c2 gS gn cS P :=
  ⟨row_high h.sh k, row_high h.sq k, row_high h.row k, h.len, fun j hj => ⟨(h.each j hj).1, row_high (h.each j hj).2 k⟩, h.cap⟩
end Go.Proofs.YtmafmebcgmegeaaGreatDoor
