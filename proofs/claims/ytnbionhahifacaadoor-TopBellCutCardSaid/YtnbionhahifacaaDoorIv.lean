/- The law's copy of a type. -/
import Derived.Test.YtnbionhahifacaaDoorIh
import Derived.Test.YtnbionhahifacaaDoorQJ
import Derived.Test.YtnbionhahifacaaDoorIt
import Derived.ArgAppend
import Derived.Test.YtnbionhahifacaaDoorIs
namespace Go.Proofs.YtnbionhahifacaaDoor
open Go.RowKit Go.Sort

/-- A slice of integers of one's own, as memory grows. -/
def GR.ints (B : Nat) (zs : List Int) : GR := ⟨fun v W => OwnI W B v zs, fun h hE => h.below hE⟩
/-- A slice with no room. -/
def GR.bare : GR := ⟨fun v _ => ∃ g, v = .slice (some ⟨g, 0, none⟩) 0 0, fun h _ => h⟩
/-- The cells of a type with lists of one's own. -/
def tyW (nm : ByteArray) (va : Value) (T : Bell.Ty) (vq vs : Value) : Array Value := #[.string nm, va, .int .i64 (T.direct.getD 0 0), .int .i64 (T.direct.getD 1 0), .int .i64 (T.direct.getD 2 0), .int .i64 (T.direct.getD 3 0), .int .i64 (T.direct.getD 4 0), .int .i64 (T.direct.getD 5 0), .int .i64 (T.direct.getD 6 0), .int .i64 (T.direct.getD 7 0), .int .i64 T.side, vq, vs]
def GR.ty (B : Nat) (nm : ByteArray) (sh : List Int) (T : Bell.Ty) : GR :=
  ⟨fun v W => ∃ va vq, v = .agg (tyW nm va T vq (.slice none 0 0)) ∧ OwnI W B va sh ∧ OwnI W B vq T.squares, fun ⟨va, vq, e, h1, h2⟩ hE => ⟨va, vq, e, h1.below hE, h2.below hE⟩⟩
/-- A setting with its own list; a slice of it alone. -/
def GR.set (B : Nat) (p : Int) (zs : List Int) : GR := ⟨fun v W => ∃ A m c, v = .agg #[.int .i64 p, .slice A m c] ∧ OwnI W B (.slice A m c) zs, fun ⟨A, m, c, e, h⟩ hE => ⟨A, m, c, e, h.below hE⟩⟩
def GR.one (B : Nat) (p : Int) (zs : List Int) : GR := ⟨fun v W => ∃ g A m c, v = .slice (some ⟨g, 0, none⟩) 1 1 ∧ Blk W g 67 #[.int .i64 p, .slice A m c] ∧ OwnI W B (.slice A m c) zs, fun ⟨g, A, m, c, e, h1, h2⟩ hE => ⟨g, A, m, c, e, h1.below hE, h2.below hE⟩⟩
/-- A new block. -/
def GR.new (B : Nat) (t : TypeId) (cs : Array Value) : GR := ⟨fun v W => ∃ g, v = .pointer (some ⟨g, 0, none⟩) ∧ B ≤ g ∧ Blk W g t cs, fun ⟨g, e, h1, h2⟩ hE => ⟨g, e, h1, h2.below hE⟩⟩

theorem IntsAt.cellsAt {w : World} {g o n : Nat} {zs : List Int} (h : IntsAt w (some ⟨g, o, none⟩) n zs) : ∀ j u, (zs.map (Value.int .i64))[j]? = some u → w.cell? ((⟨g, o, none⟩ : Addr).add j) = some u := fun j u hu => by
  have hj : j < n := by
    have := (List.getElem?_eq_some_iff.1 hu).1
    rw [List.length_map, h.1] at this
    exact this
  obtain ⟨b, off, he, hh⟩ := h.2 (by omega)
  cases he
  rw [addAddr, hh j hj, ← hu]
  simp [List.getD_eq_getElem?_getD, List.getElem?_eq_getElem (show j < zs.length by rw [h.1]; exact hj)]
theorem ints_cell1 (zs : List Int) : ∀ u ∈ zs.map (Value.int .i64), u.oneCell' = true := fun u hu => by
  obtain ⟨z, _, rfl⟩ := List.mem_map.1 hu
  rfl
/-- The cells of settings. -/
def stCells (P : List (Int × Value)) : List Value := P.flatMap fun p => [.int .i64 p.1, p.2]
theorem stCells_len (P : List (Int × Value)) : (stCells P).length = P.length * 2 := by
  induction P with
  | nil => rfl
  | cons p l ih => simp only [stCells, List.flatMap_cons, List.length_append, List.length_cons, List.length_nil] at *; omega
theorem stCells_snoc (P : List (Int × Value)) (p : Int × Value) : stCells (P ++ [p]) = stCells P ++ [.int .i64 p.1, p.2] := by simp [stCells]
theorem stCells_at (P : List (Int × Value)) (i : Nat) (hi : i < P.length) : (stCells P)[i * 2]? = some (.int .i64 (P.getD i (0, undef)).1) ∧ (stCells P)[i * 2 + 1]? = some (P.getD i (0, undef)).2 := by
  induction P generalizing i with
  | nil => simp at hi
  | cons p l ih =>
    cases i with
    | zero => exact ⟨rfl, rfl⟩
    | succ i =>
      have := ih i (by simpa using hi)
      have e : stCells (p :: l) = Value.int .i64 p.1 :: p.2 :: stCells l := rfl
      rw [e, show (i + 1) * 2 = i * 2 + 1 + 1 by omega]
      simpa using this
theorem infoSet : (Tryd.prog.info? 67).map (fun i => (i.zero, i.size, i.bytes)) = some (some (.agg #[.int .i64 0, .slice none 0 0]), 2, 32) := by kernel_rfl
theorem OwnI.in_row {w : World} {base b : Nat} {v : Value} {zs : List Int} {t : TypeId} {cs : Array Value} (h : OwnI w base v zs) (hb : Blk w b t cs) (ht : t ≠ 3) (new : Array Value) : OwnI (w.setRow b new) base v zs := by
  rcases h with ⟨h1, h2 | ⟨g, cap, cur, hv, hg, hc, r⟩⟩
  · exact ⟨h1, .inl h2⟩
  · refine ⟨h1, .inr ⟨g, cap, cur, hv, hg, ?_, r⟩⟩
    have hne : g ≠ b := fun e => by
      subst e
      have := hc.symm.trans hb
      simp only [Option.some.injEq, Obj.cells.injEq] at this
      exact ht this.2.1.symm
    exact (setRow_other w b g new hne).trans hc

/-- Rows of different types lie in different blocks. -/
theorem row_ext {W W' : World} {base : Nat} {e : TypeId} {size n : Nat} {v : Value} {xs : List Value} (h : W.ownsRow base e size v n xs) (hE : Ext W W') : W'.ownsRow base e size v n xs := by
  refine World.ownsRow.kept h (row := none) ⟨hE.os, hE.tape, hE.output, hE.size, fun k hk _ => hE.block k hk⟩ ?_
  cases hv : v.ownBlock with
  | none => exact .inl rfl
  | some b => exact .inr (by simp)
theorem row_type {W : World} {base : Nat} {e : TypeId} {size n : Nat} {v : Value} {xs : List Value} (h : W.ownsRow base e size v n xs) {b : Nat} (hb : some b = v.ownBlock) : ∃ cur, W.heap[b]? = some (.cells cur e (0, 0)) := by
  rcases h.2 with ⟨rfl, _⟩ | ⟨g, cap, cur, rfl, _, h2, _⟩
  · simp [Value.ownBlock] at hb
  · obtain rfl : b = g := by simpa [Value.ownBlock] using hb
    exact ⟨cur, h2⟩
theorem row_blk {W W' : World} {base : Nat} {e : TypeId} {size n : Nat} {v : Value} {xs : List Value} (h : W.ownsRow base e size v n xs) (hg : W.grownBy W' v.ownBlock) {b : Nat} {t : TypeId} {cs : Array Value} (hb : Blk W b t cs) (ht : t ≠ e) : Blk W' b t cs := by
  refine (hg.block b (lt_of_block hb) (fun ej => ?_)).trans hb
  obtain ⟨cur, h2⟩ := row_type h ej
  have := (show W.heap[b]? = _ from hb).symm.trans h2
  simp only [Option.some.injEq, Obj.cells.injEq] at this
  exact ht this.2.1
theorem row_row {W W' : World} {base base' : Nat} {e t : TypeId} {size size' n m : Nat} {v u : Value} {xs ys : List Value} (h : W.ownsRow base e size v n xs) (hg : W.grownBy W' v.ownBlock) (ho : W.ownsRow base' t size' u m ys) (ht : t ≠ e) : W'.ownsRow base' t size' u m ys := by
  refine World.ownsRow.kept ho hg ?_
  cases hu : u.ownBlock with
  | none => exact .inl rfl
  | some b =>
    refine .inr fun ej => ?_
    obtain ⟨cur, h2⟩ := row_type h ej
    obtain ⟨cur', h3⟩ := row_type ho hu.symm
    have := h3.symm.trans h2
    simp only [Option.some.injEq, Obj.cells.injEq] at this
    exact ht this.2.1
theorem row_cell {W : World} {base : Nat} {t e : TypeId} {size n : Nat} {v : Value} {xs : List Value} (h : W.ownsRow base t size v n xs) {b : Nat} {cs : Array Value} (hb : Blk W b e cs) (ht : t ≠ e) (i : Nat) (u : Value) : (W.setCell ⟨b, i, none⟩ u).ownsRow base t size v n xs := by
  rcases h with ⟨h1, h2 | ⟨g, cap, cur, hv, hg, hc, r⟩⟩
  · exact ⟨h1, .inl h2⟩
  · refine ⟨h1, .inr ⟨g, cap, cur, hv, hg, ?_, r⟩⟩
    have hne : g ≠ b := fun e => by
      subst e
      have := hc.symm.trans hb
      simp only [Option.some.injEq, Obj.cells.injEq] at this
      exact ht this.2.1
    exact (Below.heap_setCell W ⟨b, i, none⟩ u g hne).trans hc

theorem _root_.Go.RowKit.Below.ext {A B C : World} (h : Below A.heap.size A B) (k : Ext B C) : Ext A C := Ext.trans h k
theorem row_in_row {W : World} {base : Nat} {t e : TypeId} {size n : Nat} {v : Value} {xs : List Value} (h : W.ownsRow base t size v n xs) {b : Nat} {cs : Array Value} (hb : Blk W b e cs) (ht : t ≠ e) (new : Array Value) : (W.setRow b new).ownsRow base t size v n xs := by
  rcases h with ⟨h1, h2 | ⟨g, cap, cur, hv, hg, hc, r⟩⟩
  · exact ⟨h1, .inl h2⟩
  · refine ⟨h1, .inr ⟨g, cap, cur, hv, hg, ?_, r⟩⟩
    have hne : g ≠ b := fun e => by
      subst e
      have := hc.symm.trans hb
      simp only [Option.some.injEq, Obj.cells.injEq] at this
      exact ht this.2.1
    exact (setRow_other W b g new hne).trans hc
theorem OwnI.slice {W : World} {B : Nat} {v : Value} {zs : List Int} (h : OwnI W B v zs) : ∃ A m c, v = .slice A m c ∧ IntsAt W A m zs := by
  rcases h.form with ⟨rfl, _⟩ | ⟨g, cap, rfl, _⟩
  · exact ⟨_, _, _, rfl, h.at_⟩
  · exact ⟨_, _, _, rfl, h.at_⟩
theorem OwnI.room {W : World} {B : Nat} {A : Option Addr} {n c : Nat} {zs : List Int} (h : OwnI W B (.slice A n c) zs) (hn : 0 < n) : (∃ g, A = some ⟨g, 0, none⟩) ∧ n ≤ c ∧ c ≤ 9223372036854775807 := by
  rcases h.2 with ⟨hv, _⟩ | ⟨g, cap, cur, hv, _, _, h1, h2, _⟩
  · simp at hv; omega
  · simp only [Value.slice.injEq] at hv
    obtain ⟨rfl, e, rfl⟩ := hv
    unfold maxLen at h2
    exact ⟨⟨g, rfl⟩, by omega, by omega⟩

theorem Ext.alloc (W : World) (o : Obj) : Ext W (W.alloc o) := (Below.refl _ _).alloc (Nat.le_refl _) _

/-- A copy of integers, as a step of a head. -/
theorem gs_copy {o : Oper} {a : Act} {W : World} {Q : Exit → Act → World → Prop} {B n c b off : Nat} {zs : List Int} (s x : Operand) (ho : o.op = .call { callee := .builtin .append, args := #[s, x], argTypes := #[22, 22] })
    (hs : ∃ g, a.eval s = .slice (some ⟨g, 0, none⟩) 0 0) (hx : a.eval x = .slice (some ⟨b, off, none⟩) n c) (hz : IntsAt W (some ⟨b, off, none⟩) n zs) (hn : 0 < n) (hn2 : n ≤ 100000) (hB : B ≤ W.heap.size) :
    Oper.wp Tryd.prog o a W (fun a' W' => ∃ v, a' = a.put o.dst v ∧ Ext W W' ∧ (GR.ints B zs).r v W') Q := by
  obtain ⟨i0, hi, hz0, hz1, hz2⟩ := info_parts infoInt
  obtain ⟨g, hg⟩ := hs
  obtain ⟨v', w', hrun, r1, r2⟩ := run_append_arg_grows (P := Tryd.prog) W 22 o.type 3 i0 (.int .i64 0) 1 8 Tryd.underlying22 hi hz0 hz1 hz2 rfl (by decide) ⟨g, 0, none⟩ 0 0 [] rfl (fun j u h => by simp at h)
    ⟨b, off, none⟩ n c (zs.map (Value.int .i64)) (by rw [List.length_map, hz.1, Nat.mul_one]) hz.cellsAt (by omega) (by unfold maxLen; omega) (by omega)
  obtain ⟨g1, g2, g3, g4, g5⟩ := r2
  have hE : Ext W w' := ⟨g1, g2, g3, g4, fun k hk => g5 k hk (by simp)⟩
  refine gs_val (v := v') (W' := w') ?_ hE ?_
  · simp [execOp, ho, resolve, invoke, builtin, hg, hx, hrun, Result.andThen]
  · have h2 : OwnI w' W.heap.size v' zs := by
      unfold OwnI
      rw [hz.1]
      simpa using r1
    exact h2.mono hB

set_option maxHeartbeats 1000000 in
set_option maxRecDepth 100000 in
theorem bellType_any {nm : ByteArray} {sh : List Int} {T : Bell.Ty} {sa : Option Addr} {sn sc : Nat} {qa : Option Addr} {qn qc : Nat} {ga : Option Addr} {gn gc : Nat} {cs : Array Value} (w : World) (hT : RTy w cs nm sh T sa sn sc qa qn qc ga gn gc) (hg : GoodT sh T) (hnm : nameB nm = true) (hsz : nm.size ≤ 40) :
    Calls Tryd.prog 8 #[.agg cs] w fun e w' => ∃ cs' sa' sc' qb qo qc' gb go gc', e = .returned (.agg cs') ∧ TyOk w' cs' nm sh T sa' sn sc' qb qo qn qc' gb go gn gc' ∧ Below w.heap.size w w' := by
  obtain ⟨i0, hi, hz0, hz1, hz2⟩ := info_parts infoInt
  have q0 := hT.c0
  have q1 := hT.c1
  have q10 := hT.c10
  have q11 := hT.c11
  have q12 := hT.c12
  have qd : ∀ i, i < 8 → cs[2 + i]? = some (.int .i64 (T.direct.getD i 0)) := fun i hi => by
    rw [hT.cells]
    match i, hi with
    | 0, _ => rfl
    | 1, _ => rfl
    | 2, _ => rfl
    | 3, _ => rfl
    | 4, _ => rfl
    | 5, _ => rfl
    | 6, _ => rfl
    | 7, _ => rfl
  have hsn : 0 < sn ∧ sn ≤ 8 := by have h1 := hg.sh.cnt; rw [hT.shares.1] at h1; exact h1
  have hqn : 0 < qn ∧ qn ≤ 8 := by have h1 := hg.cnt.2; rw [hT.squares.1] at h1; exact h1
  have hgn : 0 < gn ∧ gn ≤ 6 := by have h1 := hg.cnt.1; rw [hT.sets.1] at h1; exact h1
  obtain ⟨sb, so, rfl, _⟩ := hT.shares.2 hsn.1
  obtain ⟨qb, qo, rfl, _⟩ := hT.squares.2 hqn.1
  obtain ⟨gb, go, rfl, hl⟩ := hT.sets.2 hgn.1
  have HL := Lib.hid hl
  have HSh := Lib.hid hT.shares
  have HSq := Lib.hid hT.squares
  have HG := Lib.hid hg
  clear hT hg hl
  go_enter Tryd.func8, Tryd.ntmps8
  go_upto_region 1 with fail
  obtain ⟨w1, hw1⟩ : ∃ W, W = (w.alloc (.cells cs 26)).alloc (.cells #[.string ⟨#[]⟩, .slice none 0 0, .int .i64 0, .int .i64 0, .int .i64 0, .int .i64 0, .int .i64 0, .int .i64 0, .int .i64 0, .int .i64 0, .int .i64 0, .slice none 0 0, .slice none 0 0] 47) := ⟨_, rfl⟩
  rw [← hw1]
  have T1 : Hid (Blk w1 w.heap.size 26 cs) := by show Blk _ _ _ _; rw [hw1]; exact (Blk.new _ _ _).alloc _
  have O1 : Hid (Blk w1 (w.heap.size + 1) 47 #[.string ⟨#[]⟩, .slice none 0 0, .int .i64 0, .int .i64 0, .int .i64 0, .int .i64 0, .int .i64 0, .int .i64 0, .int .i64 0, .int .i64 0, .int .i64 0, .slice none 0 0, .slice none 0 0]) := by show Blk _ _ _ _; rw [hw1]; exact Blk.at_size _ _ (by simp)
  have HB1 : Hid (Below w.heap.size w w1) := by show Below _ _ _; rw [hw1]; exact ((Below.refl _ _).alloc (Nat.le_refl _) _).alloc (by simp) _
  obtain ⟨g, hg⟩ : ∃ g, g = w.heap.size := ⟨_, rfl⟩
  obtain ⟨g2, hg2⟩ : ∃ g2, g2 = w.heap.size + 1 := ⟨_, rfl⟩
  rw [← hg2] at O1 ⊢
  rw [← hg] at T1 ⊢
  have HG1 := Lib.hid hg
  have HG2 := Lib.hid hg2
  have HW1 : Hid (w1.heap.size = w.heap.size + 2) := by show _ = _; rw [hw1]; simp
  clear hw1 hg hg2
  refine wp_region_grow 16 (by kernel_rfl) (by kernel_rfl) [GR.eq (.pointer (some ⟨g, 0, none⟩)), GR.eq (.string nm), GR.bare, GR.eq (.pointer (some ⟨g, 1, none⟩)), GR.eq (.slice (some ⟨sb, so, none⟩) sn sc), GR.ints w1.heap.size sh, GR.eq (.pointer (some ⟨g, 2, none⟩)), GR.eq (.agg #[.int .i64 (T.direct.getD 0 0), .int .i64 (T.direct.getD 1 0), .int .i64 (T.direct.getD 2 0), .int .i64 (T.direct.getD 3 0), .int .i64 (T.direct.getD 4 0), .int .i64 (T.direct.getD 5 0), .int .i64 (T.direct.getD 6 0), .int .i64 (T.direct.getD 7 0)]), GR.eq (.pointer (some ⟨g, 10, none⟩)), GR.eq (.int .i64 T.side), GR.bare, GR.eq (.pointer (some ⟨g, 11, none⟩)), GR.eq (.slice (some ⟨qb, qo, none⟩) qn qc), GR.ints w1.heap.size T.squares, GR.ty w1.heap.size nm sh T, GR.new w1.heap.size 47 #[.string ⟨#[]⟩, .slice none 0 0, .int .i64 0, .int .i64 0, .int .i64 0, .int .i64 0, .int .i64 0, .int .i64 0, .int .i64 0, .int .i64 0, .int .i64 0, .slice none 0 0, .slice none 0 0]] 42 rfl (by kernel_rfl) ?_ ?_
  · refine ⟨?_, ?_, ?_, ?_, ?_, ?_, ?_, ?_, ?_, ?_, ?_, ?_, ?_, ?_, ?_, ?_, trivial⟩
    · intro a W hE hd ho
      have e1 : a.tmps[1]?.getD undef = .pointer (some ⟨g, 0, none⟩) := ho 1 (by kernel_rfl)
      exact gs_same (v := .pointer (some ⟨g, 0, none⟩)) (by go_simp) rfl
    · intro a W hE hd ho
      have e6 : a.tmps[6]?.getD undef = .pointer (some ⟨g, 0, none⟩) := hd 0 6 (by kernel_rfl) (by kernel_rfl)
      have c0 := ((T1.out.below hE).cell 0).trans q0
      exact gs_same (v := .string nm) (by go_simp) rfl
    · intro a W hE hd ho
      refine gs_val (v := .slice (some ⟨W.heap.size, 0, none⟩) 0 0) (W' := W.alloc (.cells #[] 3)) (by go_simp) ((Below.refl _ _).alloc (Nat.le_refl _) _) ⟨_, rfl⟩
    · intro a W hE hd ho
      have e1 : a.tmps[1]?.getD undef = .pointer (some ⟨g, 0, none⟩) := ho 1 (by kernel_rfl)
      exact gs_same (v := .pointer (some ⟨g, 1, none⟩)) (by go_simp) rfl
    · intro a W hE hd ho
      have e9 : a.tmps[9]?.getD undef = .pointer (some ⟨g, 1, none⟩) := hd 3 9 (by kernel_rfl) (by kernel_rfl)
      have c1 := ((T1.out.below hE).cell 1).trans q1
      exact gs_same (v := .slice (some ⟨sb, so, none⟩) sn sc) (by go_simp) rfl
    · intro a W hE hd ho
      have e10 : a.tmps[10]?.getD undef = .slice (some ⟨sb, so, none⟩) sn sc := hd 4 10 (by kernel_rfl) (by kernel_rfl)
      have es : ∃ g, a.tmps[8]?.getD undef = .slice (some ⟨g, 0, none⟩) 0 0 := hd 2 8 (by kernel_rfl) (by kernel_rfl)
      exact gs_copy (.tmp 8) (.tmp 10) rfl (by rw [eval_getD]; exact es) ((eval_getD _ _).trans e10) (HSh.out.keep (HB1.out.trans (hE.below.mono HB1.out.size))) (by omega) (by omega) hE.below.size
    · intro a W hE hd ho
      have e1 : a.tmps[1]?.getD undef = .pointer (some ⟨g, 0, none⟩) := ho 1 (by kernel_rfl)
      exact gs_same (v := .pointer (some ⟨g, 2, none⟩)) (by go_simp) rfl
    · intro a W hE hd ho
      have e12 : a.tmps[12]?.getD undef = .pointer (some ⟨g, 2, none⟩) := hd 6 12 (by kernel_rfl) (by kernel_rfl)
      have d0 := ((T1.out.below hE).cell (2 + 0)).trans (qd 0 (by omega))
      have d1 := ((T1.out.below hE).cell (2 + 1)).trans (qd 1 (by omega))
      have d2 := ((T1.out.below hE).cell (2 + 2)).trans (qd 2 (by omega))
      have d3 := ((T1.out.below hE).cell (2 + 3)).trans (qd 3 (by omega))
      have d4 := ((T1.out.below hE).cell (2 + 4)).trans (qd 4 (by omega))
      have d5 := ((T1.out.below hE).cell (2 + 5)).trans (qd 5 (by omega))
      have d6 := ((T1.out.below hE).cell (2 + 6)).trans (qd 6 (by omega))
      have d7 := ((T1.out.below hE).cell (2 + 7)).trans (qd 7 (by omega))
      simp only [Nat.reduceAdd] at d0 d1 d2 d3 d4 d5 d6 d7
      exact gs_same (v := .agg #[.int .i64 (T.direct.getD 0 0), .int .i64 (T.direct.getD 1 0), .int .i64 (T.direct.getD 2 0), .int .i64 (T.direct.getD 3 0), .int .i64 (T.direct.getD 4 0), .int .i64 (T.direct.getD 5 0), .int .i64 (T.direct.getD 6 0), .int .i64 (T.direct.getD 7 0)]) (by go_simp) rfl
    · intro a W hE hd ho
      have e1 : a.tmps[1]?.getD undef = .pointer (some ⟨g, 0, none⟩) := ho 1 (by kernel_rfl)
      exact gs_same (v := .pointer (some ⟨g, 10, none⟩)) (by go_simp) rfl
    · intro a W hE hd ho
      have e14 : a.tmps[14]?.getD undef = .pointer (some ⟨g, 10, none⟩) := hd 8 14 (by kernel_rfl) (by kernel_rfl)
      have c10 := ((T1.out.below hE).cell 10).trans q10
      exact gs_same (v := .int .i64 T.side) (by go_simp) rfl
    · intro a W hE hd ho
      refine gs_val (v := .slice (some ⟨W.heap.size, 0, none⟩) 0 0) (W' := W.alloc (.cells #[] 3)) (by go_simp) ((Below.refl _ _).alloc (Nat.le_refl _) _) ⟨_, rfl⟩
    · intro a W hE hd ho
      have e1 : a.tmps[1]?.getD undef = .pointer (some ⟨g, 0, none⟩) := ho 1 (by kernel_rfl)
      exact gs_same (v := .pointer (some ⟨g, 11, none⟩)) (by go_simp) rfl
    · intro a W hE hd ho
      have e17 : a.tmps[17]?.getD undef = .pointer (some ⟨g, 11, none⟩) := hd 11 17 (by kernel_rfl) (by kernel_rfl)
      have c11 := ((T1.out.below hE).cell 11).trans q11
      exact gs_same (v := .slice (some ⟨qb, qo, none⟩) qn qc) (by go_simp) rfl
    · intro a W hE hd ho
      have e18 : a.tmps[18]?.getD undef = .slice (some ⟨qb, qo, none⟩) qn qc := hd 12 18 (by kernel_rfl) (by kernel_rfl)
      have es : ∃ g, a.tmps[16]?.getD undef = .slice (some ⟨g, 0, none⟩) 0 0 := hd 10 16 (by kernel_rfl) (by kernel_rfl)
      exact gs_copy (.tmp 16) (.tmp 18) rfl (by rw [eval_getD]; exact es) ((eval_getD _ _).trans e18) (HSq.out.keep (HB1.out.trans (hE.below.mono HB1.out.size))) (by omega) (by omega) hE.below.size
    · intro a W hE hd ho
      have e7 : a.tmps[7]?.getD undef = .string nm := hd 1 7 (by kernel_rfl) (by kernel_rfl)
      have e13 : a.tmps[13]?.getD undef = .agg #[.int .i64 (T.direct.getD 0 0), .int .i64 (T.direct.getD 1 0), .int .i64 (T.direct.getD 2 0), .int .i64 (T.direct.getD 3 0), .int .i64 (T.direct.getD 4 0), .int .i64 (T.direct.getD 5 0), .int .i64 (T.direct.getD 6 0), .int .i64 (T.direct.getD 7 0)] := hd 7 13 (by kernel_rfl) (by kernel_rfl)
      have e15 : a.tmps[15]?.getD undef = .int .i64 T.side := hd 9 15 (by kernel_rfl) (by kernel_rfl)
      have o1 : OwnI W w1.heap.size (a.tmps[11]?.getD undef) sh := hd 5 11 (by kernel_rfl) (by kernel_rfl)
      have o2 : OwnI W w1.heap.size (a.tmps[19]?.getD undef) T.squares := hd 13 19 (by kernel_rfl) (by kernel_rfl)
      obtain ⟨va, hva⟩ : ∃ v, v = a.tmps[11]?.getD undef := ⟨_, rfl⟩
      obtain ⟨vq, hvq⟩ : ∃ v, v = a.tmps[19]?.getD undef := ⟨_, rfl⟩
      rw [← hva] at o1
      rw [← hvq] at o2
      have e11 := hva.symm
      have e19 := hvq.symm
      obtain ⟨A1, c1, v1⟩ : ∃ A c, va = .slice A sn c := by
        rcases o1.form with ⟨h1, h2⟩ | ⟨g3, c3, h1, _⟩
        · exfalso; have h3 := HSh.out.1; rw [h2] at h3; simp at h3; omega
        · exact ⟨_, _, by rw [h1, HSh.out.1]⟩
      obtain ⟨A2, c2, v2⟩ : ∃ A c, vq = .slice A qn c := by
        rcases o2.form with ⟨h1, h2⟩ | ⟨g3, c3, h1, _⟩
        · exfalso; have h3 := HSq.out.1; rw [h2] at h3; simp at h3; omega
        · exact ⟨_, _, by rw [h1, HSq.out.1]⟩
      clear hva hvq
      subst v1
      subst v2
      exact gs_same (v := .agg (tyW nm (.slice A1 sn c1) T (.slice A2 qn c2) (.slice none 0 0))) (by unfold tyW; go_simp) ⟨_, _, rfl, o1, o2⟩
    · intro a W hE hd ho
      refine gs_val (v := .pointer (some ⟨W.heap.size, 0, none⟩)) (W' := W.alloc (.cells #[.string ⟨#[]⟩, .slice none 0 0, .int .i64 0, .int .i64 0, .int .i64 0, .int .i64 0, .int .i64 0, .int .i64 0, .int .i64 0, .int .i64 0, .int .i64 0, .slice none 0 0, .slice none 0 0] 47)) (by go_simp) ((Below.refl _ _).alloc (Nat.le_refl _) _) ⟨_, rfl, hE.below.size, Blk.new _ _ _⟩
  · intro vs w2 hE hR
    have y0 : vs 0 = .pointer (some ⟨g, 0, none⟩) := hR 0 (by omega)
    have y1 : vs 1 = .string nm := hR 1 (by omega)
    obtain ⟨b2, y2⟩ : ∃ g, vs 2 = .slice (some ⟨g, 0, none⟩) 0 0 := hR 2 (by omega)
    have y3 : vs 3 = .pointer (some ⟨g, 1, none⟩) := hR 3 (by omega)
    have y4 : vs 4 = .slice (some ⟨sb, so, none⟩) sn sc := hR 4 (by omega)
    obtain ⟨x5, y5⟩ : ∃ v, vs 5 = v := ⟨_, rfl⟩
    have y6 : vs 6 = .pointer (some ⟨g, 2, none⟩) := hR 6 (by omega)
    have y7 : vs 7 = .agg #[.int .i64 (T.direct.getD 0 0), .int .i64 (T.direct.getD 1 0), .int .i64 (T.direct.getD 2 0), .int .i64 (T.direct.getD 3 0), .int .i64 (T.direct.getD 4 0), .int .i64 (T.direct.getD 5 0), .int .i64 (T.direct.getD 6 0), .int .i64 (T.direct.getD 7 0)] := hR 7 (by omega)
    have y8 : vs 8 = .pointer (some ⟨g, 10, none⟩) := hR 8 (by omega)
    have y9 : vs 9 = .int .i64 T.side := hR 9 (by omega)
    obtain ⟨b10, y10⟩ : ∃ g, vs 10 = .slice (some ⟨g, 0, none⟩) 0 0 := hR 10 (by omega)
    have y11 : vs 11 = .pointer (some ⟨g, 11, none⟩) := hR 11 (by omega)
    have y12 : vs 12 = .slice (some ⟨qb, qo, none⟩) qn qc := hR 12 (by omega)
    obtain ⟨x13, y13⟩ : ∃ v, vs 13 = v := ⟨_, rfl⟩
    obtain ⟨va, vq, y14, o1, o2⟩ : ∃ va vq, vs 14 = .agg (tyW nm va T vq (.slice none 0 0)) ∧ OwnI w2 w1.heap.size va sh ∧ OwnI w2 w1.heap.size vq T.squares := hR 14 (by omega)
    obtain ⟨g3, y15, h3, P2⟩ : ∃ g, vs 15 = .pointer (some ⟨g, 0, none⟩) ∧ w1.heap.size ≤ g ∧ Blk w2 g 47 #[.string ⟨#[]⟩, .slice none 0 0, .int .i64 0, .int .i64 0, .int .i64 0, .int .i64 0, .int .i64 0, .int .i64 0, .int .i64 0, .int .i64 0, .int .i64 0, .slice none 0 0, .slice none 0 0] := hR 15 (by omega)
    simp only [List.range, List.range.loop, List.foldl_cons, List.foldl_nil, y0, y1, y2, y3, y4, y5, y6, y7, y8, y9, y10, y11, y12, y13, y14, y15, List.drop_succ_cons, List.drop_zero]
    simp only [dstAt, List.getElem?_toArray, List.getElem?_cons_zero, List.getElem?_cons_succ, Option.bind_some, Act.put, List.setIfInBounds_toArray, List.set_cons_zero, List.set_cons_succ]
    clear y0 y1 y2 y3 y4 y5 y6 y7 y8 y9 y10 y11 y12 y13 y14 y15 hR
    obtain ⟨A1, c1, rfl⟩ : ∃ A c, va = .slice A sn c := by
      rcases o1.form with ⟨h1, h2⟩ | ⟨g9, c9, h1, _⟩
      · exfalso; have h3 := HSh.out.1; rw [h2] at h3; simp at h3; omega
      · exact ⟨_, _, by rw [h1, HSh.out.1]⟩
    obtain ⟨A2, c2, rfl⟩ : ∃ A c, vq = .slice A qn c := by
      rcases o2.form with ⟨h1, h2⟩ | ⟨g9, c9, h1, _⟩
      · exfalso; have h3 := HSq.out.1; rw [h2] at h3; simp at h3; omega
      · exact ⟨_, _, by rw [h1, HSq.out.1]⟩
    have T2 := Lib.hid (T1.out.below hE)
    have O2 := Lib.hid (O1.out.below hE)
    have HB2 := Lib.hid (HB1.out.trans (hE.below.mono HB1.out.size))
    have OA := Lib.hid o1
    have OB := Lib.hid o2
    have P2' := Lib.hid P2
    have hg3 := Lib.hid h3
    have hw1 : Hid (w1.heap.size = w.heap.size + 2) := HW1.out
    have T1' := Lib.hid T1.out
    have O1' := Lib.hid O1.out
    have HB1' := Lib.hid HB1.out
    have HE2 : Hid (Below w1.heap.size w1 w2) := hE.below
    clear T1 O1 hE o1 o2 P2 h3
    obtain ⟨tv, htv⟩ : ∃ tv, tv = tyW nm (.slice A1 sn c1) T (.slice A2 qn c2) (.slice none 0 0) := ⟨_, rfl⟩
    rw [← htv]
    have HTV := Lib.hid htv
    have tsz : 13 = tv.size := by rw [htv]; rfl
    have tin : (Tryd.prog.info? 47).map (·.size) = some tv.size := by rw [htv]; kernel_rfl
    have tone : tv.all (fun u => u.oneCell') = true := by rw [htv]; simp [tyW, Value.oneCell']
    clear htv
    have HTS := Lib.hid tsz
    clear tsz
    refine wpList_store_row rfl 47 _ _ rfl g3 tv rfl rfl 47 _ P2'.out tin HTS.out tone ?_
    obtain ⟨w3, hw3⟩ : ∃ W, W = w2.setRow g3 tv := ⟨_, rfl⟩
    rw [← hw3]
    have hb3 : Below w1.heap.size w2 w3 := by rw [hw3]; exact (Below.refl _ _).setRow' hg3.out _
    have P3 : Hid (Blk w3 g3 47 tv) := by show Blk _ _ _ _; rw [hw3]; exact P2'.out.setRow _
    have OA3 : Hid (OwnI w3 w1.heap.size (.slice A1 sn c1) sh) := by show OwnI _ _ _ _; rw [hw3]; exact OA.out.in_row P2'.out (by decide) _
    have OB3 : Hid (OwnI w3 w1.heap.size (.slice A2 qn c2) T.squares) := by show OwnI _ _ _ _; rw [hw3]; exact OB.out.in_row P2'.out (by decide) _
    have HE3 : Hid (Below w1.heap.size w1 w3) := HE2.out.trans hb3
    have t12 := ((T1'.out.below HE3.out).cell 12).trans q12
    clear hw3 hb3 OA OB P2' T2 O2 tone tin HE2
    go_wp2
    go_loopw [5, 24] (fun _ i wr => ∃ (k : Nat) (P : List (Int × Value)) (vs : Value), k ≤ gn ∧ i = .int .i64 k ∧ P.length = k ∧ Hid (Blk wr g3 47 (tyW nm (.slice A1 sn c1) T (.slice A2 qn c2) vs)) ∧ Hid (wr.ownsRow w1.heap.size 67 2 vs k (stCells P)) ∧ Hid (∀ j, j < k → (P.getD j (0, undef)).1 = Bell.ePow T.sets j ∧ OwnI wr w1.heap.size (P.getD j (0, undef)).2 ((T.sets.getD j (0, [])).2)) ∧ Hid (OwnI wr w1.heap.size (.slice A1 sn c1) sh) ∧ Hid (OwnI wr w1.heap.size (.slice A2 qn c2) T.squares) ∧ Hid (Below w1.heap.size w1 wr)) (fun _ i _ => gn - (intOf i).toNat)
    case atStart => exact ⟨0, [], .slice none 0 0, Nat.zero_le _, rfl, rfl, (by rw [← HTV.out]; exact P3.out), World.ownsRow_nil _ _ _ _, (fun j hj => by omega), OA3.out, OB3.out, HE3.out⟩
    case round =>
      clear OA3 OB3 HE3 P3 t12
      obtain ⟨k, P, vs, hk, rfl, hPk, hP3, hrow, heach, hA, hB, hbw⟩ := hrel
      have HB := Lib.hid (HB1'.out.trans (hbw.out.mono HB1'.out.size))
      by_cases hlt : k < gn
      · obtain ⟨ea, en, ec, a1, a2, a3⟩ := (HL.out.keep HB.out).2 k hlt
        have hen : 0 < en ∧ en ≤ 8 := by have h1 := HG.out.len (k := k) (by rw [HL.out.1]; exact hlt); rw [a3.1, HSq.out.1] at h1; omega
        obtain ⟨eb, eo, rfl, _⟩ := a3.2 hen.1
        obtain ⟨p, hp⟩ : ∃ p, p = Bell.ePow T.sets k := ⟨_, rfl⟩
        rw [← hp] at a1
        have HPP := Lib.hid hp
        have A3 := Lib.hid a3
        clear hp a3
        go_upto_region 5 with fail
        obtain ⟨w4, hw4⟩ : ∃ W, W = wr.alloc (.cells #[.int .i64 p, .slice (some ⟨eb, eo, none⟩) en ec] 83) := ⟨_, rfl⟩
        rw [← hw4]
        have S4 : Hid (Blk w4 wr.heap.size 83 #[.int .i64 p, .slice (some ⟨eb, eo, none⟩) en ec]) := by show Blk _ _ _ _; rw [hw4]; exact Blk.new _ _ _
        have hb4 : Below wr.heap.size wr w4 := by rw [hw4]; exact (Below.refl _ _).alloc (Nat.le_refl _) _
        obtain ⟨g5, hg5⟩ : ∃ x, x = wr.heap.size := ⟨_, rfl⟩
        rw [← hg5] at S4 ⊢
        have P4 := Lib.hid (hP3.out.below hb4)
        have A4 := Lib.hid (A3.out.keep hb4)
        have c12 : w4.cell? ⟨g3, 12, none⟩ = some vs := P4.out.cell 12
        have s0 : w4.cell? ⟨g5, 0, none⟩ = some (.int .i64 p) := S4.out.cell 0
        have s1 : w4.cell? ⟨g5, 1, none⟩ = some (.slice (some ⟨eb, eo, none⟩) en ec) := S4.out.cell 1
        have HB4 := Lib.hid hb4
        have HG5 := Lib.hid hg5
        have HW4 : Hid (w4.heap.size = wr.heap.size + 1) := by show _ = _; rw [hw4]; simp
        clear hw4 hg5 hb4
        have HB5 : Hid (w1.heap.size ≤ w4.heap.size) := by have h1 := hbw.out.size; show _ ≤ _; rw [HW4.out]; omega
        clear c12 s0 s1
        refine wp_region_grow 10 (by kernel_rfl) (by kernel_rfl) [GR.eq (.pointer (some ⟨g3, 12, none⟩)), GR.eq (vs), GR.eq (.pointer (some ⟨g5, 0, none⟩)), GR.eq (.int .i64 p), GR.bare, GR.eq (.pointer (some ⟨g5, 1, none⟩)), GR.eq (.slice (some ⟨eb, eo, none⟩) en ec), GR.ints w1.heap.size ((T.sets.getD k (0, [])).2), GR.set w1.heap.size p ((T.sets.getD k (0, [])).2), GR.one w1.heap.size p ((T.sets.getD k (0, [])).2)] 42 rfl (by kernel_rfl) ?_ ?_
        · refine ⟨?_, ?_, ?_, ?_, ?_, ?_, ?_, ?_, ?_, ?_, trivial⟩
          · intro a W hE hd ho
            have e3 : a.tmps[3]?.getD undef = .pointer (some ⟨g3, 0, none⟩) := ho 3 (by kernel_rfl)
            exact gs_same (v := .pointer (some ⟨g3, 12, none⟩)) (by go_simp) rfl
          · intro a W hE hd ho
            have e28 : a.tmps[28]?.getD undef = .pointer (some ⟨g3, 12, none⟩) := hd 0 28 (by kernel_rfl) (by kernel_rfl)
            have c12 : W.cell? ⟨g3, 12, none⟩ = some vs := (P4.out.below hE).cell 12
            exact gs_same (v := vs) (by go_simp) rfl
          · intro a W hE hd ho
            have e5 : a.tmps[5]?.getD undef = .pointer (some ⟨g5, 0, none⟩) := ho 5 (by kernel_rfl)
            exact gs_same (v := .pointer (some ⟨g5, 0, none⟩)) (by go_simp) rfl
          · intro a W hE hd ho
            have e30 : a.tmps[30]?.getD undef = .pointer (some ⟨g5, 0, none⟩) := hd 2 30 (by kernel_rfl) (by kernel_rfl)
            have s0 : W.cell? ⟨g5, 0, none⟩ = some (.int .i64 p) := (S4.out.below hE).cell 0
            exact gs_same (v := .int .i64 p) (by go_simp) rfl
          · intro a W hE hd ho
            refine gs_val (v := .slice (some ⟨W.heap.size, 0, none⟩) 0 0) (W' := W.alloc (.cells #[] 3)) (by go_simp) ((Below.refl _ _).alloc (Nat.le_refl _) _) ⟨_, rfl⟩
          · intro a W hE hd ho
            have e5 : a.tmps[5]?.getD undef = .pointer (some ⟨g5, 0, none⟩) := ho 5 (by kernel_rfl)
            exact gs_same (v := .pointer (some ⟨g5, 1, none⟩)) (by go_simp) rfl
          · intro a W hE hd ho
            have e33 : a.tmps[33]?.getD undef = .pointer (some ⟨g5, 1, none⟩) := hd 5 33 (by kernel_rfl) (by kernel_rfl)
            have s1 : W.cell? ⟨g5, 1, none⟩ = some (.slice (some ⟨eb, eo, none⟩) en ec) := (S4.out.below hE).cell 1
            exact gs_same (v := .slice (some ⟨eb, eo, none⟩) en ec) (by go_simp) rfl
          · intro a W hE hd ho
            have e34 : a.tmps[34]?.getD undef = .slice (some ⟨eb, eo, none⟩) en ec := hd 6 34 (by kernel_rfl) (by kernel_rfl)
            have es : ∃ g, a.tmps[32]?.getD undef = .slice (some ⟨g, 0, none⟩) 0 0 := hd 4 32 (by kernel_rfl) (by kernel_rfl)
            exact gs_copy (.tmp 32) (.tmp 34) rfl (by rw [eval_getD]; exact es) ((eval_getD _ _).trans e34) (A4.out.keep hE) (by omega) (by omega) (Nat.le_trans HB5.out hE.below.size)
          · intro a W hE hd ho
            have e31 : a.tmps[31]?.getD undef = .int .i64 p := hd 3 31 (by kernel_rfl) (by kernel_rfl)
            have o1 : OwnI W w1.heap.size (a.tmps[35]?.getD undef) ((T.sets.getD k (0, [])).2) := hd 7 35 (by kernel_rfl) (by kernel_rfl)
            obtain ⟨vE, hvE⟩ : ∃ v, v = a.tmps[35]?.getD undef := ⟨_, rfl⟩
            rw [← hvE] at o1
            have e35 := hvE.symm
            clear hvE
            obtain ⟨A5, c5, rfl⟩ : ∃ A c, vE = .slice A en c := by
              rcases o1.form with ⟨h1, h2⟩ | ⟨g9, c9, h1, _⟩
              · exfalso; have h3 := A4.out.1; rw [h2] at h3; simp at h3; omega
              · exact ⟨_, _, by rw [h1, A4.out.1]⟩
            exact gs_same (v := .agg #[.int .i64 p, .slice A5 en c5]) (by go_simp) ⟨A5, en, c5, rfl, o1⟩
          · intro a W hE hd ho
            obtain ⟨A5, n5, c5, e36, o1⟩ : ∃ A m c, a.tmps[36]?.getD undef = .agg #[.int .i64 p, .slice A m c] ∧ OwnI W w1.heap.size (.slice A m c) ((T.sets.getD k (0, [])).2) := hd 8 36 (by kernel_rfl) (by kernel_rfl)
            refine gs_val (v := .slice (some ⟨W.heap.size, 0, none⟩) 1 1) (W' := W.alloc (.cells #[.int .i64 p, .slice A5 n5 c5] 67)) (by go_simp) ((Below.refl _ _).alloc (Nat.le_refl _) _) ⟨W.heap.size, A5, n5, c5, rfl, Blk.new _ _ _, o1.alloc _⟩
        · intro vv w5 hE hR
          have y0 : vv 0 = .pointer (some ⟨g3, 12, none⟩) := hR 0 (by omega)
          have y1 : vv 1 = vs := hR 1 (by omega)
          have y2 : vv 2 = .pointer (some ⟨g5, 0, none⟩) := hR 2 (by omega)
          have y3 : vv 3 = .int .i64 p := hR 3 (by omega)
          obtain ⟨b4, y4⟩ : ∃ g, vv 4 = .slice (some ⟨g, 0, none⟩) 0 0 := hR 4 (by omega)
          have y5 : vv 5 = .pointer (some ⟨g5, 1, none⟩) := hR 5 (by omega)
          have y6 : vv 6 = .slice (some ⟨eb, eo, none⟩) en ec := hR 6 (by omega)
          obtain ⟨x7, y7⟩ : ∃ v, vv 7 = v := ⟨_, rfl⟩
          obtain ⟨x8, y8⟩ : ∃ v, vv 8 = v := ⟨_, rfl⟩
          obtain ⟨gN, A5, n5, c5, y9, BN, o5⟩ : ∃ g A m c, vv 9 = .slice (some ⟨g, 0, none⟩) 1 1 ∧ Blk w5 g 67 #[.int .i64 p, .slice A m c] ∧ OwnI w5 w1.heap.size (.slice A m c) ((T.sets.getD k (0, [])).2) := hR 9 (by omega)
          simp only [List.range, List.range.loop, List.foldl_cons, List.foldl_nil, y0, y1, y2, y3, y4, y5, y6, y7, y8, y9]
          simp only [dstAt, List.getElem?_toArray, List.getElem?_cons_zero, List.getElem?_cons_succ, Option.bind_some, Act.put, List.setIfInBounds_toArray, List.set_cons_zero, List.set_cons_succ, List.drop_succ_cons, List.drop_zero]
          clear y0 y1 y2 y3 y4 y5 y6 y7 y8 y9 hR
          have hE5 : Ext wr w5 := HB4.out.ext hE
          have row5 := row_ext hrow.out hE5
          have P5 := hP3.out.below hE5
          have hs5 : w1.heap.size ≤ w5.heap.size := Nat.le_trans HB5.out hE.below.size
          have HE5 := Lib.hid hE5
          have HO5 := Lib.hid o5
          have HBN : Hid (∀ (j : Nat) (u : Value), ([.int .i64 p, .slice A5 n5 c5] : List Value)[j]? = some u → w5.cell? ((⟨gN, 0, none⟩ : Addr).add j) = some u) := fun j u hu => by
            rw [addAddr, Nat.zero_add, BN.cell j]
            simpa using hu
          obtain ⟨iS, hiS, hzS, hsS, hbS⟩ := info_parts infoSet
          clear hE hE5 o5 BN
          refine wpList_append_own _ rfl _ _ 45 rfl w1.heap.size 67 iS (.agg #[.int .i64 0, .slice none 0 0]) 2 32 Tryd.underlying45 hiS hzS hsS hbS rfl (by decide) vs k (stCells P) rfl row5 ⟨gN, 0, none⟩ 1 1 [.int .i64 p, .slice A5 n5 c5] rfl rfl HBN.out (by simp [Value.oneCell']) (by unfold maxLen; omega) (by omega) hs5 ?_
          intro v' w6 hown' hgrow _
          obtain ⟨g6, c6, rfl⟩ : ∃ g c, v' = .slice (some ⟨g, 0, none⟩) (k + 1) c := by
            rcases hown'.2 with ⟨_, h0⟩ | ⟨g, cap, cur, h1, _⟩
            · omega
            · exact ⟨g, cap, h1⟩
          have P6 := row_blk row5 hgrow P5 (by decide)
          have ROW6 := Lib.hid hown'
          have A6 : Hid (OwnI w6 w1.heap.size (.slice A1 sn c1) sh) := row_row row5 hgrow (hA.out.below HE5.out) (by decide)
          have B6 : Hid (OwnI w6 w1.heap.size (.slice A2 qn c2) T.squares) := row_row row5 hgrow (hB.out.below HE5.out) (by decide)
          have E6 : Hid (∀ j, j < k → (P.getD j (0, undef)).1 = Bell.ePow T.sets j ∧ OwnI w6 w1.heap.size (P.getD j (0, undef)).2 ((T.sets.getD j (0, [])).2)) := fun j hj => ⟨(heach.out j hj).1, row_row row5 hgrow ((heach.out j hj).2.below HE5.out) (by decide)⟩
          have V6 : Hid (OwnI w6 w1.heap.size (.slice A5 n5 c5) ((T.sets.getD k (0, [])).2)) := row_row row5 hgrow HO5.out (by decide)
          have HB6 : Hid (Below w1.heap.size w1 w6) := Below.grown (hbw.out.trans (HE5.out.below.mono hbw.out.size)) hgrow hs5 (fun j hj => (row5.lt j hj).1)
          have hsz6 : w1.heap.size ≤ w6.heap.size := HB6.out.size
          have c12 : w6.cell? ⟨g3, 12, none⟩ = some vs := P6.cell 12
          have f12 : w6.frozen? ⟨g3, 12, none⟩ = false := P6.frozen 12
          have P6' := Lib.hid P6
          clear hown' hgrow row5 P5 P6 hA hB heach hrow hP3 hbw
          simp only [Act.put, List.setIfInBounds_toArray, List.set_cons_zero, List.set_cons_succ]
          go_wp2
          go_roundw
          case rel =>
            refine ⟨k + 1, P ++ [(p, .slice A5 n5 c5)], .slice (some ⟨g6, 0, none⟩) (k + 1) c6, by omega, by go_num, by simp [hPk], P6'.out.set_ 12 _, ?_, fun j hj => ?_, row_cell A6.out P6'.out (by decide) 12 _, row_cell B6.out P6'.out (by decide) 12 _, HB6.out.setCell hg3.out _⟩
            · rw [stCells_snoc]
              exact row_cell ROW6.out P6'.out (by decide) 12 _
            · by_cases hjk : j < k
              · have e : (P ++ [(p, Value.slice A5 n5 c5)]).getD j (0, undef) = P.getD j (0, undef) := by
                  simp [List.getD_eq_getElem?_getD, List.getElem?_append_left (show j < P.length by omega)]
                rw [e]
                exact ⟨(E6.out j hjk).1, row_cell (E6.out j hjk).2 P6'.out (by decide) 12 _⟩
              · obtain rfl : j = k := by omega
                have e : (P ++ [(p, Value.slice A5 n5 c5)]).getD j (0, undef) = (p, Value.slice A5 n5 c5) := by
                  simp [List.getD_eq_getElem?_getD, ← hPk]
                rw [e]
                exact ⟨HPP.out, row_cell V6.out P6'.out (by decide) 12 _⟩
          case measure => simp [intOf]; omega
      · obtain rfl : k = gn := by omega
        clear hlt hk
        have OW := Lib.hid (O1'.out.below hbw.out)
        obtain ⟨tw, htw⟩ : ∃ tw, tw = tyW nm (.slice A1 sn c1) T (.slice A2 qn c2) vs := ⟨_, rfl⟩
        rw [← htw] at hP3
        obtain ⟨gS, cS, rfl⟩ : ∃ g c, vs = .slice (some ⟨g, 0, none⟩) k c := by
          rcases hrow.out.2 with ⟨_, h0⟩ | ⟨g, cap, cur, h1, _⟩
          · omega
          · exact ⟨g, cap, h1⟩
        have HTW := Lib.hid htw
        have HTS : Hid (13 = tw.size) := by show _ = _; rw [htw]; rfl
        have tin : Hid ((Tryd.prog.info? 47).map (·.size) = some tw.size) := by show _ = _; rw [htw]; kernel_rfl
        have tone : Hid (tw.all (fun u => u.oneCell') = true) := by show _ = _; rw [htw]; simp [tyW, Value.oneCell']
        clear htw
        go_wp2_with (first | (refine wpList_load_row rfl 47 _ rfl g3 rfl 47 tw (0, 0) _ hP3.out Tryd.underlying47 rfl tin.out ?_) | (refine wpList_store_row rfl 47 _ _ rfl g2 tw rfl rfl 47 _ OW.out tin.out HTS.out tone.out ?_))
        obtain ⟨wf, hwf⟩ : ∃ W, W = wr.setRow g2 tw := ⟨_, rfl⟩
        rw [← hwf]
        have RF : Blk wf g2 47 tw := by rw [hwf]; exact OW.out.setRow _
        have rowF : wf.ownsRow w1.heap.size 67 2 (.slice (some ⟨gS, 0, none⟩) k cS) k (stCells P) := by rw [hwf]; exact row_in_row hrow.out OW.out (by decide) _
        have AF : OwnI wf w1.heap.size (.slice A1 sn c1) sh := by rw [hwf]; exact row_in_row hA.out OW.out (by decide) _
        have BF : OwnI wf w1.heap.size (.slice A2 qn c2) T.squares := by rw [hwf]; exact row_in_row hB.out OW.out (by decide) _
        have EF : ∀ j, j < k → (P.getD j (0, undef)).1 = Bell.ePow T.sets j ∧ OwnI wf w1.heap.size (P.getD j (0, undef)).2 ((T.sets.getD j (0, [])).2) := fun j hj => ⟨(heach.out j hj).1, by rw [hwf]; exact row_in_row (heach.out j hj).2 OW.out (by decide) _⟩
        have BW : Below w.heap.size w wf := by rw [hwf]; exact HB.out.setRow' (by have := HG2.out; omega) _
        have r0 : wf.cell? ⟨g2, 0, none⟩ = some (.string nm) := (RF.cell 0).trans (by rw [HTW.out]; rfl)
        have r1 : wf.cell? ⟨g2, 1, none⟩ = some (.slice A1 sn c1) := (RF.cell 1).trans (by rw [HTW.out]; rfl)
        have r2 : wf.cell? ⟨g2, 2, none⟩ = some (.int .i64 (T.direct.getD 0 0)) := (RF.cell 2).trans (by rw [HTW.out]; rfl)
        have r3 : wf.cell? ⟨g2, 3, none⟩ = some (.int .i64 (T.direct.getD 1 0)) := (RF.cell 3).trans (by rw [HTW.out]; rfl)
        have r4 : wf.cell? ⟨g2, 4, none⟩ = some (.int .i64 (T.direct.getD 2 0)) := (RF.cell 4).trans (by rw [HTW.out]; rfl)
        have r5 : wf.cell? ⟨g2, 5, none⟩ = some (.int .i64 (T.direct.getD 3 0)) := (RF.cell 5).trans (by rw [HTW.out]; rfl)
        have r6 : wf.cell? ⟨g2, 6, none⟩ = some (.int .i64 (T.direct.getD 4 0)) := (RF.cell 6).trans (by rw [HTW.out]; rfl)
        have r7 : wf.cell? ⟨g2, 7, none⟩ = some (.int .i64 (T.direct.getD 5 0)) := (RF.cell 7).trans (by rw [HTW.out]; rfl)
        have r8 : wf.cell? ⟨g2, 8, none⟩ = some (.int .i64 (T.direct.getD 6 0)) := (RF.cell 8).trans (by rw [HTW.out]; rfl)
        have r9 : wf.cell? ⟨g2, 9, none⟩ = some (.int .i64 (T.direct.getD 7 0)) := (RF.cell 9).trans (by rw [HTW.out]; rfl)
        have r10 : wf.cell? ⟨g2, 10, none⟩ = some (.int .i64 T.side) := (RF.cell 10).trans (by rw [HTW.out]; rfl)
        have r11 : wf.cell? ⟨g2, 11, none⟩ = some (.slice A2 qn c2) := (RF.cell 11).trans (by rw [HTW.out]; rfl)
        have r12 : wf.cell? ⟨g2, 12, none⟩ = some (.slice (some ⟨gS, 0, none⟩) k cS) := (RF.cell 12).trans (by rw [HTW.out]; rfl)
        have EQ : Value.agg #[.string nm, .slice A1 sn c1, .int .i64 (T.direct.getD 0 0), .int .i64 (T.direct.getD 1 0), .int .i64 (T.direct.getD 2 0), .int .i64 (T.direct.getD 3 0), .int .i64 (T.direct.getD 4 0), .int .i64 (T.direct.getD 5 0), .int .i64 (T.direct.getD 6 0), .int .i64 (T.direct.getD 7 0), .int .i64 T.side, .slice A2 qn c2, .slice (some ⟨gS, 0, none⟩) k cS] = .agg tw := by rw [HTW.out]; rfl
        (try simp only [Exit.inBlock, Exit.then])
        refine bodyPost_ret (v := .agg #[.string nm, .slice A1 sn c1, .int .i64 (T.direct.getD 0 0), .int .i64 (T.direct.getD 1 0), .int .i64 (T.direct.getD 2 0), .int .i64 (T.direct.getD 3 0), .int .i64 (T.direct.getD 4 0), .int .i64 (T.direct.getD 5 0), .int .i64 (T.direct.getD 6 0), .int .i64 (T.direct.getD 7 0), .int .i64 T.side, .slice A2 qn c2, .slice (some ⟨gS, 0, none⟩) k cS]) (by simp [results, Tryd.results8, go_sem, asAddr, r0, r1, r2, r3, r4, r5, r6, r7, r8, r9, r10, r11, r12]) rfl ?_
        rw [EQ]
        obtain ⟨⟨gq, rfl⟩, m1, m2⟩ := BF.room hqn.1
        refine ⟨tw, A1, c1, gq, 0, c2, gS, 0, cS, rfl, ⟨⟨HTW.out, AF.at_, BF.at_, HL.out.1, fun j hj => ?_⟩, HG.out, hnm, by omega, m1, m2⟩, BW⟩
        obtain ⟨e1, e2⟩ := EF j hj
        obtain ⟨A, m, c, hv, hz⟩ := e2.slice
        have p0 := (stCells_at P j (by omega)).1
        have p1 := (stCells_at P j (by omega)).2
        have l2 := stCells_len P
        refine ⟨A, m, c, ?_, ?_, hz⟩
        · rw [Nat.zero_add, World.ownsRow.cellAt rowF (j * 2) (by omega), p0, e1]
        · rw [Nat.zero_add, World.ownsRow.cellAt rowF (j * 2 + 1) (by omega), p1, hv]
end Go.Proofs.YtnbionhahifacaaDoor
