/- Texts Qb Iv of the proof. -/
import Derived.Test.YtmafmebcgmegeaaGreatDoorW48
import Derived.Test.YtmafmebcgmegeaaGreatDoorW43
import Derived.ArgAppend
import Derived.Test.YtmafmebcgmegeaaGreatDoorW17
import Derived.Test.YtmafmebcgmegeaaGreatDoorW23
import Derived.Test.YtmafmebcgmegeaaGreatDoorW4
import Derived.Test.YtmafmebcgmegeaaGreatDoorW24
namespace Go.Proofs.YtmafmebcgmegeaaGreatDoor
open Go.RowKit Go.Sort
def GR.row (n : Nat) (T : TypeId) (cs : Array Value) : GR := ⟨fun v W => ∃ g, v = .slice (some ⟨g, 0, none⟩) n n ∧ Blk W g T cs, fun ⟨g, e, h⟩ hE => ⟨g, e, h.below hE⟩⟩
theorem refSquare_st (x : Int) (w : World) : Calls Tryz.prog 23 #[.int .i64 x] w fun e w' => e = .returned (.int .i64 (withinE x 0 100000000000)) ∧ w' = w := by
  go_enter Tryz.func23, Tryz.ntmps23
  go_wp2_with fail
  refine (refCheckRange_st _ _ _ _).mono ?_
  rintro e w' ⟨rfl, rfl⟩
  go_wp2
  go_ret
  exact ⟨rfl, rfl⟩
set_option maxHeartbeats 400000 in
set_option maxRecDepth 100000 in
theorem refDirection_any (x y : Int) (w : World) :
    Calls Tryz.prog 24 #[.agg #[.int .i64 x, .int .i64 y]] w fun e w' => e = .returned (.int .i64 (dirE x y)) ∧ Below w.heap.size w w' := by
  go_enter Tryz.func24, Tryz.ntmps24
  go_wp2_with fail
  refine wp_region_still_tail 6 (by kernel_rfl) (by kernel_rfl) ?_
  simp only [List.take_succ_cons, List.take_zero, List.drop_succ_cons, List.drop_zero]
  change wpStill _ _ (World.drew _) _ _ _
  repeat still_step
  still_call (refCheckRange_st _ _ _ _)
  repeat still_step
  still_call (refCheckRange_st _ _ _ _)
  repeat still_step
  refine wpStill_nil ?_
  change wpList _ _ _ _ _ (World.drew _)
  go_wp2_with fail
  refine (refFirst2 _ _ (withinE x (-200000) 200000) (withinE y (-200000) 200000) _ (by go_simp) (by go_simp)).mono ?_
  rintro e w1 ⟨rfl, rfl⟩
  go_wp2
  go_ret
  exact ⟨rfl, (((Below.refl _ _).alloc (Nat.le_refl _) _).drew).alloc (by simp) _⟩
def stE (x y z u v p : Int) : Int := firstE [placeE x y z, dirE u v, withinE p 1 100]
theorem stE_zero {x y z u v p : Int} (h : stE x y z u v p = 0) : placeE x y z = 0 ∧ dirE u v = 0 ∧ withinE p 1 100 = 0 := firstE3_zero h
theorem dirE_zero {x y : Int} (h : dirE x y = 0) : (-200000 ≤ x ∧ x ≤ 200000) ∧ -200000 ≤ y ∧ y ≤ 200000 := by
  obtain ⟨h1, h2⟩ := firstE2_zero h
  exact ⟨withinE_zero h1, withinE_zero h2⟩
set_option maxHeartbeats 400000 in
set_option maxRecDepth 100000 in
theorem refState_any (x y z u v p : Int) (w : World) :
    Calls Tryz.prog 25 #[.agg #[.int .i64 x, .int .i64 y, .int .i64 z, .int .i64 u, .int .i64 v, .int .i64 p]] w fun e w' => e = .returned (.int .i64 (stE x y z u v p)) ∧ Below w.heap.size w w' := by
  go_enter Tryz.func25, Tryz.ntmps25
  go_upto_region 1 with fail
  obtain ⟨w1, hw1⟩ : ∃ W, W = (w.alloc (.cells #[.int .i64 x, .int .i64 y, .int .i64 z, .int .i64 u, .int .i64 v, .int .i64 p] 32)) := ⟨_, rfl⟩
  rw [← hw1]
  have S : Hid (Blk w1 (w.heap.size) 32 #[.int .i64 x, .int .i64 y, .int .i64 z, .int .i64 u, .int .i64 v, .int .i64 p]) := by show Blk _ _ _ _; rw [hw1]; exact Blk.new _ _ _
  have hb : Below w.heap.size w w1 := by rw [hw1]; exact ((Below.refl _ _).alloc (Nat.le_refl _) _)
  obtain ⟨g, hg⟩ : ∃ g, g = w.heap.size := ⟨_, rfl⟩
  have HGw1 : Hid (g = w.heap.size) := hg
  rw [← hg] at S
  try rw [← hg]
  clear hw1 hg
  have HB := Lib.hid hb
  clear hb
  refine wp_region_allN 12 rfl (by kernel_rfl) (by kernel_rfl) [GR.eq (.pointer (some ⟨g, 0, none⟩)), GR.eq (.agg #[.int .i64 x, .int .i64 y, .int .i64 z]), GR.eq (.int .i64 (placeE x y z)), GR.eq (.pointer (some ⟨g, 3, none⟩)), GR.eq (.agg #[.int .i64 u, .int .i64 v]), GR.eq (.int .i64 (dirE u v)), GR.eq (.pointer (some ⟨g, 5, none⟩)), GR.eq (.int .i64 p), GR.eq (.int .i64 (withinE p 1 100)), GR.row 3 3 #[.int .i64 (placeE x y z), .int .i64 (dirE u v), .int .i64 (withinE p 1 100)], GR.eq (.int .i64 (stE x y z u v p)), GR.eq (.int .i64 (stE x y z u v p))] 14 rfl (by kernel_rfl) ?_ ?_
  · refine ⟨?_, ?_, ?_, ?_, ?_, ?_, ?_, ?_, ?_, ?_, ?_, ?_, trivial⟩
    · intro a W hE hd ho
      have e1 : a.tmps[1]?.getD undef = .pointer (some ⟨g, 0, none⟩) := ho 1 (by kernel_rfl)
      exact gs_same (v := .pointer (some ⟨g, 0, none⟩)) (by go_simp) rfl
    · intro a W hE hd ho
      have e3 : a.tmps[3]?.getD undef = .pointer (some ⟨g, 0, none⟩) := hd 0 3 (by kernel_rfl) (by kernel_rfl)
      have c0 := (S.out.below hE).cell 0
      have c1 := (S.out.below hE).cell 1
      have c2 := (S.out.below hE).cell 2
      simp only [List.getElem?_toArray, List.getElem?_cons_zero, List.getElem?_cons_succ] at c0 c1 c2
      exact gs_same (v := .agg #[.int .i64 x, .int .i64 y, .int .i64 z]) (by go_simp) rfl
    · intro a W hE hd ho
      have e4 : a.tmps[4]?.getD undef = .agg #[.int .i64 x, .int .i64 y, .int .i64 z] := hd 1 4 (by kernel_rfl) (by kernel_rfl)
      refine gs_call (f := 26) (args := #[.agg #[.int .i64 x, .int .i64 y, .int .i64 z]]) (by go_simp) ?_
      refine (refPlace_any x y z W).mono ?_
      rintro e w' ⟨rfl, hb⟩
      exact ⟨_, rfl, hb, rfl⟩
    · intro a W hE hd ho
      have e1 : a.tmps[1]?.getD undef = .pointer (some ⟨g, 0, none⟩) := ho 1 (by kernel_rfl)
      exact gs_same (v := .pointer (some ⟨g, 3, none⟩)) (by go_simp) rfl
    · intro a W hE hd ho
      have e6 : a.tmps[6]?.getD undef = .pointer (some ⟨g, 3, none⟩) := hd 3 6 (by kernel_rfl) (by kernel_rfl)
      have c3 := (S.out.below hE).cell 3
      have c4 := (S.out.below hE).cell 4
      simp only [List.getElem?_toArray, List.getElem?_cons_zero, List.getElem?_cons_succ] at c3 c4
      exact gs_same (v := .agg #[.int .i64 u, .int .i64 v]) (by go_simp) rfl
    · intro a W hE hd ho
      have e7 : a.tmps[7]?.getD undef = .agg #[.int .i64 u, .int .i64 v] := hd 4 7 (by kernel_rfl) (by kernel_rfl)
      refine gs_call (f := 24) (args := #[.agg #[.int .i64 u, .int .i64 v]]) (by go_simp) ?_
      refine (refDirection_any u v W).mono ?_
      rintro e w' ⟨rfl, hb⟩
      exact ⟨_, rfl, hb, rfl⟩
    · intro a W hE hd ho
      have e1 : a.tmps[1]?.getD undef = .pointer (some ⟨g, 0, none⟩) := ho 1 (by kernel_rfl)
      exact gs_same (v := .pointer (some ⟨g, 5, none⟩)) (by go_simp) rfl
    · intro a W hE hd ho
      have e9 : a.tmps[9]?.getD undef = .pointer (some ⟨g, 5, none⟩) := hd 6 9 (by kernel_rfl) (by kernel_rfl)
      have c5 := (S.out.below hE).cell 5
      simp only [List.getElem?_toArray, List.getElem?_cons_zero, List.getElem?_cons_succ] at c5
      exact gs_same (v := .int .i64 p) (by go_simp) rfl
    · intro a W hE hd ho
      have e10 : a.tmps[10]?.getD undef = .int .i64 p := hd 7 10 (by kernel_rfl) (by kernel_rfl)
      refine gs_call (f := 22) (args := #[.int .i64 p]) (by go_simp) ?_
      refine (refPower_st p W).mono ?_
      rintro e w' ⟨rfl, rfl⟩
      exact ⟨_, rfl, Ext.refl _, rfl⟩
    · intro a W hE hd ho
      have e5 : a.tmps[5]?.getD undef = .int .i64 (placeE x y z) := hd 2 5 (by kernel_rfl) (by kernel_rfl)
      have e8 : a.tmps[8]?.getD undef = .int .i64 (dirE u v) := hd 5 8 (by kernel_rfl) (by kernel_rfl)
      have e11 : a.tmps[11]?.getD undef = .int .i64 (withinE p 1 100) := hd 8 11 (by kernel_rfl) (by kernel_rfl)
      exact gs_val (v := .slice (some ⟨W.heap.size, 0, none⟩) 3 3) (W' := W.alloc (.cells #[.int .i64 (placeE x y z), .int .i64 (dirE u v), .int .i64 (withinE p 1 100)] 3)) (by go_simp) ((Below.refl _ _).alloc (Nat.le_refl _) _) ⟨_, rfl, Blk.new _ _ _⟩
    · intro a W hE hd ho
      obtain ⟨gr, e12, hr⟩ : ∃ g, a.tmps[12]?.getD undef = .slice (some ⟨g, 0, none⟩) 3 3 ∧ Blk W g 3 #[.int .i64 (placeE x y z), .int .i64 (dirE u v), .int .i64 (withinE p 1 100)] := hd 9 12 (by kernel_rfl) (by kernel_rfl)
      refine gs_call (f := 99) (args := #[.slice (some ⟨gr, 0, none⟩) 3 3]) (by go_simp) ?_
      refine (refFirst3 _ _ (placeE x y z) (dirE u v) (withinE p 1 100) _ (hr.cell 0) (hr.cell 1) (hr.cell 2)).mono ?_
      rintro e w' ⟨rfl, rfl⟩
      exact ⟨_, rfl, Ext.refl _, rfl⟩
    · intro a W hE hd ho
      have e13 : a.tmps[13]?.getD undef = .int .i64 (stE x y z u v p) := hd 10 13 (by kernel_rfl) (by kernel_rfl)
      exact gs_same (v := .int .i64 (stE x y z u v p)) (by go_simp) rfl
  intro vs w2 hE hR
  have y0 : vs 0 = .pointer (some ⟨g, 0, none⟩) := hR 0 (by omega)
  have y1 : vs 1 = .agg #[.int .i64 x, .int .i64 y, .int .i64 z] := hR 1 (by omega)
  have y2 : vs 2 = .int .i64 (placeE x y z) := hR 2 (by omega)
  have y3 : vs 3 = .pointer (some ⟨g, 3, none⟩) := hR 3 (by omega)
  have y4 : vs 4 = .agg #[.int .i64 u, .int .i64 v] := hR 4 (by omega)
  have y5 : vs 5 = .int .i64 (dirE u v) := hR 5 (by omega)
  have y6 : vs 6 = .pointer (some ⟨g, 5, none⟩) := hR 6 (by omega)
  have y7 : vs 7 = .int .i64 p := hR 7 (by omega)
  have y8 : vs 8 = .int .i64 (withinE p 1 100) := hR 8 (by omega)
  obtain ⟨v9, y9⟩ : ∃ v, vs 9 = v := ⟨_, rfl⟩
  have y10 : vs 10 = .int .i64 (stE x y z u v p) := hR 10 (by omega)
  have y11 : vs 11 = .int .i64 (stE x y z u v p) := hR 11 (by omega)
  simp only [List.range, List.range.loop, List.foldl_cons, List.foldl_nil, y0, y1, y2, y3, y4, y5, y6, y7, y8, y9, y10, y11, List.drop_succ_cons, List.drop_zero]
  simp only [dstAt, List.getElem?_toArray, List.getElem?_cons_zero, List.getElem?_cons_succ, Option.bind_some, Act.put, List.setIfInBounds_toArray, List.set_cons_zero, List.set_cons_succ]
  clear y0 y1 y2 y3 y4 y5 y6 y7 y8 y9 y10 y11 hR
  have HE := Lib.hid (HB.out.trans (hE.mono HB.out.size))
  clear hE S HB
  go_wp2
  go_ret
  exact ⟨rfl, HE.out⟩
end Go.Proofs.YtmafmebcgmegeaaGreatDoor

namespace Go.Proofs.YtmafmebcgmegeaaGreatDoor
open Go.RowKit Go.Sort
/-- A slice of integers of one's own, as memory grows. -/
def GR.ints (B : Nat) (zs : List Int) : GR := ⟨fun v W => OwnI W B v zs, fun h hE => h.below hE⟩
/-- A slice with no room. -/
def GR.bare : GR := ⟨fun v _ => ∃ g, v = .slice (some ⟨g, 0, none⟩) 0 0, fun h _ => h⟩
/-- The cells of a type with lists of one's own. -/
def tyW (nm : ByteArray) (va : Value) (T : Bell.Ty) (vq vs : Value) : Array Value := #[.string nm, va, .int .i64 (T.direct.getD 0 0), .int .i64 (T.direct.getD 1 0), .int .i64 (T.direct.getD 2 0), .int .i64 (T.direct.getD 3 0), .int .i64 (T.direct.getD 4 0), .int .i64 (T.direct.getD 5 0), .int .i64 (T.direct.getD 6 0), .int .i64 (T.direct.getD 7 0), .int .i64 T.side, vq, vs]
def GR.ty (B : Nat) (nm : ByteArray) (sh : List Int) (T : Bell.Ty) : GR :=
  ⟨fun v W => ∃ va vq, v = .agg (tyW nm va T vq (.slice none 0 0)) ∧ OwnI W B va sh ∧ OwnI W B vq T.squares, fun ⟨va, vq, e, h1, h2⟩ hE => ⟨va, vq, e, h1.below hE, h2.below hE⟩⟩
/-- A setting with its own list; a slice of it alone. -/
def GR.set (B : Nat) (p : Int) (zs : List Int) : GR := ⟨fun v W => ∃ A m c, v = .agg #[.int .i64 p, .slice A m c] ∧ OwnI W B (.slice A m c) zs, fun ⟨A, m, c, e, h⟩ hE => ⟨A, m, c, e, h.below hE⟩⟩
def GR.one (B : Nat) (p : Int) (zs : List Int) : GR := ⟨fun v W => ∃ g A m c, v = .slice (some ⟨g, 0, none⟩) 1 1 ∧ Blk W g 172 #[.int .i64 p, .slice A m c] ∧ OwnI W B (.slice A m c) zs, fun ⟨g, A, m, c, e, h1, h2⟩ hE => ⟨g, A, m, c, e, h1.below hE, h2.below hE⟩⟩
/-- A new block. -/
def GR.new (B : Nat) (t : TypeId) (cs : Array Value) : GR := ⟨fun v W => ∃ g, v = .pointer (some ⟨g, 0, none⟩) ∧ B ≤ g ∧ Blk W g t cs, fun ⟨g, e, h1, h2⟩ hE => ⟨g, e, h1, h2.below hE⟩⟩
theorem IntsAt.cellsAt {w : World} {g o n : Nat} {zs : List Int} (h : IntsAt w (some ⟨g, o, none⟩) n zs) : ∀ j u, (zs.map (Value.int .i64))[j]? = some u → w.cell? ((⟨g, o, none⟩ : Addr).add j) = some u := fun j u hu => by
  have hj : j < n := by
    have := (List.getElem?_eq_some_iff.1 hu).1
    rw [List.length_map, h.1] at this
    exact this
  obtain ⟨b, off, he, hh⟩ := h.2 (by omega)
  cases he
  rw [addAddr, hh j hj, ← hu]
  simp [List.getD_eq_getElem?_getD, List.getElem?_eq_getElem (show j < zs.length by rw [h.1]; exact hj)]
/-- The cells of settings. -/
def stCells (P : List (Int × Value)) : List Value := P.flatMap fun p => [.int .i64 p.1, p.2]
theorem stCells_len (P : List (Int × Value)) : (stCells P).length = P.length * 2 := by
  induction P with
  | nil => rfl
  | cons p l ih => simp only [stCells, List.flatMap_cons, List.length_append, List.length_cons, List.length_nil] at *; omega
theorem stCells_snoc (P : List (Int × Value)) (p : Int × Value) : stCells (P ++ [p]) = stCells P ++ [.int .i64 p.1, p.2] := by simp [stCells]
theorem stCells_at (P : List (Int × Value)) (i : Nat) (hi : i < P.length) : (stCells P)[i * 2]? = some (.int .i64 (P.getD i (0, undef)).1) ∧ (stCells P)[i * 2 + 1]? = some (P.getD i (0, undef)).2 := by
  induction P generalizing i with
  | nil => simp at hi
  | cons p l ih =>
    cases i with
    | zero => exact ⟨rfl, rfl⟩
    | succ i =>
      have := ih i (by simpa using hi)
      have e : stCells (p :: l) = Value.int .i64 p.1 :: p.2 :: stCells l := rfl
      rw [e, show (i + 1) * 2 = i * 2 + 1 + 1 by omega]
      simpa using this
theorem infoSet : (Tryz.prog.info? 172).map (fun i => (i.zero, i.size, i.bytes)) = some (some (.agg #[.int .i64 0, .slice none 0 0]), 2, 32) := by kernel_rfl
/-- Rows of different types lie in different blocks. -/
theorem row_ext {W W' : World} {base : Nat} {e : TypeId} {size n : Nat} {v : Value} {xs : List Value} (h : W.ownsRow base e size v n xs) (hE : Ext W W') : W'.ownsRow base e size v n xs := by
  refine World.ownsRow.kept h (row := none) ⟨hE.os, hE.tape, hE.output, hE.size, fun k hk _ => hE.block k hk⟩ ?_
  cases hv : v.ownBlock with
  | none => exact .inl rfl
  | some b => exact .inr (by simp)
theorem row_type {W : World} {base : Nat} {e : TypeId} {size n : Nat} {v : Value} {xs : List Value} (h : W.ownsRow base e size v n xs) {b : Nat} (hb : some b = v.ownBlock) : ∃ cur, W.heap[b]? = some (.cells cur e (0, 0)) := by
  rcases h.2 with ⟨rfl, _⟩ | ⟨g, cap, cur, rfl, _, h2, _⟩
  · simp [Value.ownBlock] at hb
  · obtain rfl : b = g := by simpa [Value.ownBlock] using hb
    exact ⟨cur, h2⟩
theorem row_blk {W W' : World} {base : Nat} {e : TypeId} {size n : Nat} {v : Value} {xs : List Value} (h : W.ownsRow base e size v n xs) (hg : W.grownBy W' v.ownBlock) {b : Nat} {t : TypeId} {cs : Array Value} (hb : Blk W b t cs) (ht : t ≠ e) : Blk W' b t cs := by
  refine (hg.block b (lt_of_block hb) (fun ej => ?_)).trans hb
  obtain ⟨cur, h2⟩ := row_type h ej
  have := (show W.heap[b]? = _ from hb).symm.trans h2
  simp only [Option.some.injEq, Obj.cells.injEq] at this
  exact ht this.2.1
theorem row_row {W W' : World} {base base' : Nat} {e t : TypeId} {size size' n m : Nat} {v u : Value} {xs ys : List Value} (h : W.ownsRow base e size v n xs) (hg : W.grownBy W' v.ownBlock) (ho : W.ownsRow base' t size' u m ys) (ht : t ≠ e) : W'.ownsRow base' t size' u m ys := by
  refine World.ownsRow.kept ho hg ?_
  cases hu : u.ownBlock with
  | none => exact .inl rfl
  | some b =>
    refine .inr fun ej => ?_
    obtain ⟨cur, h2⟩ := row_type h ej
    obtain ⟨cur', h3⟩ := row_type ho hu.symm
    have := h3.symm.trans h2
    simp only [Option.some.injEq, Obj.cells.injEq] at this
    exact ht this.2.1
theorem row_cell {W : World} {base : Nat} {t e : TypeId} {size n : Nat} {v : Value} {xs : List Value} (h : W.ownsRow base t size v n xs) {b : Nat} {cs : Array Value} (hb : Blk W b e cs) (ht : t ≠ e) (i : Nat) (u : Value) : (W.setCell ⟨b, i, none⟩ u).ownsRow base t size v n xs := by
  rcases h with ⟨h1, h2 | ⟨g, cap, cur, hv, hg, hc, r⟩⟩
  · exact ⟨h1, .inl h2⟩
  · refine ⟨h1, .inr ⟨g, cap, cur, hv, hg, ?_, r⟩⟩
    have hne : g ≠ b := fun e => by
      subst e
      have := hc.symm.trans hb
      simp only [Option.some.injEq, Obj.cells.injEq] at this
      exact ht this.2.1
    exact (Below.heap_setCell W ⟨b, i, none⟩ u g hne).trans hc
theorem _root_.Go.RowKit.Below.ext {A B C : World} (h : Below A.heap.size A B) (k : Ext B C) : Ext A C := Ext.trans h k
theorem row_in_row {W : World} {base : Nat} {t e : TypeId} {size n : Nat} {v : Value} {xs : List Value} (h : W.ownsRow base t size v n xs) {b : Nat} {cs : Array Value} (hb : Blk W b e cs) (ht : t ≠ e) (new : Array Value) : (W.setRow b new).ownsRow base t size v n xs := by
  rcases h with ⟨h1, h2 | ⟨g, cap, cur, hv, hg, hc, r⟩⟩
  · exact ⟨h1, .inl h2⟩
  · refine ⟨h1, .inr ⟨g, cap, cur, hv, hg, ?_, r⟩⟩
    have hne : g ≠ b := fun e => by
      subst e
      have := hc.symm.trans hb
      simp only [Option.some.injEq, Obj.cells.injEq] at this
      exact ht this.2.1
    exact (setRow_other W b g new hne).trans hc
theorem OwnI.slice {W : World} {B : Nat} {v : Value} {zs : List Int} (h : OwnI W B v zs) : ∃ A m c, v = .slice A m c ∧ IntsAt W A m zs := by
  rcases h.form with ⟨rfl, _⟩ | ⟨g, cap, rfl, _⟩
  · exact ⟨_, _, _, rfl, h.at_⟩
  · exact ⟨_, _, _, rfl, h.at_⟩
theorem OwnI.room {W : World} {B : Nat} {A : Option Addr} {n c : Nat} {zs : List Int} (h : OwnI W B (.slice A n c) zs) (hn : 0 < n) : (∃ g, A = some ⟨g, 0, none⟩) ∧ n ≤ c ∧ c ≤ 9223372036854775807 := by
  rcases h.2 with ⟨hv, _⟩ | ⟨g, cap, cur, hv, _, _, h1, h2, _⟩
  · simp at hv; omega
  · simp only [Value.slice.injEq] at hv
    obtain ⟨rfl, e, rfl⟩ := hv
    unfold maxLen at h2
    exact ⟨⟨g, rfl⟩, by omega, by omega⟩
theorem Ext.alloc (W : World) (o : Obj) : Ext W (W.alloc o) := (Below.refl _ _).alloc (Nat.le_refl _) _
/-- A copy of integers, as a step of a head. -/
theorem gs_copy {o : Oper} {a : Act} {W : World} {Q : Exit → Act → World → Prop} {B n c b off : Nat} {zs : List Int} (s x : Operand) (ho : o.op = .call { callee := .builtin .append, args := #[s, x], argTypes := #[22, 22] })
    (hs : ∃ g, a.eval s = .slice (some ⟨g, 0, none⟩) 0 0) (hx : a.eval x = .slice (some ⟨b, off, none⟩) n c) (hz : IntsAt W (some ⟨b, off, none⟩) n zs) (hn : 0 < n) (hn2 : n ≤ 100000) (hB : B ≤ W.heap.size) :
    Oper.wp Tryz.prog o a W (fun a' W' => ∃ v, a' = a.put o.dst v ∧ Ext W W' ∧ (GR.ints B zs).r v W') Q := by
  obtain ⟨i0, hi, hz0, hz1, hz2⟩ := info_parts infoInt
  obtain ⟨g, hg⟩ := hs
  obtain ⟨v', w', hrun, r1, r2⟩ := run_append_arg_grows (P := Tryz.prog) W 22 o.type 3 i0 (.int .i64 0) 1 8 Tryz.underlying22 hi hz0 hz1 hz2 rfl (by decide) ⟨g, 0, none⟩ 0 0 [] rfl (fun j u h => by simp at h)
    ⟨b, off, none⟩ n c (zs.map (Value.int .i64)) (by rw [List.length_map, hz.1, Nat.mul_one]) hz.cellsAt (by omega) (by unfold maxLen; omega) (by omega)
  obtain ⟨g1, g2, g3, g4, g5⟩ := r2
  have hE : Ext W w' := ⟨g1, g2, g3, g4, fun k hk => g5 k hk (by simp)⟩
  refine gs_val (v := v') (W' := w') ?_ hE ?_
  · simp [execOp, ho, resolve, invoke, builtin, hg, hx, hrun, Result.andThen]
  · have h2 : OwnI w' W.heap.size v' zs := by
      unfold OwnI
      rw [hz.1]
      simpa using r1
    exact h2.mono hB
end Go.Proofs.YtmafmebcgmegeaaGreatDoor
