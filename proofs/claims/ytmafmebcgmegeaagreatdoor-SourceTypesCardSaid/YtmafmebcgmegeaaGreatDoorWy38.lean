/- Texts Iv Qc Xo Wd of the proof. -/
import Derived.ArgAppend
import Derived.Test.YtmafmebcgmegeaaGreatDoorWy12
import Derived.Test.YtmafmebcgmegeaaGreatDoorWy17
import Derived.Test.YtmafmebcgmegeaaGreatDoorWy3
import Derived.Test.YtmafmebcgmegeaaGreatDoorWy37
import Derived.Test.YtmafmebcgmegeaaGreatDoorWy30
import Derived.Test.YtmafmebcgmegeaaGreatDoorWy15
namespace Go.Proofs.YtmafmebcgmegeaaGreatDoor
open Go.RowKit Go.Sort
/-- A slice of integers of one's own, as memory grows. -/
def GR.ints (B : Nat) (zs : List Int) : GR := ⟨fun v W => OwnI W B v zs, fun h hE => h.below hE⟩
/-- A slice with no room. -/
def GR.bare : GR := ⟨fun v _ => ∃ g, v = .slice (some ⟨g, 0, none⟩) 0 0, fun h _ => h⟩
/-- The cells of a type with lists of one's own. -/
def tyW (nm : ByteArray) (va : Value) (T : Bell.Ty) (vq vs : Value) : Array Value := #[.string nm, va, .int .i64 (T.direct.getD 0 0), .int .i64 (T.direct.getD 1 0), .int .i64 (T.direct.getD 2 0), .int .i64 (T.direct.getD 3 0), .int .i64 (T.direct.getD 4 0), .int .i64 (T.direct.getD 5 0), .int .i64 (T.direct.getD 6 0), .int .i64 (T.direct.getD 7 0), .int .i64 T.side, vq, vs]
def GR.ty (B : Nat) (nm : ByteArray) (sh : List Int) (T : Bell.Ty) : GR :=
  ⟨fun v W => ∃ va vq, v = .agg (tyW nm va T vq (.slice none 0 0)) ∧ OwnI W B va sh ∧ OwnI W B vq T.squares, fun ⟨va, vq, e, h1, h2⟩ hE => ⟨va, vq, e, h1.below hE, h2.below hE⟩⟩
/-- A setting with its own list; a slice of it alone. -/
def GR.set (B : Nat) (p : Int) (zs : List Int) : GR := ⟨fun v W => ∃ A m c, v = .agg #[.int .i64 p, .slice A m c] ∧ OwnI W B (.slice A m c) zs, fun ⟨A, m, c, e, h⟩ hE => ⟨A, m, c, e, h.below hE⟩⟩
def GR.one (B : Nat) (p : Int) (zs : List Int) : GR := ⟨fun v W => ∃ g A m c, v = .slice (some ⟨g, 0, none⟩) 1 1 ∧ Blk W g 172 #[.int .i64 p, .slice A m c] ∧ OwnI W B (.slice A m c) zs, fun ⟨g, A, m, c, e, h1, h2⟩ hE => ⟨g, A, m, c, e, h1.below hE, h2.below hE⟩⟩
/-- A new block. -/
def GR.new (B : Nat) (t : TypeId) (cs : Array Value) : GR := ⟨fun v W => ∃ g, v = .pointer (some ⟨g, 0, none⟩) ∧ B ≤ g ∧ Blk W g t cs, fun ⟨g, e, h1, h2⟩ hE => ⟨g, e, h1, h2.below hE⟩⟩
theorem IntsAt.cellsAt {w : World} {g o n : Nat} {zs : List Int} (h : IntsAt w (some ⟨g, o, none⟩) n zs) : ∀ j u, (zs.map (Value.int .i64))[j]? = some u → w.cell? ((⟨g, o, none⟩ : Addr).add j) = some u := fun j u hu => by
  have hj : j < n := by
    have := (List.getElem?_eq_some_iff.1 hu).1
    rw [List.length_map, h.1] at this
    exact this
  obtain ⟨b, off, he, hh⟩ := h.2 (by omega)
  cases he
  rw [addAddr, hh j hj, ← hu]
  simp [List.getD_eq_getElem?_getD, List.getElem?_eq_getElem (show j < zs.length by rw [h.1]; exact hj)]
/-- The cells of settings. -/
def stCells (P : List (Int × Value)) : List Value := P.flatMap fun p => [.int .i64 p.1, p.2]
theorem stCells_len (P : List (Int × Value)) : (stCells P).length = P.length * 2 := by
  induction P with
  | nil => rfl
  | cons p l ih => simp only [stCells, List.flatMap_cons, List.length_append, List.length_cons, List.length_nil] at *; omega
theorem stCells_snoc (P : List (Int × Value)) (p : Int × Value) : stCells (P ++ [p]) = stCells P ++ [.int .i64 p.1, p.2] := by simp [stCells]
theorem stCells_at (P : List (Int × Value)) (i : Nat) (hi : i < P.length) : (stCells P)[i * 2]? = some (.int .i64 (P.getD i (0, undef)).1) ∧ (stCells P)[i * 2 + 1]? = some (P.getD i (0, undef)).2 := by
  induction P generalizing i with
  | nil => simp at hi
  | cons p l ih =>
    cases i with
    | zero => exact ⟨rfl, rfl⟩
    | succ i =>
      have := ih i (by simpa using hi)
      have e : stCells (p :: l) = Value.int .i64 p.1 :: p.2 :: stCells l := rfl
      rw [e, show (i + 1) * 2 = i * 2 + 1 + 1 by omega]
      simpa using this
theorem infoSet : (Tryz.prog.info? 172).map (fun i => (i.zero, i.size, i.bytes)) = some (some (.agg #[.int .i64 0, .slice none 0 0]), 2, 32) := by kernel_rfl
/-- Rows of different types lie in different blocks. -/
theorem row_ext {W W' : World} {base : Nat} {e : TypeId} {size n : Nat} {v : Value} {xs : List Value} (h : W.ownsRow base e size v n xs) (hE : Ext W W') : W'.ownsRow base e size v n xs := by
  refine World.ownsRow.kept h (row := none) ⟨hE.os, hE.tape, hE.output, hE.size, fun k hk _ => hE.block k hk⟩ ?_
  cases hv : v.ownBlock with
  | none => exact .inl rfl
  | some b => exact .inr (by simp)
theorem row_type {W : World} {base : Nat} {e : TypeId} {size n : Nat} {v : Value} {xs : List Value} (h : W.ownsRow base e size v n xs) {b : Nat} (hb : some b = v.ownBlock) : ∃ cur, W.heap[b]? = some (.cells cur e (0, 0)) := by
  rcases h.2 with ⟨rfl, _⟩ | ⟨g, cap, cur, rfl, _, h2, _⟩
  · simp [Value.ownBlock] at hb
  · obtain rfl : b = g := by simpa [Value.ownBlock] using hb
    exact ⟨cur, h2⟩
theorem row_blk {W W' : World} {base : Nat} {e : TypeId} {size n : Nat} {v : Value} {xs : List Value} (h : W.ownsRow base e size v n xs) (hg : W.grownBy W' v.ownBlock) {b : Nat} {t : TypeId} {cs : Array Value} (hb : Blk W b t cs) (ht : t ≠ e) : Blk W' b t cs := by
  refine (hg.block b (lt_of_block hb) (fun ej => ?_)).trans hb
  obtain ⟨cur, h2⟩ := row_type h ej
  have := (show W.heap[b]? = _ from hb).symm.trans h2
  simp only [Option.some.injEq, Obj.cells.injEq] at this
  exact ht this.2.1
theorem row_row {W W' : World} {base base' : Nat} {e t : TypeId} {size size' n m : Nat} {v u : Value} {xs ys : List Value} (h : W.ownsRow base e size v n xs) (hg : W.grownBy W' v.ownBlock) (ho : W.ownsRow base' t size' u m ys) (ht : t ≠ e) : W'.ownsRow base' t size' u m ys := by
  refine World.ownsRow.kept ho hg ?_
  cases hu : u.ownBlock with
  | none => exact .inl rfl
  | some b =>
    refine .inr fun ej => ?_
    obtain ⟨cur, h2⟩ := row_type h ej
    obtain ⟨cur', h3⟩ := row_type ho hu.symm
    have := h3.symm.trans h2
    simp only [Option.some.injEq, Obj.cells.injEq] at this
    exact ht this.2.1
theorem row_cell {W : World} {base : Nat} {t e : TypeId} {size n : Nat} {v : Value} {xs : List Value} (h : W.ownsRow base t size v n xs) {b : Nat} {cs : Array Value} (hb : Blk W b e cs) (ht : t ≠ e) (i : Nat) (u : Value) : (W.setCell ⟨b, i, none⟩ u).ownsRow base t size v n xs := by
  rcases h with ⟨h1, h2 | ⟨g, cap, cur, hv, hg, hc, r⟩⟩
  · exact ⟨h1, .inl h2⟩
  · refine ⟨h1, .inr ⟨g, cap, cur, hv, hg, ?_, r⟩⟩
    have hne : g ≠ b := fun e => by
      subst e
      have := hc.symm.trans hb
      simp only [Option.some.injEq, Obj.cells.injEq] at this
      exact ht this.2.1
    exact (Below.heap_setCell W ⟨b, i, none⟩ u g hne).trans hc
theorem _root_.Go.RowKit.Below.ext {A B C : World} (h : Below A.heap.size A B) (k : Ext B C) : Ext A C := Ext.trans h k
theorem row_in_row {W : World} {base : Nat} {t e : TypeId} {size n : Nat} {v : Value} {xs : List Value} (h : W.ownsRow base t size v n xs) {b : Nat} {cs : Array Value} (hb : Blk W b e cs) (ht : t ≠ e) (new : Array Value) : (W.setRow b new).ownsRow base t size v n xs := by
  rcases h with ⟨h1, h2 | ⟨g, cap, cur, hv, hg, hc, r⟩⟩
  · exact ⟨h1, .inl h2⟩
  · refine ⟨h1, .inr ⟨g, cap, cur, hv, hg, ?_, r⟩⟩
    have hne : g ≠ b := fun e => by
      subst e
      have := hc.symm.trans hb
      simp only [Option.some.injEq, Obj.cells.injEq] at this
      exact ht this.2.1
    exact (setRow_other W b g new hne).trans hc
theorem OwnI.slice {W : World} {B : Nat} {v : Value} {zs : List Int} (h : OwnI W B v zs) : ∃ A m c, v = .slice A m c ∧ IntsAt W A m zs := by
  rcases h.form with ⟨rfl, _⟩ | ⟨g, cap, rfl, _⟩
  · exact ⟨_, _, _, rfl, h.at_⟩
  · exact ⟨_, _, _, rfl, h.at_⟩
theorem OwnI.room {W : World} {B : Nat} {A : Option Addr} {n c : Nat} {zs : List Int} (h : OwnI W B (.slice A n c) zs) (hn : 0 < n) : (∃ g, A = some ⟨g, 0, none⟩) ∧ n ≤ c ∧ c ≤ 9223372036854775807 := by
  rcases h.2 with ⟨hv, _⟩ | ⟨g, cap, cur, hv, _, _, h1, h2, _⟩
  · simp at hv; omega
  · simp only [Value.slice.injEq] at hv
    obtain ⟨rfl, e, rfl⟩ := hv
    unfold maxLen at h2
    exact ⟨⟨g, rfl⟩, by omega, by omega⟩
theorem Ext.alloc (W : World) (o : Obj) : Ext W (W.alloc o) := (Below.refl _ _).alloc (Nat.le_refl _) _
/-- A copy of integers, as a step of a head. -/
theorem gs_copy {o : Oper} {a : Act} {W : World} {Q : Exit → Act → World → Prop} {B n c b off : Nat} {zs : List Int} (s x : Operand) (ho : o.op = .call { callee := .builtin .append, args := #[s, x], argTypes := #[22, 22] })
    (hs : ∃ g, a.eval s = .slice (some ⟨g, 0, none⟩) 0 0) (hx : a.eval x = .slice (some ⟨b, off, none⟩) n c) (hz : IntsAt W (some ⟨b, off, none⟩) n zs) (hn : 0 < n) (hn2 : n ≤ 100000) (hB : B ≤ W.heap.size) :
    Oper.wp Tryz.prog o a W (fun a' W' => ∃ v, a' = a.put o.dst v ∧ Ext W W' ∧ (GR.ints B zs).r v W') Q := by
  obtain ⟨i0, hi, hz0, hz1, hz2⟩ := info_parts infoInt
  obtain ⟨g, hg⟩ := hs
  obtain ⟨v', w', hrun, r1, r2⟩ := run_append_arg_grows (P := Tryz.prog) W 22 o.type 3 i0 (.int .i64 0) 1 8 Tryz.underlying22 hi hz0 hz1 hz2 rfl (by decide) ⟨g, 0, none⟩ 0 0 [] rfl (fun j u h => by simp at h)
    ⟨b, off, none⟩ n c (zs.map (Value.int .i64)) (by rw [List.length_map, hz.1, Nat.mul_one]) hz.cellsAt (by omega) (by unfold maxLen; omega) (by omega)
  obtain ⟨g1, g2, g3, g4, g5⟩ := r2
  have hE : Ext W w' := ⟨g1, g2, g3, g4, fun k hk => g5 k hk (by simp)⟩
  refine gs_val (v := v') (W' := w') ?_ hE ?_
  · simp [execOp, ho, resolve, invoke, builtin, hg, hx, hrun, Result.andThen]
  · have h2 : OwnI w' W.heap.size v' zs := by
      unfold OwnI
      rw [hz.1]
      simpa using r1
    exact h2.mono hB
end Go.Proofs.YtmafmebcgmegeaaGreatDoor

namespace Go.Proofs.YtmafmebcgmegeaaGreatDoor
open Go.RowKit Go.Sort
theorem OwnI.sl {W : World} {B n : Nat} {v : Value} {zs : List Int} (h : OwnI W B v zs) (hl : zs.length = n) (hn : 0 < n) : ∃ A c, v = .slice A n c := by
  rcases h.form with ⟨h1, h2⟩ | ⟨g3, c3, h1, _⟩
  · exfalso; rw [h2] at hl; simp at hl; omega
  · exact ⟨_, _, by rw [h1, hl]⟩
theorem cell_kept {W W' : World} (hE : Ext W W') {p : Addr} {v : Value} (h : W.cell? p = some v) : W'.cell? p = some v := by
  rw [hE.below.cell (World.block_lt_of_cell? _ _ h)]; exact h
theorem Blk.cell_far {w : World} {g b i : Nat} {t : TypeId} {cs : Array Value} (h : Blk w g t cs) (hne : g ≠ b) (u : Value) : Blk (w.setCell ⟨b, i, none⟩ u) g t cs :=
  (Below.heap_setCell w ⟨b, i, none⟩ u g hne).trans h
theorem infoSetR : (Tryz.prog.info? 145).map (fun i => (i.zero, i.size, i.bytes)) = some (some (.agg #[.int .i64 0, .slice none 0 0]), 2, 32) := by kernel_rfl
theorem row_high {w W : World} {base : Nat} {t : TypeId} {size n : Nat} {v : Value} {xs : List Value} (h : w.ownsRow base t size v n xs) (k : ∀ b, base ≤ b → b < w.heap.size → W.heap[b]? = w.heap[b]?) : W.ownsRow base t size v n xs := by
  rcases h with ⟨h1, h2 | ⟨g, cap, cur, hv, hg, hc, r⟩⟩
  · exact ⟨h1, .inl h2⟩
  · refine ⟨h1, .inr ⟨g, cap, cur, hv, hg, ?_, r⟩⟩
    exact (k g hg (Array.getElem?_eq_some_iff.1 hc).1).trans hc
/-- A type of the reference whose lists are one's own. -/
structure OwnTy (w : World) (base : Nat) (sh : List Int) (T : Bell.Ty) (A1 : Option Addr) (sn c1 gq qn c2 gS gn cS : Nat) (P : List (Int × Value)) : Prop where
  sh : OwnI w base (.slice A1 sn c1) sh
  sq : OwnI w base (.slice (some ⟨gq, 0, none⟩) qn c2) T.squares
  row : w.ownsRow base 145 2 (.slice (some ⟨gS, 0, none⟩) gn cS) gn (stCells P)
  len : P.length = gn
  each : ∀ j, j < gn → (P.getD j (0, undef)).1 = Bell.ePow T.sets j ∧ OwnI w base (P.getD j (0, undef)).2 ((T.sets.getD j (0, [])).2)
  cap : qn ≤ c2 ∧ c2 ≤ 9223372036854775807
theorem OwnTy.high {w W : World} {base : Nat} {sh : List Int} {T : Bell.Ty} {A1 : Option Addr} {sn c1 gq qn c2 gS gn cS : Nat} {P : List (Int × Value)} (h : OwnTy w base sh T A1 sn c1 gq qn c2 gS gn cS P) (k : ∀ b, base ≤ b → b < w.heap.size → W.heap[b]? = w.heap[b]?) : OwnTy W base sh T A1 sn c1 gq qn c2 gS gn cS P :=
  ⟨row_high h.sh k, row_high h.sq k, row_high h.row k, h.len, fun j hj => ⟨(h.each j hj).1, row_high (h.each j hj).2 k⟩, h.cap⟩
end Go.Proofs.YtmafmebcgmegeaaGreatDoor

namespace Go.Proofs.YtmafmebcgmegeaaGreatDoor
open Go.RowKit Go.Sort
set_option maxHeartbeats 400000 in
set_option maxRecDepth 100000 in
theorem refBetween_big (a b p v : Int) (w : World) (ha : 0 ≤ a ∧ a ≤ 100000000) (hb : 0 ≤ b ∧ b ≤ 100000000) (hp : 0 ≤ p ∧ p ≤ 100) (hv : 1 ≤ v ∧ v ≤ 100) (hpv : p ≤ v) :
    Calls Tryz.prog 107 #[.int .i64 a, .int .i64 b, .int .i64 p, .int .i64 v] w fun e w' => e = .returned (.int .i64 (Bell.betw a b p v)) ∧ w' = w := by
  have hm : ((b - a) * p).natAbs ≤ 100000000 * 100 := by
    rw [Int.natAbs_mul]
    exact Nat.mul_le_mul (by omega) (by omega)
  have hB := Bell.betw_bounds (a := a) (b := b) (lo := 0) (hi := 100000000) (p := p) (w := v) (by omega) hp.1 hpv ha.1 hb.1 ha.2 hb.2
  have HFL := Lib.hid (fun W => refFloor_gen ((b - a) * p) v W (by omega) (by omega))
  obtain ⟨m, hmm⟩ : ∃ m, m = (b - a) * p := ⟨_, rfl⟩
  obtain ⟨q, hq⟩ : ∃ q, q = m / v := ⟨_, rfl⟩
  have e : Bell.betw a b p v = a + q := by unfold Bell.betw; rw [hq, hmm]
  rw [← hmm] at hm HFL
  rw [← hq] at HFL
  rw [e] at hB ⊢
  have w1 : IntKind.i64.wrap (b - a) = b - a := IntWalk.i64_in _ (by omega)
  have w2 : IntKind.i64.wrap ((b - a) * p) = m := by rw [← hmm]; exact IntWalk.i64_in _ (by omega)
  have w3 : IntKind.i64.wrap (a + q) = a + q := IntWalk.i64_in _ (by omega)
  clear hB hm hmm hq e ha hb hp hv hpv
  go_enter Tryz.func107, Tryz.ntmps107
  go_wp2_with fail
  refine (HFL.out _).mono ?_
  rintro e w' ⟨rfl, rfl⟩
  go_wp2
  go_ret
  exact ⟨rfl, rfl⟩
theorem reachR_yes {l : List Int} {q x : Int} {k : Nat} (hx : x = l.getD k 0) (h : x ≤ q) : Bell.reachR l q (k + 1) = k := by
  rw [Bell.reachR, ← hx, if_pos h]
theorem reachR_no {l : List Int} {q x : Int} {k : Nat} (hx : x = l.getD k 0) (h : ¬ x ≤ q) : Bell.reachR l q (k + 1) = Bell.reachR l q k := by
  rw [Bell.reachR, ← hx, if_neg h]
theorem emisR_last {s : Bell.Sets} {r : Nat} {p : Int} (h : Bell.ePow s (s.length - 1) ≤ p) : Bell.emisR s r p = Bell.eAt s (s.length - 1) r := by
  unfold Bell.emisR; rw [if_pos h]
theorem emisR_hit {s : Bell.Sets} {r N : Nat} {p : Int} (h : ¬ Bell.ePow s (s.length - 1) ≤ p) (hN : Bell.nextOf s p = N) (h2 : N = 0 ∨ p = Bell.ePow s N) : Bell.emisR s r p = Bell.eAt s N r := by
  unfold Bell.emisR; rw [if_neg h, hN, if_pos h2]
theorem emisR_mid {s : Bell.Sets} {r N : Nat} {p : Int} (h : ¬ Bell.ePow s (s.length - 1) ≤ p) (hN : Bell.nextOf s p = N) (h2 : ¬ (N = 0 ∨ p = Bell.ePow s N)) : Bell.emisR s r p = Bell.betw (Bell.eAt s (N - 1) r) (Bell.eAt s N r) (p - Bell.ePow s (N - 1)) (Bell.ePow s N - Bell.ePow s (N - 1)) := by
  unfold Bell.emisR; rw [if_neg h, hN, if_neg h2]
set_option maxHeartbeats 4000000 in
set_option maxRecDepth 100000 in
theorem refEmission_any {cs : Array Value} {nm : ByteArray} {sh : List Int} {T : Bell.Ty} {sa : Option Addr} {sn sc qb qo qn qc gb go gn gc : Nat} (p q : Int) (w : World) (hT : TyAt w cs nm sh T sa sn sc qb qo qn qc gb go gn gc) (hG : GoodT sh T) (hp : 1 ≤ p ∧ p ≤ 100) :
    Calls Tryz.prog 28 #[.agg cs, .int .i64 p, .int .i64 q] w fun e w' => e = .returned (.int .i64 (Bell.emis T.sets (Bell.reachOf T.squares q) p)) ∧ Below w.heap.size w w' := by
  have HT := Lib.hid hT
  have HG := Lib.hid hG
  obtain ⟨p1, p2⟩ := hp
  clear hT hG
  have hrl : Bell.reachOf T.squares q < T.squares.length := Bell.reach_lt HG.out.ty.sq
  have hm8 := HG.out.cnt.2
  have hn6 : gn ≤ 6 := by have := HG.out.cnt.1.2; rw [HT.out.sets.1] at this; exact this
  have hn1 : 0 < gn := by have := HG.out.cnt.1.1; rw [HT.out.sets.1] at this; exact this
  have hrq := Bell.reachR_reach HG.out.sq (sq := q)
  have hlq : T.squares.length = qn := HT.out.squares.1
  rw [hlq] at hrq hrl hm8
  rw [← Bell.emisR_is HG.out.ty.sets]
  obtain ⟨R, hR⟩ : ∃ R, R = Bell.reachOf T.squares q := ⟨_, rfl⟩
  rw [← hR] at hrl hrq ⊢
  clear hR
  obtain ⟨V, hV⟩ : ∃ V, V = Bell.emisR T.sets R p := ⟨_, rfl⟩
  rw [← hV]
  have HV := Lib.hid hV
  have HRQ := Lib.hid hrq
  have HSL := Lib.hid HT.out.sets.1
  have HL : Hid (∀ k, k < gn → ((T.sets.getD k (0, [])).2).length = qn) := fun k hk => by rw [← hlq]; exact HG.out.len (by rw [HT.out.sets.1]; exact hk)
  have HER : Hid (∀ k, k < gn → 0 ≤ Bell.eAt T.sets k R ∧ Bell.eAt T.sets k R ≤ 100000000) := fun k hk =>
    ⟨HG.out.ty.sets.lo k R (by rw [HT.out.sets.1]; exact hk) (by rw [hlq]; exact hrl), HG.out.ty.sets.hi k R (by rw [HT.out.sets.1]; exact hk) (by rw [hlq]; exact hrl)⟩
  have HUP : Hid (∀ i j, i < j → j < gn → Bell.ePow T.sets i < Bell.ePow T.sets j) := fun i j h1 h2 => HG.out.ty.sets.up i j h1 (by rw [HT.out.sets.1]; exact h2)
  obtain ⟨qb', qo', eq, HQ⟩ := HT.out.squares.2 hm8.1
  injection eq with eq
  injection eq with e1 e2 e3
  subst e1
  subst e2
  have HQ := Lib.hid HQ
  clear hV hlq hrq e3
  go_enter Tryz.func28, Tryz.ntmps28
  go_upto_region 1 with fail
  obtain ⟨w1, hw1⟩ : ∃ W, W = (w.alloc (.cells cs 26)) := ⟨_, rfl⟩
  rw [← hw1]
  have B3 : Hid (Blk w1 (w.heap.size) 26 cs) := by show Blk _ _ _ _; rw [hw1]; exact Blk.new _ _ _
  have hb1 : Below w.heap.size w w1 := by rw [hw1]; exact ((Below.refl _ _).alloc (Nat.le_refl _) _)
  obtain ⟨g3, hg3⟩ : ∃ g, g = w.heap.size := ⟨_, rfl⟩
  have HGw1 : Hid (g3 = w.heap.size) := hg3
  rw [← hg3] at B3
  try rw [← hg3]
  clear hw1 hg3
  have HB : Hid (Below w.heap.size w w1) := hb1
  clear hb1
  have c11 := (B3.out.cell 11).trans HT.out.c11
  have c12 := (B3.out.cell 12).trans HT.out.c12
  obtain ⟨hm1, hm8⟩ := hm8
  go_wp2
  go_loopw [7, 8] (fun r i wr => ∃ k : Nat, k ≤ qn ∧ i = .int .i64 k ∧ r = .int .i64 (Bell.reachR T.squares q k : Nat) ∧ wr = w1) (fun _ i _ => qn - (intOf i).toNat)
  case atStart => exact ⟨0, Nat.zero_le _, rfl, rfl, rfl⟩
  case round =>
    obtain ⟨k, hk, rfl, rfl, rfl⟩ := hrel
    by_cases hlt : k < qn
    · have hx := HB.out.cell (p := ⟨qb, qo + k, none⟩) (World.block_lt_of_cell? _ _ (HQ.out k hlt))
      rw [HQ.out k hlt] at hx
      obtain ⟨x, hxx⟩ : ∃ x, x = T.squares.getD k 0 := ⟨_, rfl⟩
      rw [← hxx] at hx
      have HX := Lib.hid hxx
      clear hxx
      by_cases hxq : x ≤ q
      · have e := Lib.hid (reachR_yes (q := q) HX.out hxq)
        go_wp2
        go_roundw
        case rel => exact ⟨k + 1, by omega, by go_num, by rw [e.out], by first | rfl | trivial⟩
        case measure => simp [intOf]; omega
      · have e := Lib.hid (reachR_no (q := q) HX.out hxq)
        go_wp2
        go_roundw
        case rel => exact ⟨k + 1, by omega, by go_num, by rw [e.out], by first | rfl | trivial⟩
        case measure => simp [intOf]; omega
    · obtain rfl : k = qn := by omega
      rw [HRQ.out]
      clear hk
      obtain ⟨gl, rfl⟩ : ∃ k, gn = k + 1 := ⟨gn - 1, by omega⟩
      have HS1 := Lib.hid (HT.out.sets.keep HB.out)
      obtain ⟨eb, eo, en, ec, s1, s2, s3, s4⟩ := HS1.out.at (k := gl) (r := R) (by omega) (HL.out gl (by omega)) hrl
      have hmax : ((k : Nat) : Int) ≤ 8 := by omega
      go_upto_region 8 with fail
      obtain ⟨X, hX⟩ : ∃ x, x = Bell.ePow T.sets gl := ⟨_, rfl⟩
      obtain ⟨E, hE⟩ : ∃ x, x = Bell.eAt T.sets gl R := ⟨_, rfl⟩
      rw [← hX] at s1 ⊢
      rw [← hE] at s4
      have HX := Lib.hid hX
      have HE := Lib.hid hE
      clear hX hE
      have HEN := Lib.hid s3
      clear s1 s2 s3 c12
      obtain ⟨w2, hw2⟩ : ∃ W, W = (wr.alloc (.cells #[.int .i64 X, .slice (some ⟨eb, eo, none⟩) k ec] 145)) := ⟨_, rfl⟩
      rw [← hw2]
      have B9 : Hid (Blk w2 (wr.heap.size) 145 #[.int .i64 X, .slice (some ⟨eb, eo, none⟩) k ec]) := by show Blk _ _ _ _; rw [hw2]; exact Blk.new _ _ _
      have hb2 : Below wr.heap.size wr w2 := by rw [hw2]; exact ((Below.refl _ _).alloc (Nat.le_refl _) _)
      obtain ⟨g9, hg9⟩ : ∃ g, g = wr.heap.size := ⟨_, rfl⟩
      have HGw2 : Hid (g9 = wr.heap.size) := hg9
      rw [← hg9] at B9
      try rw [← hg9]
      clear hw2 hg9
      have e4 := hb2.cell (p := ⟨eb, eo + R, none⟩) (World.block_lt_of_cell? _ _ s4)
      rw [s4] at e4
      clear s4
      replace HB := Lib.hid (HB.out.trans (hb2.mono HB.out.size))
      replace B3 := Lib.hid (B3.out.below hb2)
      clear hb2
      have z0 := B9.out.cell 0
      have z1 := B9.out.cell 1
      simp only [List.getElem?_toArray, List.getElem?_cons_zero, List.getElem?_cons_succ] at z0 z1
      have hln : T.sets.length - 1 = gl := by rw [HSL.out, Nat.add_sub_cancel]
      by_cases hge : X ≤ p
      · have hv : Hid (V = E) := by
          show _ = _
          rw [HV.out, emisR_last (by rw [hln, ← HX.out]; exact hge), hln, ← HE.out]
        clear hln
        go_wp2
        go_ret
        exact ⟨ret_int hv.out.symm, HB.out⟩
      have hlast : ¬ Bell.ePow T.sets (T.sets.length - 1) ≤ p := by rw [hln, ← HX.out]; exact hge
      have HLA := Lib.hid hlast
      have c12 := (B3.out.cell 12).trans HT.out.c12
      clear hln hlast e4
      go_wp2
      clear z0 z1 c12
      go_loopw [10, 11] (fun i _ wx => ∃ j : Nat, j ≤ gl + 1 ∧ i = .int .i64 j ∧ Hid (∀ n, n < j → Bell.ePow T.sets n < p) ∧ Hid (Below w2.heap.size w2 wx)) (fun i _ _ => gl + 1 - (intOf i).toNat)
      case atStart => exact ⟨0, Nat.zero_le _, rfl, (fun n hn => by omega), Below.refl _ _⟩
      case round =>
        obtain ⟨j, hj, rfl, hlow, hbx⟩ := hrel
        have B3x := Lib.hid (B3.out.below hbx.out)
        have HBx := Lib.hid (HB.out.trans (hbx.out.mono HB.out.size))
        have c12 := (B3x.out.cell 12).trans HT.out.c12
        by_cases hjl : j < gl + 1
        · have HSx := Lib.hid (HT.out.sets.keep HBx.out)
          obtain ⟨fb, fo, fn, fc, r1, r2, r3, r4⟩ := HSx.out.at (k := j) (r := R) hjl (HL.out j hjl) hrl
          obtain ⟨Y, hY⟩ : ∃ x, x = Bell.ePow T.sets j := ⟨_, rfl⟩
          obtain ⟨D, hD⟩ : ∃ x, x = Bell.eAt T.sets j R := ⟨_, rfl⟩
          rw [← hY] at r1
          rw [← hD] at r4
          have HY := Lib.hid hY
          have HD := Lib.hid hD
          have hfn : R < fn := by omega
          have HRF := Lib.hid hfn
          clear hY hD r3
          go_upto_region 14 with fail
          clear r1 r2
          obtain ⟨w3, hw3⟩ : ∃ W, W = (wr.alloc (.cells #[.int .i64 Y, .slice (some ⟨fb, fo, none⟩) fn fc] 145)) := ⟨_, rfl⟩
          rw [← hw3]
          have B11 : Hid (Blk w3 (wr.heap.size) 145 #[.int .i64 Y, .slice (some ⟨fb, fo, none⟩) fn fc]) := by show Blk _ _ _ _; rw [hw3]; exact Blk.new _ _ _
          have hb3 : Below wr.heap.size wr w3 := by rw [hw3]; exact ((Below.refl _ _).alloc (Nat.le_refl _) _)
          obtain ⟨g11, hg11⟩ : ∃ g, g = wr.heap.size := ⟨_, rfl⟩
          have HGw3 : Hid (g11 = wr.heap.size) := hg11
          rw [← hg11] at B11
          try rw [← hg11]
          clear hw3 hg11
          have f4 := hb3.cell (p := ⟨fb, fo + R, none⟩) (World.block_lt_of_cell? _ _ r4)
          rw [r4] at f4
          have F4 := Lib.hid f4
          have HW3 := Lib.hid (hbx.out.trans (hb3.mono hbx.out.size))
          replace HBx := Lib.hid (HBx.out.trans (hb3.mono HBx.out.size))
          replace B3x := Lib.hid (B3x.out.below hb3)
          clear hb3
          have y0 := B11.out.cell 0
          have y1 := B11.out.cell 1
          simp only [List.getElem?_toArray, List.getElem?_cons_zero, List.getElem?_cons_succ] at y0 y1
          clear r4 c12
          by_cases hgt : Y < p
          · have hq : Hid (∀ n, n < j + 1 → Bell.ePow T.sets n < p) := fun n hn => by
              by_cases hnj : n = j
              · subst hnj; rw [← HY.out]; exact hgt
              · exact hlow.out n (by omega)
            clear f4 y1
            go_wp2
            go_roundw
            case rel => exact ⟨j + 1, by omega, by go_num, hq.out, HW3.out⟩
            case measure => simp [intOf]; omega
          have hN := next_at_of (s := T.sets) (p := p) (k := j) (by rw [HSL.out]; exact hjl) hlow.out (by rw [← HY.out]; omega)
          rcases Nat.eq_zero_or_pos j with h0 | h0
          · subst h0
            have hv : Hid (V = D) := by
              show _ = _
              rw [HV.out, emisR_hit (Int.not_le.2 HLA.out) hN (.inl rfl), ← HD.out]
            clear hN
            go_wp2
            go_ret
            exact ⟨ret_int hv.out.symm, HBx.out⟩
          by_cases hpy : p = Y
          · have hv : Hid (V = D) := by
              show _ = _
              rw [HV.out, emisR_hit (Int.not_le.2 HLA.out) hN (.inr (by rw [← HY.out]; exact hpy)), ← HD.out]
            clear hN hgt
            go_wp2
            go_ret
            exact ⟨ret_int hv.out.symm, HBx.out⟩
          obtain ⟨i, rfl⟩ : ∃ i, j = i + 1 := ⟨j - 1, by omega⟩
          have HS3 := Lib.hid (HT.out.sets.keep HBx.out)
          obtain ⟨db, dO, dn, dc, r1, r2, r3, r4⟩ := HS3.out.at (k := i) (r := R) (by omega) (HL.out i (by omega)) hrl
          have hmid : ¬ (i + 1 = 0 ∨ p = Bell.ePow T.sets (i + 1)) := by
            intro h
            rcases h with h | h
            · omega
            · exact hpy (h.trans HY.out.symm)
          have hv1 := emisR_mid (r := R) (Int.not_le.2 HLA.out) hN hmid
          rw [Nat.add_sub_cancel, ← HY.out, ← HD.out, ← HV.out] at hv1
          have q1 := HG.out.pow (k := i) (by rw [HSL.out]; omega)
          have q2 := HG.out.pow (k := i + 1) (by rw [HSL.out]; omega)
          have q4 := hlow.out i (by omega)
          have q5 := HER.out i (by omega)
          have q6 := HER.out (i + 1) (by omega)
          have q7 := HUP.out i (i + 1) (by omega) hjl
          rw [← HY.out] at q2 q7
          rw [← HD.out] at q6
          obtain ⟨X2, hX2⟩ : ∃ x, x = Bell.ePow T.sets i := ⟨_, rfl⟩
          obtain ⟨E2, hE2⟩ : ∃ x, x = Bell.eAt T.sets i R := ⟨_, rfl⟩
          rw [← hX2] at r1 q1 q4 q7 hv1
          rw [← hE2] at r4 q5 hv1
          have HV1 := Lib.hid hv1
          have hdn : R < dn := by omega
          have HDN := Lib.hid hdn
          have c12 := (B3x.out.cell 12).trans HT.out.c12
          have hi1 : ((i + 1 : Nat) : Int) - 1 = (i : Int) := by omega
          have hz1 : ((((i : Nat) : Int) + 1 == 0) || (p == Y)) = false := by simp [hpy]; omega
          have hz2 : (p == Y) = false := by simp [hpy]
          have hz3 : (((i : Nat) : Int) + 1 == 0) = false := by simp; omega
          clear hN hv1 hX2 hE2 r3
          go_upto_region 18 with fail
          obtain ⟨w4, hw4⟩ : ∃ W, W = (w3.alloc (.cells #[.int .i64 X2, .slice (some ⟨db, dO, none⟩) dn dc] 145)) := ⟨_, rfl⟩
          rw [← hw4]
          have B12 : Hid (Blk w4 (w3.heap.size) 145 #[.int .i64 X2, .slice (some ⟨db, dO, none⟩) dn dc]) := by show Blk _ _ _ _; rw [hw4]; exact Blk.new _ _ _
          have hb4 : Below w3.heap.size w3 w4 := by rw [hw4]; exact ((Below.refl _ _).alloc (Nat.le_refl _) _)
          obtain ⟨g12, hg12⟩ : ∃ g, g = w3.heap.size := ⟨_, rfl⟩
          have HGw4 : Hid (g12 = w3.heap.size) := hg12
          rw [← hg12] at B12
          try rw [← hg12]
          clear hw4 hg12
          have h4 := hb4.cell (p := ⟨db, dO + R, none⟩) (World.block_lt_of_cell? _ _ r4)
          rw [r4] at h4
          have f5 := hb4.cell (p := ⟨fb, fo + R, none⟩) (World.block_lt_of_cell? _ _ F4.out)
          rw [F4.out] at f5
          replace HBx := Lib.hid (HBx.out.trans (hb4.mono HBx.out.size))
          replace B11 := Lib.hid (B11.out.below hb4)
          clear hb4
          have y0 := B11.out.cell 0
          have y1 := B11.out.cell 1
          have x0 := B12.out.cell 0
          have x1 := B12.out.cell 1
          simp only [List.getElem?_toArray, List.getElem?_cons_zero, List.getElem?_cons_succ] at y0 y1 x0 x1
          clear r1 r2 r4 c12 f4 F4
          obtain ⟨q11, q12⟩ := q1
          obtain ⟨q21, q22⟩ := q2
          have HC4 := Lib.hid (fun W => refBetween_big E2 D (p - X2) (Y - X2) W q5 q6 (by omega) (by omega) (by omega))
          clear q5 q6
          refine wp_region_still_tail 19 (by kernel_rfl) (by kernel_rfl) ?_
          simp only [List.take_succ_cons, List.take_zero, List.drop_succ_cons, List.drop_zero]
          change wpStill _ _ (World.drew _) _ _ _
          repeat still_step
          refine wpStill_nil ?_
          change wpList _ _ _ _ _ (World.drew _)
          go_wp2_with fail
          refine (HC4.out _).mono ?_
          rintro e w6 ⟨rfl, rfl⟩
          go_wp2
          go_ret
          exact ⟨ret_int HV1.out.symm, HBx.out.drew⟩
        · exfalso
          have h := hlow.out gl (by omega)
          rw [← HX.out] at h
          omega
end Go.Proofs.YtmafmebcgmegeaaGreatDoor
