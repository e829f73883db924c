/- Texts Qp Iv Qc of the proof. -/
import Derived.Test.YtmafmebcgmegeaaGreatDoorWt31
import Derived.ArgAppend
import Derived.Test.YtmafmebcgmegeaaGreatDoorWt12
import Derived.Test.YtmafmebcgmegeaaGreatDoorWt16
import Derived.Test.YtmafmebcgmegeaaGreatDoorWt3
namespace Go.Proofs.YtmafmebcgmegeaaGreatDoor
open Go.RowKit Go.Sort
theorem quo_facts {x d : Int} (hd : 1 ≤ d) : (x.tdiv d).natAbs ≤ x.natAbs ∧ (x.tmod d).natAbs < d.natAbs ∧ x.tmod d + x.tdiv d * d = x := by
  refine ⟨by rw [Int.natAbs_tdiv]; exact Nat.div_le_self _ _, ?_, ?_⟩
  · rw [Int.natAbs_tmod]; exact Nat.mod_lt _ (by omega)
  · rw [Int.mul_comm]; exact Int.tmod_add_mul_tdiv x d
set_option maxHeartbeats 400000 in
set_option maxRecDepth 100000 in
theorem refFloor_gen (x d : Int) (w : World) (hx : -100000000000000000 ≤ x ∧ x ≤ 100000000000000000) (hd : 1 ≤ d ∧ d ≤ 10000000) :
    Calls Tryz.prog 170 #[.int .i64 x, .int .i64 d] w fun e w' => e = .returned (.int .i64 (x / d)) ∧ w' = w := by
  obtain ⟨f1, f2, f3⟩ := quo_facts (x := x) hd.1
  have hf := Bell.floorR_is (n := x) (d := d) (by omega)
  obtain ⟨q, hq⟩ : ∃ q, x.tdiv d = q := ⟨_, rfl⟩
  obtain ⟨r, hr⟩ : ∃ r, x.tmod d = r := ⟨_, rfl⟩
  rw [hq] at f1 f3 hf
  rw [hr] at f2 f3
  obtain ⟨m, hm⟩ : ∃ m, q * d = m := ⟨_, rfl⟩
  rw [hm] at f3 hf
  have HF := Lib.hid hf
  have hd0 : ¬ d = 0 := by omega
  have w1 : IntKind.i64.wrap q = q := IntWalk.i64_in _ (by omega)
  have w2 : IntKind.i64.wrap m = m := IntWalk.i64_in _ (by omega)
  have w3 : IntKind.i64.wrap (q - 1) = q - 1 := IntWalk.i64_in _ (by omega)
  have HQ := Lib.hid hq
  by_cases h : x < m
  · have HH := Lib.hid h
    clear f1 f2 f3 hf hr
    go_enter Tryz.func170, Tryz.ntmps170
    go_wp2
    go_ret
    have h9 := HF.out
    rw [if_pos HH.out] at h9
    exact ⟨ret_int h9, rfl⟩
  · have HH := Lib.hid h
    clear f1 f2 f3 hf hr
    go_enter Tryz.func170, Tryz.ntmps170
    go_wp2
    go_ret
    have h9 := HF.out
    rw [if_neg (Int.not_lt.2 HH.out)] at h9
    exact ⟨ret_int h9, rfl⟩
end Go.Proofs.YtmafmebcgmegeaaGreatDoor

namespace Go.Proofs.YtmafmebcgmegeaaGreatDoor
open Go.RowKit Go.Sort
/-- A slice of integers of one's own, as memory grows. -/
def GR.ints (B : Nat) (zs : List Int) : GR := ⟨fun v W => OwnI W B v zs, fun h hE => h.below hE⟩
/-- A slice with no room. -/
def GR.bare : GR := ⟨fun v _ => ∃ g, v = .slice (some ⟨g, 0, none⟩) 0 0, fun h _ => h⟩
/-- The cells of a type with lists of one's own. -/
def tyW (nm : ByteArray) (va : Value) (T : Bell.Ty) (vq vs : Value) : Array Value := #[.string nm, va, .int .i64 (T.direct.getD 0 0), .int .i64 (T.direct.getD 1 0), .int .i64 (T.direct.getD 2 0), .int .i64 (T.direct.getD 3 0), .int .i64 (T.direct.getD 4 0), .int .i64 (T.direct.getD 5 0), .int .i64 (T.direct.getD 6 0), .int .i64 (T.direct.getD 7 0), .int .i64 T.side, vq, vs]
def GR.ty (B : Nat) (nm : ByteArray) (sh : List Int) (T : Bell.Ty) : GR :=
  ⟨fun v W => ∃ va vq, v = .agg (tyW nm va T vq (.slice none 0 0)) ∧ OwnI W B va sh ∧ OwnI W B vq T.squares, fun ⟨va, vq, e, h1, h2⟩ hE => ⟨va, vq, e, h1.below hE, h2.below hE⟩⟩
/-- A setting with its own list; a slice of it alone. -/
def GR.set (B : Nat) (p : Int) (zs : List Int) : GR := ⟨fun v W => ∃ A m c, v = .agg #[.int .i64 p, .slice A m c] ∧ OwnI W B (.slice A m c) zs, fun ⟨A, m, c, e, h⟩ hE => ⟨A, m, c, e, h.below hE⟩⟩
def GR.one (B : Nat) (p : Int) (zs : List Int) : GR := ⟨fun v W => ∃ g A m c, v = .slice (some ⟨g, 0, none⟩) 1 1 ∧ Blk W g 172 #[.int .i64 p, .slice A m c] ∧ OwnI W B (.slice A m c) zs, fun ⟨g, A, m, c, e, h1, h2⟩ hE => ⟨g, A, m, c, e, h1.below hE, h2.below hE⟩⟩
/-- A new block. -/
def GR.new (B : Nat) (t : TypeId) (cs : Array Value) : GR := ⟨fun v W => ∃ g, v = .pointer (some ⟨g, 0, none⟩) ∧ B ≤ g ∧ Blk W g t cs, fun ⟨g, e, h1, h2⟩ hE => ⟨g, e, h1, h2.below hE⟩⟩
theorem IntsAt.cellsAt {w : World} {g o n : Nat} {zs : List Int} (h : IntsAt w (some ⟨g, o, none⟩) n zs) : ∀ j u, (zs.map (Value.int .i64))[j]? = some u → w.cell? ((⟨g, o, none⟩ : Addr).add j) = some u := fun j u hu => by
  have hj : j < n := by
    have := (List.getElem?_eq_some_iff.1 hu).1
    rw [List.length_map, h.1] at this
    exact this
  obtain ⟨b, off, he, hh⟩ := h.2 (by omega)
  cases he
  rw [addAddr, hh j hj, ← hu]
  simp [List.getD_eq_getElem?_getD, List.getElem?_eq_getElem (show j < zs.length by rw [h.1]; exact hj)]
/-- The cells of settings. -/
def stCells (P : List (Int × Value)) : List Value := P.flatMap fun p => [.int .i64 p.1, p.2]
/-- Rows of different types lie in different blocks. -/
theorem row_ext {W W' : World} {base : Nat} {e : TypeId} {size n : Nat} {v : Value} {xs : List Value} (h : W.ownsRow base e size v n xs) (hE : Ext W W') : W'.ownsRow base e size v n xs := by
  refine World.ownsRow.kept h (row := none) ⟨hE.os, hE.tape, hE.output, hE.size, fun k hk _ => hE.block k hk⟩ ?_
  cases hv : v.ownBlock with
  | none => exact .inl rfl
  | some b => exact .inr (by simp)
theorem _root_.Go.RowKit.Below.ext {A B C : World} (h : Below A.heap.size A B) (k : Ext B C) : Ext A C := Ext.trans h k
theorem OwnI.slice {W : World} {B : Nat} {v : Value} {zs : List Int} (h : OwnI W B v zs) : ∃ A m c, v = .slice A m c ∧ IntsAt W A m zs := by
  rcases h.form with ⟨rfl, _⟩ | ⟨g, cap, rfl, _⟩
  · exact ⟨_, _, _, rfl, h.at_⟩
  · exact ⟨_, _, _, rfl, h.at_⟩
theorem OwnI.room {W : World} {B : Nat} {A : Option Addr} {n c : Nat} {zs : List Int} (h : OwnI W B (.slice A n c) zs) (hn : 0 < n) : (∃ g, A = some ⟨g, 0, none⟩) ∧ n ≤ c ∧ c ≤ 9223372036854775807 := by
  rcases h.2 with ⟨hv, _⟩ | ⟨g, cap, cur, hv, _, _, h1, h2, _⟩
  · simp at hv; omega
  · simp only [Value.slice.injEq] at hv
    obtain ⟨rfl, e, rfl⟩ := hv
    unfold maxLen at h2
    exact ⟨⟨g, rfl⟩, by omega, by omega⟩
theorem Ext.alloc (W : World) (o : Obj) : Ext W (W.alloc o) := (Below.refl _ _).alloc (Nat.le_refl _) _
end Go.Proofs.YtmafmebcgmegeaaGreatDoor

namespace Go.Proofs.YtmafmebcgmegeaaGreatDoor
open Go.RowKit Go.Sort
theorem OwnI.sl {W : World} {B n : Nat} {v : Value} {zs : List Int} (h : OwnI W B v zs) (hl : zs.length = n) (hn : 0 < n) : ∃ A c, v = .slice A n c := by
  rcases h.form with ⟨h1, h2⟩ | ⟨g3, c3, h1, _⟩
  · exfalso; rw [h2] at hl; simp at hl; omega
  · exact ⟨_, _, by rw [h1, hl]⟩
theorem cell_kept {W W' : World} (hE : Ext W W') {p : Addr} {v : Value} (h : W.cell? p = some v) : W'.cell? p = some v := by
  rw [hE.below.cell (World.block_lt_of_cell? _ _ h)]; exact h
theorem row_high {w W : World} {base : Nat} {t : TypeId} {size n : Nat} {v : Value} {xs : List Value} (h : w.ownsRow base t size v n xs) (k : ∀ b, base ≤ b → b < w.heap.size → W.heap[b]? = w.heap[b]?) : W.ownsRow base t size v n xs := by
  rcases h with ⟨h1, h2 | ⟨g, cap, cur, hv, hg, hc, r⟩⟩
  · exact ⟨h1, .inl h2⟩
  · refine ⟨h1, .inr ⟨g, cap, cur, hv, hg, ?_, r⟩⟩
    exact (k g hg (Array.getElem?_eq_some_iff.1 hc).1).trans hc
/-- A type of the reference whose lists are one's own. -/
structure OwnTy (w : World) (base : Nat) (sh : List Int) (T : Bell.Ty) (A1 : Option Addr) (sn c1 gq qn c2 gS gn cS : Nat) (P : List (Int × Value)) : Prop where
  sh : OwnI w base (.slice A1 sn c1) sh
  sq : OwnI w base (.slice (some ⟨gq, 0, none⟩) qn c2) T.squares
  row : w.ownsRow base 145 2 (.slice (some ⟨gS, 0, none⟩) gn cS) gn (stCells P)
  len : P.length = gn
  each : ∀ j, j < gn → (P.getD j (0, undef)).1 = Bell.ePow T.sets j ∧ OwnI w base (P.getD j (0, undef)).2 ((T.sets.getD j (0, [])).2)
  cap : qn ≤ c2 ∧ c2 ≤ 9223372036854775807
theorem OwnTy.high {w W : World} {base : Nat} {sh : List Int} {T : Bell.Ty} {A1 : Option Addr} {sn c1 gq qn c2 gS gn cS : Nat} {P : List (Int × Value)} (h : OwnTy w base sh T A1 sn c1 gq qn c2 gS gn cS P) (k : ∀ b, base ≤ b → b < w.heap.size → W.heap[b]? = w.heap[b]?) : OwnTy W base sh T A1 sn c1 gq qn c2 gS gn cS P :=
  ⟨row_high h.sh k, row_high h.sq k, row_high h.row k, h.len, fun j hj => ⟨(h.each j hj).1, row_high (h.each j hj).2 k⟩, h.cap⟩
end Go.Proofs.YtmafmebcgmegeaaGreatDoor
