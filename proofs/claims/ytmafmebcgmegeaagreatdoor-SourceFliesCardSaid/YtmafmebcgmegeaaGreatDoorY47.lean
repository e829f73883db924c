/- Texts Qx of the proof. -/
import Derived.Test.YtmafmebcgmegeaaGreatDoorY46
namespace Go.Proofs.YtmafmebcgmegeaaGreatDoor
open Go.RowKit Go.Sort
/-- A whole list appended to an empty one. -/
theorem wpList_copy {ops : Array Oper} {rest : List Oper} {o : Oper} {a : Act} {W : World} {Q : Exit → Act → World → Prop} (hgd : o.guard = none) (s x : Operand) (t e : TypeId) (i : TypeInfo) (z : Value) (size bytes : Nat)
    (ht : Tryz.prog.underlying t = some (.slice e)) (hi : Tryz.prog.info? e = some i) (hz0 : i.zero = some z) (hz1 : i.size = size) (hz2 : i.bytes = bytes) (hz3 : z.cells.size = size) (hsz : 0 < size)
    (ho : o.op = .call { callee := .builtin .append, args := #[s, x], argTypes := #[t, t] }) {n c b off : Nat} {cells : List Value}
    (hs : ∃ g, a.eval s = .slice (some ⟨g, 0, none⟩) 0 0) (hx : a.eval x = .slice (some ⟨b, off, none⟩) n c) (hn : 0 < n) (hl : cells.length = n * size)
    (hc : ∀ j u, cells[j]? = some u → W.cell? ((⟨b, off, none⟩ : Addr).add j) = some u) (h1 : n ≤ maxLen) (h2 : n * bytes ≤ 140737488355328)
    (hk : ∀ g c' W', Ext W W' → W'.ownsRow W.heap.size e size (.slice (some ⟨g, 0, none⟩) n c') n cells → n ≤ c' → c' ≤ 9223372036854775807 → wpList Tryz.prog ops Q rest (a.put o.dst (.slice (some ⟨g, 0, none⟩) n c')) W') :
    wpList Tryz.prog ops Q (o :: rest) a W := by
  refine wpList_plain hgd fun K hK' => ?_
  obtain ⟨g, hg⟩ := hs
  obtain ⟨v', w', hrun, r1, r2⟩ := run_append_arg_grows (P := Tryz.prog) W t o.type e i z size bytes ht hi hz0 hz1 hz2 hz3 hsz ⟨g, 0, none⟩ 0 0 [] (by simp) (fun j u h => by simp at h)
    ⟨b, off, none⟩ n c cells hl hc (by omega) (by omega) (by simpa using h2)
  obtain ⟨g1, g2, g3, g4, g5⟩ := r2
  have hE : Ext W w' := ⟨g1, g2, g3, g4, fun k hk => g5 k hk (by simp)⟩
  have h2 : w'.ownsRow W.heap.size e size v' n cells := by simpa using r1
  obtain ⟨gq, cq, hv, hnc, hm⟩ : ∃ gq cq, v' = .slice (some ⟨gq, 0, none⟩) n cq ∧ n ≤ cq ∧ cq ≤ 9223372036854775807 := by
    rcases h2.2 with ⟨_, h0⟩ | ⟨gq, cap, cur, hv, _, _, h3, h4, _⟩
    · omega
    · exact ⟨gq, cap, hv, h3, by unfold maxLen at h4; omega⟩
  subst hv
  unfold Oper.wp
  simp [execOp, ho, resolve, invoke, builtin, hg, hx, hrun, Result.andThen]
  exact hK' _ _ (hk gq cq w' hE h2 hnc hm)
theorem wpList_points {ops : Array Oper} {rest : List Oper} {o : Oper} {a : Act} {W : World} {Q : Exit → Act → World → Prop} (hgd : o.guard = none) (s x : Operand)
    (ho : o.op = .call { callee := .builtin .append, args := #[s, x], argTypes := #[82, 82] }) {n c : Nat} {A : Option Addr} {l : List Bell.Pt}
    (hs : ∃ g, a.eval s = .slice (some ⟨g, 0, none⟩) 0 0) (hx : a.eval x = .slice A n c) (hz : PtsAt W A n l) (hn2 : n ≤ 100000)
    (hk : ∀ g c' W', Ext W W' → PtsAt W' (some ⟨g, 0, none⟩) n l → n ≤ c' → c' ≤ 9223372036854775807 → wpList Tryz.prog ops Q rest (a.put o.dst (.slice (some ⟨g, 0, none⟩) n c')) W') :
    wpList Tryz.prog ops Q (o :: rest) a W := by
  refine wpList_plain hgd fun K hK' => ?_
  refine Oper.wp_mono ?_ (gs_points s x ho hs hx hz hn2)
  rintro a' W' ⟨v, rfl, hE, g, c', rfl, h1, h2, h3⟩
  exact hK' _ _ (hk g c' W' hE h1 h2 h3)
theorem SpsAt.cellsAt {w : World} {g o n : Nat} {l : List Bell.Sp} (h : SpsAt w (some ⟨g, o, none⟩) n l) : ∀ j u, (spCells l)[j]? = some u → w.cell? ((⟨g, o, none⟩ : Addr).add j) = some u := fun j u hu => by
  have hj : j < n * 3 := by
    have := (List.getElem?_eq_some_iff.1 hu).1
    rw [spCells_len, h.1] at this
    exact this
  obtain ⟨b, off, he, hh⟩ := h.2 (by omega)
  cases he
  obtain ⟨c0, c1, c2⟩ := hh (j / 3) (by omega)
  obtain ⟨d0, d1, d2⟩ := spCells_at l (j / 3) (by rw [h.1]; omega)
  rw [addAddr]
  rcases (show j % 3 = 0 ∨ j % 3 = 1 ∨ j % 3 = 2 by omega) with hm | hm | hm
  · have e : j = j / 3 * 3 := by omega
    rw [e] at hu ⊢
    rw [d0] at hu
    rw [c0, ← hu]
  · have e : j = j / 3 * 3 + 1 := by omega
    rw [e] at hu ⊢
    rw [d1] at hu
    rw [← Nat.add_assoc, c1, ← hu]
  · have e : j = j / 3 * 3 + 2 := by omega
    rw [e] at hu ⊢
    rw [d2] at hu
    rw [← Nat.add_assoc, c2, ← hu]
/-- A procedure of the reference in a block of the call's own. -/
def OwnPr (w : World) (base g n c : Nat) (l : List Bell.Sp) : Prop := w.ownsRow base 161 3 (.slice (some ⟨g, 0, none⟩) n c) n (spCells l) ∧ l.length = n
theorem OwnPr.at_ {w : World} {base g n c : Nat} {l : List Bell.Sp} (h : OwnPr w base g n c l) : SpsAt w (some ⟨g, 0, none⟩) n l := by
  refine ⟨h.2, fun _ => ⟨g, 0, rfl, fun i hi => ?_⟩⟩
  obtain ⟨d0, d1, d2⟩ := spCells_at l i (by rw [h.2]; exact hi)
  refine ⟨?_, ?_, ?_⟩
  · rw [Nat.zero_add, World.ownsRow.cellAt h.1 (i * 3) (by omega)]; exact d0
  · rw [Nat.zero_add, World.ownsRow.cellAt h.1 (i * 3 + 1) (by omega)]; exact d1
  · rw [Nat.zero_add, World.ownsRow.cellAt h.1 (i * 3 + 2) (by omega)]; exact d2
theorem OwnPr.level {w : World} {base g n c : Nat} {H : Int} {p : List Bell.Sp} {k : Nat} (h : OwnPr w base g n c (levK H p k)) (hk : k < n) :
    OwnPr (w.setCell ⟨g, k * 3 + 1, none⟩ (.int .i64 H)) base g n c (levK H p (k + 1)) := by
  have hp : p.length = n := by have := h.2; rwa [levK_len] at this
  have := (World.ownsRow.stored h.1 (k * 3 + 1) (.int .i64 H)).1
  rw [spCells_set (by rw [levK_len]; omega), levK_succ (by omega)] at this
  exact ⟨this, by rw [levK_len]; exact hp⟩
theorem infoSp : (Tryz.prog.info? 161).map (fun i => (i.zero, i.size, i.bytes)) = some (some (.agg #[.int .i64 0, .int .i64 0, .int .i64 0]), 3, 24) := by kernel_rfl
theorem TrAt.cellsAt {w : World} {g o n : Nat} {l : List Bell.Fx} (h : TrAt w (some ⟨g, o, none⟩) n l) : ∀ j u, (fxCells l)[j]? = some u → w.cell? ((⟨g, o, none⟩ : Addr).add j) = some u := fun j u hu => by
  have hj : j < n * 5 := by
    have := (List.getElem?_eq_some_iff.1 hu).1
    rw [fxCells_len, h.1] at this
    exact this
  obtain ⟨b, off, he, _, hh⟩ := h.2 (by omega)
  cases he
  obtain ⟨c0, c1, c2, c3, c4⟩ := hh (j / 5) (by omega)
  obtain ⟨d0, d1, d2, d3, d4⟩ := fxCells_at l (j / 5) (by rw [h.1]; omega)
  rw [addAddr]
  rcases (show j % 5 = 0 ∨ j % 5 = 1 ∨ j % 5 = 2 ∨ j % 5 = 3 ∨ j % 5 = 4 by omega) with hm | hm | hm | hm | hm
  · have e : j = j / 5 * 5 := by omega
    rw [e] at hu ⊢
    rw [d0] at hu
    rw [c0, ← hu]
  · have e : j = j / 5 * 5 + 1 := by omega
    rw [e] at hu ⊢
    rw [d1] at hu
    rw [← Nat.add_assoc, c1, ← hu]
  · have e : j = j / 5 * 5 + 2 := by omega
    rw [e] at hu ⊢
    rw [d2] at hu
    rw [← Nat.add_assoc, c2, ← hu]
  · have e : j = j / 5 * 5 + 3 := by omega
    rw [e] at hu ⊢
    rw [d3] at hu
    rw [← Nat.add_assoc, c3, ← hu]
  · have e : j = j / 5 * 5 + 4 := by omega
    rw [e] at hu ⊢
    rw [d4] at hu
    rw [← Nat.add_assoc, c4, ← hu]
/-- A whole track appended to an empty one. -/
theorem wpList_fixes {ops : Array Oper} {rest : List Oper} {o : Oper} {a : Act} {W : World} {Q : Exit → Act → World → Prop} (hgd : o.guard = none) (s x : Operand)
    (ho : o.op = .call { callee := .builtin .append, args := #[s, x], argTypes := #[67, 67] }) {n c b off : Nat} {l : List Bell.Fx}
    (hs : ∃ g, a.eval s = .slice (some ⟨g, 0, none⟩) 0 0) (hx : a.eval x = .slice (some ⟨b, off, none⟩) n c) (hz : TrAt W (some ⟨b, off, none⟩) n l) (hn : 0 < n) (hn2 : n ≤ 100000)
    (hk : ∀ g c' W', Ext W W' → FixesAt W' g 0 n l → n ≤ c' → c' ≤ 9223372036854775807 → wpList Tryz.prog ops Q rest (a.put o.dst (.slice (some ⟨g, 0, none⟩) n c')) W') :
    wpList Tryz.prog ops Q (o :: rest) a W := by
  obtain ⟨i0, hi, hz0, hz1, hz2⟩ := info_parts infoFix
  refine wpList_copy hgd s x 67 152 i0 _ 5 40 Tryz.underlying67 hi hz0 hz1 hz2 rfl (by decide) ho hs hx hn (by rw [fxCells_len, hz.1]) hz.cellsAt (by unfold maxLen; omega) (by omega) ?_
  intro g c' W' hE hown h1 h2
  refine hk g c' W' hE ?_ h1 h2
  have ht : OwnT W' W.heap.size (.slice (some ⟨g, 0, none⟩) n c') l := by unfold OwnT; rw [hz.1]; exact hown
  obtain ⟨A', c2, he, htr, _⟩ := OwnT.at_ ht
  injection he with e1 e2 e3
  subst e1
  rw [hz.1] at htr
  obtain ⟨b', o', he, hf⟩ := htr.2 hn
  cases he
  exact hf
end Go.Proofs.YtmafmebcgmegeaaGreatDoor
