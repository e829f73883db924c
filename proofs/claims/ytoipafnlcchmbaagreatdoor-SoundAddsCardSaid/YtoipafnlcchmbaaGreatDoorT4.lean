/- SoundAdds's three appends in one statement, whatever their order (made by wip/tools/gen_t4.py). -/
import Derived.Test.YtoipafnlcchmbaaGreatDoorT3
import Derived.Test.YtoipafnlcchmbaaGreatDoorQB
import Derived.Great.BuildSlice
namespace Go.Proofs.YtoipafnlcchmbaaGreatDoor
open Go.RowKit

def op18_0 : Oper := { dst := some 141, op := Op.move (Operand.tmp 5), type := 26, pos := "law.go:287", after := #[], guard := none }
def op18_1 : Oper := { dst := some 142, op := Op.move (Operand.tmp 14), type := 3, pos := "law.go:287", after := #[], guard := none }
def op18_2 : Oper := { dst := some 143, op := Op.buildSlice 26 1 #[(0, Operand.tmp 142)], type := 26, pos := "law.go:287", after := #[{ on := 1, ground := Ground.data }], guard := none }
def op18_3 : Oper := { dst := some 144, op := Op.call { callee := Callee.builtin Builtin.append, args := #[Operand.tmp 141, Operand.tmp 143], argTypes := #[26, 26] }, type := 26, pos := "law.go:287", after := #[{ on := 0, ground := Ground.data }, { on := 2, ground := Ground.data }], guard := none }
def op18_4 : Oper := { dst := some 145, op := Op.move (Operand.tmp 7), type := 26, pos := "law.go:287", after := #[], guard := none }
def op18_5 : Oper := { dst := some 146, op := Op.move (Operand.tmp 15), type := 3, pos := "law.go:287", after := #[], guard := none }
def op18_6 : Oper := { dst := some 147, op := Op.buildSlice 26 1 #[(0, Operand.tmp 146)], type := 26, pos := "law.go:287", after := #[{ on := 5, ground := Ground.data }], guard := none }
def op18_7 : Oper := { dst := some 148, op := Op.call { callee := Callee.builtin Builtin.append, args := #[Operand.tmp 145, Operand.tmp 147], argTypes := #[26, 26] }, type := 26, pos := "law.go:287", after := #[{ on := 4, ground := Ground.data }, { on := 6, ground := Ground.data }, { on := 3, ground := Ground.chain }], guard := none }
def op18_8 : Oper := { dst := some 149, op := Op.move (Operand.tmp 6), type := 26, pos := "law.go:287", after := #[], guard := none }
def op18_9 : Oper := { dst := some 150, op := Op.indexAddr 155 (Operand.tmp 3) (Operand.const (Value.int IntKind.i64 0)), type := 0, pos := "law.go:287", after := #[], guard := none }
def op18_10 : Oper := { dst := some 151, op := Op.load 154 (Operand.tmp 150), type := 154, pos := "law.go:287", after := #[{ on := 9, ground := Ground.data }], guard := none }
def op18_11 : Oper := { dst := some 152, op := Op.convert 154 3 (Operand.tmp 151), type := 3, pos := "law.go:287", after := #[{ on := 10, ground := Ground.data }], guard := none }
def op18_12 : Oper := { dst := some 153, op := Op.move (Operand.tmp 12), type := 3, pos := "law.go:287", after := #[], guard := none }
def op18_13 : Oper := { dst := some 154, op := Op.binOp BinOp.add 3 (Operand.tmp 152) (Operand.tmp 153) 3, type := 3, pos := "law.go:287", after := #[{ on := 11, ground := Ground.data }, { on := 12, ground := Ground.data }], guard := none }
def op18_14 : Oper := { dst := some 155, op := Op.binOp BinOp.rem 3 (Operand.tmp 154) (Operand.const (Value.int IntKind.i64 1000)) 3, type := 3, pos := "law.go:287", after := #[{ on := 13, ground := Ground.data }], guard := none }
def op18_15 : Oper := { dst := some 156, op := Op.binOp BinOp.add 3 (Operand.const (Value.int IntKind.i64 1)) (Operand.tmp 155) 3, type := 3, pos := "law.go:287", after := #[{ on := 14, ground := Ground.data }], guard := none }
def op18_16 : Oper := { dst := some 157, op := Op.buildSlice 26 1 #[(0, Operand.tmp 156)], type := 26, pos := "law.go:287", after := #[{ on := 15, ground := Ground.data }], guard := none }
def op18_17 : Oper := { dst := some 158, op := Op.call { callee := Callee.builtin Builtin.append, args := #[Operand.tmp 149, Operand.tmp 157], argTypes := #[26, 26] }, type := 26, pos := "law.go:287", after := #[{ on := 8, ground := Ground.data }, { on := 16, ground := Ground.data }, { on := 7, ground := Ground.chain }], guard := none }
def op18_18 : Oper := { dst := some 5, op := Op.assign (Operand.tmp 144), type := 26, pos := "law.go:287", after := #[{ on := 3, ground := Ground.data }, { on := 17, ground := Ground.chain }, { on := 0, ground := Ground.phase }, { on := 1, ground := Ground.phase }, { on := 2, ground := Ground.phase }, { on := 3, ground := Ground.phase }, { on := 4, ground := Ground.textOnly Departure.lateStores }, { on := 5, ground := Ground.textOnly Departure.lateStores }, { on := 6, ground := Ground.textOnly Departure.lateStores }, { on := 7, ground := Ground.textOnly Departure.lateStoresUnsure }, { on := 8, ground := Ground.textOnly Departure.lateStores }, { on := 9, ground := Ground.textOnly Departure.lateStores }, { on := 10, ground := Ground.textOnly Departure.lateStores }, { on := 11, ground := Ground.textOnly Departure.lateStores }, { on := 12, ground := Ground.textOnly Departure.lateStores }, { on := 13, ground := Ground.textOnly Departure.lateStores }, { on := 14, ground := Ground.textOnly Departure.lateStores }, { on := 15, ground := Ground.textOnly Departure.lateStores }, { on := 16, ground := Ground.textOnly Departure.lateStores }, { on := 17, ground := Ground.textOnly Departure.lateStoresUnsure }], guard := none }
def op18_19 : Oper := { dst := some 7, op := Op.assign (Operand.tmp 148), type := 26, pos := "law.go:287", after := #[{ on := 7, ground := Ground.data }, { on := 18, ground := Ground.chain }, { on := 0, ground := Ground.phase }, { on := 1, ground := Ground.phase }, { on := 2, ground := Ground.phase }, { on := 3, ground := Ground.phase }, { on := 4, ground := Ground.phase }, { on := 5, ground := Ground.phase }, { on := 6, ground := Ground.phase }, { on := 7, ground := Ground.phase }, { on := 8, ground := Ground.textOnly Departure.lateStores }, { on := 9, ground := Ground.textOnly Departure.lateStores }, { on := 10, ground := Ground.textOnly Departure.lateStores }, { on := 11, ground := Ground.textOnly Departure.lateStores }, { on := 12, ground := Ground.textOnly Departure.lateStores }, { on := 13, ground := Ground.textOnly Departure.lateStores }, { on := 14, ground := Ground.textOnly Departure.lateStores }, { on := 15, ground := Ground.textOnly Departure.lateStores }, { on := 16, ground := Ground.textOnly Departure.lateStores }, { on := 17, ground := Ground.textOnly Departure.lateStoresUnsure }, { on := 18, ground := Ground.phase }], guard := none }
def op18_20 : Oper := { dst := some 6, op := Op.assign (Operand.tmp 158), type := 26, pos := "law.go:287", after := #[{ on := 17, ground := Ground.data }, { on := 19, ground := Ground.chain }, { on := 0, ground := Ground.phase }, { on := 1, ground := Ground.phase }, { on := 2, ground := Ground.phase }, { on := 3, ground := Ground.phase }, { on := 4, ground := Ground.phase }, { on := 5, ground := Ground.phase }, { on := 6, ground := Ground.phase }, { on := 7, ground := Ground.phase }, { on := 8, ground := Ground.phase }, { on := 9, ground := Ground.phase }, { on := 10, ground := Ground.phase }, { on := 11, ground := Ground.phase }, { on := 12, ground := Ground.phase }, { on := 13, ground := Ground.phase }, { on := 14, ground := Ground.phase }, { on := 15, ground := Ground.phase }, { on := 16, ground := Ground.phase }, { on := 17, ground := Ground.phase }, { on := 18, ground := Ground.phase }, { on := 19, ground := Ground.phase }], guard := none }
def ops18 : Array Oper := #[op18_0, op18_1, op18_2, op18_3, op18_4, op18_5, op18_6, op18_7, op18_8, op18_9, op18_10, op18_11, op18_12, op18_13, op18_14, op18_15, op18_16, op18_17, op18_18, op18_19, op18_20]

theorem wp_bs {F : Act} {w : World} {K : Act → World → Prop} {Q : Exit → Act → World → Prop} (o : Oper) (x : Operand) (ho : o.op = .buildSlice 26 1 #[(0, x)]) (z : Int) (hx : F.eval x = .int .i64 z)
    (h : K (F.put o.dst (.slice (some ⟨w.heap.size, 0, none⟩) 1 1)) (w.alloc (.cells #[.int .i64 z] 3))) : o.wp Tryz.prog F w K Q := by
  obtain ⟨i0, hi, hz0, hz1, hz2⟩ := info_parts infoInt
  refine wp_buildSlice 26 3 1 _ ho #[.int .i64 z] i0 (.int .i64 0) Tryz.underlying26 hi hz0 (by rw [hz1]; omega) (by rw [hz1]; omega) ?_ h
  simp only [List.map_toArray, List.map_cons, List.map_nil, hx]
  rw [hz1]
  kernel_rfl
theorem wp_ap {F : Act} {w : World} {K : Act → World → Prop} {Q : Exit → Act → World → Prop} (o : Oper) (s x : Operand) (ho : o.op = .call { callee := .builtin .append, args := #[s, x], argTypes := #[26, 26] })
    (B : Nat) (v : Value) (n : Nat) (xs : List Value) (hs : F.eval s = v) (hown : w.ownsRow B 3 1 v n xs) (g : Nat) (y : Int) (hx : F.eval x = .slice (some ⟨g, 0, none⟩) 1 1) (hy : w.heap[g]? = some (.cells #[.int .i64 y] 3 (0, 0)))
    (hn : n ≤ 1000) (hB : B ≤ w.heap.size)
    (h : ∀ v' w', w'.ownsRow B 3 1 v' (n + 1) (xs ++ [.int .i64 y]) → w.grownBy w' v.ownBlock → (v'.ownBlock = v.ownBlock ∨ v'.ownBlock = some w.heap.size) → K (F.put o.dst v') w') : o.wp Tryz.prog F w K Q := by
  obtain ⟨i0, hi, hz0, hz1, hz2⟩ := info_parts infoInt
  exact wp_append_at o s x 26 ho B 3 i0 (.int .i64 0) 8 Tryz.underlying26 hi hz0 hz1 hz2 rfl v n xs hs hown g _ hx hy rfl (by unfold maxLen; omega) (by omega) hB h
theorem put_sw (a : Act) {d e : Nat} (v u : Value) (h : d ≠ e) : (a.put (some d) v).put (some e) u = (a.put (some e) u).put (some d) v :=
  Act.put_comm a v u (fun x hx hy => h (by cases hx; cases hy; rfl))

/-- What the frame holds when all that only reads has been done. -/
structure Fr18 (f : Act) (va vl vt : Value) (x1 x2 x3 : Int) : Prop where
  s : f.tmps.size = 386
  e141 : f.eval (.tmp 141) = va
  e142 : f.eval (.tmp 142) = .int .i64 x1
  e145 : f.eval (.tmp 145) = vl
  e146 : f.eval (.tmp 146) = .int .i64 x2
  e149 : f.eval (.tmp 149) = vt
  e156 : f.eval (.tmp 156) = .int .i64 x3
theorem Rs.bw {B : Nat} {e : TypeId} {W w : World} {rv0 rv : Nat → Value} {rx : Nat → List Value} {tg : Nat → Option Nat} {tx : Nat → Value} (h : Rs B e W w rv0 rv rx tg tx) : B ≤ w.heap.size := Nat.le_trans h.base h.below.size
theorem Rs.cellAt {B : Nat} {e : TypeId} {W w : World} {rv0 rv : Nat → Value} {rx : Nat → List Value} {tg : Nat → Option Nat} {tx : Nat → Value} (h : Rs B e W w rv0 rv rx tg tx) {nb j : Nat} {v : Value} (hn : W.cell? ⟨nb, j, none⟩ = some v)
    (hnb : ∀ i, i < 3 → (rv0 i).ownBlock ≠ some nb) : w.cell? ⟨nb, j, none⟩ = some v := by
  rw [World.cell?_of_block (w := W) (h.keep nb (World.block_lt_of_cell? _ _ hn) hnb)]
  exact hn

section
variable (B nb : Nat) (W : World) (va vl vt : Value) (la ll lt : List Value) (x1 x2 x3 n0 : Int) (f : Act) (Q : Exit → Act → World → Prop)
/-- What goes on behind the region. -/
def Goes18 : Prop := ∀ (v1 v2 v3 : Value) (g1 g2 g3 : Nat) (w : World), Rs B 3 W w (tri va vl vt) (tri v1 v2 v3) (tri (la ++ [.int .i64 x1]) (ll ++ [.int .i64 x2]) (lt ++ [.int .i64 x3])) (tri (some g1) (some g2) (some g3)) (tri (.int .i64 x1) (.int .i64 x2) (.int .i64 x3)) →
  Q .normal (((((((((f.put (some 143) (.slice (some ⟨g1, 0, none⟩) 1 1)).put (some 144) v1).put (some 147) (.slice (some ⟨g2, 0, none⟩) 1 1)).put (some 148) v2).put (some 157) (.slice (some ⟨g3, 0, none⟩) 1 1)).put (some 158) v3).put (some 5) v1).put (some 7) v2).put (some 6) v3) w
def Sw (w : World) : Prop := w.cell? ⟨nb, 0, none⟩ = some (.int .u16 n0)
end

set_option maxRecDepth 100000 in
theorem s18_3111 (B nb : Nat) (W : World) (va vl vt : Value) (la ll lt : List Value) (x1 x2 x3 n0 : Int) (f : Act) (Q : Exit → Act → World → Prop) (hf : Fr18 f va vl vt x1 x2 x3) (hn : Sw nb n0 W) (hnb : ∀ i, i < 3 → (tri va vl vt i).ownBlock ≠ some nb) (_hlen : la.length ≤ 1000 ∧ ll.length ≤ 1000 ∧ lt.length ≤ 1000) (hQ : ∀ c a (d : Option Tmp) v w, Q (.panic c) (a.put d v) w → Q (.panic c) a w) (hG : Goes18 B W va vl vt la ll lt x1 x2 x3 f Q) (g1 g2 g3 : Nat) (v1 v2 v3 : Value) (w : World) (h : Rs B 3 W w (tri va vl vt) (tri v1 v2 v3) (tri (la ++ [.int .i64 x1]) (ll ++ [.int .i64 x2]) (lt ++ [.int .i64 x3])) (tri (some g1) (some g2) (some g3)) (tri (.int .i64 x1) (.int .i64 x2) (.int .i64 x3))) :
    wpAnyH Tryz.prog .any ops18 Q (Sw nb n0) 3 #[true, true, true, true, true, true, true, true, true, true, true, true, true, true, true, true, true, true, false, false, false] ((((((f.put (some 143) (.slice (some ⟨g1, 0, none⟩) 1 1)).put (some 144) v1).put (some 147) (.slice (some ⟨g2, 0, none⟩) 1 1)).put (some 148) v2).put (some 157) (.slice (some ⟨g3, 0, none⟩) 1 1)).put (some 158) v3) w := by
  have hS : Sw nb n0 w := h.cellAt hn hnb
  refine wpAnyH_take (i := 18) (oi := op18_18) (v := v1) rfl (by kernel_rfl) (by kernel_rfl) (by kernel_rfl) (fun c a w h => hQ c a _ _ w h) (Or.inl ⟨by rfl, fun w _ => ?_⟩) hS ?_
  · have e : Act.eval ((((((f.put (some 143) (.slice (some ⟨g1, 0, none⟩) 1 1)).put (some 144) v1).put (some 147) (.slice (some ⟨g2, 0, none⟩) 1 1)).put (some 148) v2).put (some 157) (.slice (some ⟨g3, 0, none⟩) 1 1)).put (some 158) v3) (.tmp 144) = v1 := ((ev_ne _ _ (by decide)).trans ((ev_ne _ _ (by decide)).trans ((ev_ne _ _ (by decide)).trans ((ev_ne _ _ (by decide)).trans (ev_eq _ _ (by first | (rw [hf.s]; omega) | (simp only [sz_put]; rw [hf.s]; omega)))))))
    simp only [execOp, op18_18, e]
    rfl
  show wpAnyH Tryz.prog .any ops18 Q (Sw nb n0) 2 #[true, true, true, true, true, true, true, true, true, true, true, true, true, true, true, true, true, true, true, false, false] (((((((f.put (some 143) (.slice (some ⟨g1, 0, none⟩) 1 1)).put (some 144) v1).put (some 147) (.slice (some ⟨g2, 0, none⟩) 1 1)).put (some 148) v2).put (some 157) (.slice (some ⟨g3, 0, none⟩) 1 1)).put (some 158) v3).put (some 5) v1) w
  refine wpAnyH_take (i := 19) (oi := op18_19) (v := v2) rfl (by kernel_rfl) (by kernel_rfl) (by kernel_rfl) (fun c a w h => hQ c a _ _ w h) (Or.inl ⟨by rfl, fun w _ => ?_⟩) hS ?_
  · have e : Act.eval (((((((f.put (some 143) (.slice (some ⟨g1, 0, none⟩) 1 1)).put (some 144) v1).put (some 147) (.slice (some ⟨g2, 0, none⟩) 1 1)).put (some 148) v2).put (some 157) (.slice (some ⟨g3, 0, none⟩) 1 1)).put (some 158) v3).put (some 5) v1) (.tmp 148) = v2 := ((ev_ne _ _ (by decide)).trans ((ev_ne _ _ (by decide)).trans ((ev_ne _ _ (by decide)).trans (ev_eq _ _ (by first | (rw [hf.s]; omega) | (simp only [sz_put]; rw [hf.s]; omega))))))
    simp only [execOp, op18_19, e]
    rfl
  show wpAnyH Tryz.prog .any ops18 Q (Sw nb n0) 1 #[true, true, true, true, true, true, true, true, true, true, true, true, true, true, true, true, true, true, true, true, false] ((((((((f.put (some 143) (.slice (some ⟨g1, 0, none⟩) 1 1)).put (some 144) v1).put (some 147) (.slice (some ⟨g2, 0, none⟩) 1 1)).put (some 148) v2).put (some 157) (.slice (some ⟨g3, 0, none⟩) 1 1)).put (some 158) v3).put (some 5) v1).put (some 7) v2) w
  refine wpAnyH_take (i := 20) (oi := op18_20) (v := v3) rfl (by kernel_rfl) (by kernel_rfl) (by kernel_rfl) (fun c a w h => hQ c a _ _ w h) (Or.inl ⟨by rfl, fun w _ => ?_⟩) hS ?_
  · have e : Act.eval ((((((((f.put (some 143) (.slice (some ⟨g1, 0, none⟩) 1 1)).put (some 144) v1).put (some 147) (.slice (some ⟨g2, 0, none⟩) 1 1)).put (some 148) v2).put (some 157) (.slice (some ⟨g3, 0, none⟩) 1 1)).put (some 158) v3).put (some 5) v1).put (some 7) v2) (.tmp 158) = v3 := ((ev_ne _ _ (by decide)).trans ((ev_ne _ _ (by decide)).trans (ev_eq _ _ (by first | (rw [hf.s]; omega) | (simp only [sz_put]; rw [hf.s]; omega)))))
    simp only [execOp, op18_20, e]
    rfl
  show wpAnyH Tryz.prog .any ops18 Q (Sw nb n0) 0 #[true, true, true, true, true, true, true, true, true, true, true, true, true, true, true, true, true, true, true, true, true] (((((((((f.put (some 143) (.slice (some ⟨g1, 0, none⟩) 1 1)).put (some 144) v1).put (some 147) (.slice (some ⟨g2, 0, none⟩) 1 1)).put (some 148) v2).put (some 157) (.slice (some ⟨g3, 0, none⟩) 1 1)).put (some 158) v3).put (some 5) v1).put (some 7) v2).put (some 6) v3) w
  exact wpAnyH_done (by kernel_rfl) (hG v1 v2 v3 g1 g2 g3 w h) _
set_option maxRecDepth 100000 in
theorem s18_2111 (B nb : Nat) (W : World) (va vl vt : Value) (la ll lt : List Value) (x1 x2 x3 n0 : Int) (f : Act) (Q : Exit → Act → World → Prop) (hf : Fr18 f va vl vt x1 x2 x3) (hn : Sw nb n0 W) (hnb : ∀ i, i < 3 → (tri va vl vt i).ownBlock ≠ some nb) (hlen : la.length ≤ 1000 ∧ ll.length ≤ 1000 ∧ lt.length ≤ 1000) (hQ : ∀ c a (d : Option Tmp) v w, Q (.panic c) (a.put d v) w → Q (.panic c) a w) (hG : Goes18 B W va vl vt la ll lt x1 x2 x3 f Q) (g1 g2 g3 : Nat) (v1 v2 : Value) (w : World) (h : Rs B 3 W w (tri va vl vt) (tri v1 v2 vt) (tri (la ++ [.int .i64 x1]) (ll ++ [.int .i64 x2]) lt) (tri (some g1) (some g2) (some g3)) (tri (.int .i64 x1) (.int .i64 x2) (.int .i64 x3))) :
    wpAnyH Tryz.prog .any ops18 Q (Sw nb n0) 4 #[true, true, true, true, true, true, true, true, true, true, true, true, true, true, true, true, true, false, false, false, false] (((((f.put (some 143) (.slice (some ⟨g1, 0, none⟩) 1 1)).put (some 144) v1).put (some 147) (.slice (some ⟨g2, 0, none⟩) 1 1)).put (some 148) v2).put (some 157) (.slice (some ⟨g3, 0, none⟩) 1 1)) w := by
  refine wpAnyH_all (rs := [17]) (by kernel_rfl) (by simp) ?_
  intro i hi
  simp only [List.mem_cons, List.not_mem_nil, or_false] at hi
  rcases hi with rfl
  · refine wpOp_plain op18_17 rfl rfl (wp_ap op18_17 (.tmp 149) (.tmp 157) rfl B vt _ _ ((ev_ne _ _ (by decide)).trans ((ev_ne _ _ (by decide)).trans ((ev_ne _ _ (by decide)).trans ((ev_ne _ _ (by decide)).trans ((ev_ne _ _ (by decide)).trans hf.e149))))) (h.own 2 (by omega)) g3 x3 (ev_eq _ _ (by first | (rw [hf.s]; omega) | (simp only [sz_put]; rw [hf.s]; omega))) (h.tmp 2 g3 (by omega) rfl).1 hlen.2.2 h.bw ?_)
    intro u w1 ho hg hat
    have h2 := h.grow 2 (by omega) ho hg hat
    rw [upd_tri2, upd_tri2] at h2
    refine ⟨h2.cellAt hn hnb, ?_⟩
    show wpAnyH _ _ _ _ _ _ _ (Act.put (((((f.put (some 143) (.slice (some ⟨g1, 0, none⟩) 1 1)).put (some 144) v1).put (some 147) (.slice (some ⟨g2, 0, none⟩) 1 1)).put (some 148) v2).put (some 157) (.slice (some ⟨g3, 0, none⟩) 1 1)) (some 158) _) _
    exact s18_3111 B nb W va vl vt la ll lt x1 x2 x3 n0 f Q hf hn hnb hlen hQ hG g1 g2 g3 v1 v2 u _ h2
set_option maxRecDepth 100000 in
theorem s18_2110 (B nb : Nat) (W : World) (va vl vt : Value) (la ll lt : List Value) (x1 x2 x3 n0 : Int) (f : Act) (Q : Exit → Act → World → Prop) (hf : Fr18 f va vl vt x1 x2 x3) (hn : Sw nb n0 W) (hnb : ∀ i, i < 3 → (tri va vl vt i).ownBlock ≠ some nb) (hlen : la.length ≤ 1000 ∧ ll.length ≤ 1000 ∧ lt.length ≤ 1000) (hQ : ∀ c a (d : Option Tmp) v w, Q (.panic c) (a.put d v) w → Q (.panic c) a w) (hG : Goes18 B W va vl vt la ll lt x1 x2 x3 f Q) (g1 g2 : Nat) (v1 v2 : Value) (w : World) (h : Rs B 3 W w (tri va vl vt) (tri v1 v2 vt) (tri (la ++ [.int .i64 x1]) (ll ++ [.int .i64 x2]) lt) (tri (some g1) (some g2) none) (tri (.int .i64 x1) (.int .i64 x2) (.int .i64 x3))) :
    wpAnyH Tryz.prog .any ops18 Q (Sw nb n0) 5 #[true, true, true, true, true, true, true, true, true, true, true, true, true, true, true, true, false, false, false, false, false] ((((f.put (some 143) (.slice (some ⟨g1, 0, none⟩) 1 1)).put (some 144) v1).put (some 147) (.slice (some ⟨g2, 0, none⟩) 1 1)).put (some 148) v2) w := by
  refine wpAnyH_all (rs := [16]) (by kernel_rfl) (by simp) ?_
  intro i hi
  simp only [List.mem_cons, List.not_mem_nil, or_false] at hi
  rcases hi with rfl
  · refine wpOp_plain op18_16 rfl rfl (wp_bs op18_16 (.tmp 156) rfl x3 ((ev_ne _ _ (by decide)).trans ((ev_ne _ _ (by decide)).trans ((ev_ne _ _ (by decide)).trans ((ev_ne _ _ (by decide)).trans hf.e156)))) ?_)
    have h2 := h.lay 2 (by omega)
    rw [upd_tri2] at h2
    refine ⟨h2.cellAt hn hnb, ?_⟩
    show wpAnyH _ _ _ _ _ _ _ (Act.put ((((f.put (some 143) (.slice (some ⟨g1, 0, none⟩) 1 1)).put (some 144) v1).put (some 147) (.slice (some ⟨g2, 0, none⟩) 1 1)).put (some 148) v2) (some 157) _) _
    exact s18_2111 B nb W va vl vt la ll lt x1 x2 x3 n0 f Q hf hn hnb hlen hQ hG g1 g2 w.heap.size v1 v2 _ h2
set_option maxRecDepth 100000 in
theorem s18_1111 (B nb : Nat) (W : World) (va vl vt : Value) (la ll lt : List Value) (x1 x2 x3 n0 : Int) (f : Act) (Q : Exit → Act → World → Prop) (hf : Fr18 f va vl vt x1 x2 x3) (hn : Sw nb n0 W) (hnb : ∀ i, i < 3 → (tri va vl vt i).ownBlock ≠ some nb) (hlen : la.length ≤ 1000 ∧ ll.length ≤ 1000 ∧ lt.length ≤ 1000) (hQ : ∀ c a (d : Option Tmp) v w, Q (.panic c) (a.put d v) w → Q (.panic c) a w) (hG : Goes18 B W va vl vt la ll lt x1 x2 x3 f Q) (g1 g2 g3 : Nat) (v1 : Value) (w : World) (h : Rs B 3 W w (tri va vl vt) (tri v1 vl vt) (tri (la ++ [.int .i64 x1]) ll lt) (tri (some g1) (some g2) (some g3)) (tri (.int .i64 x1) (.int .i64 x2) (.int .i64 x3))) :
    wpAnyH Tryz.prog .any ops18 Q (Sw nb n0) 5 #[true, true, true, true, true, true, true, false, true, true, true, true, true, true, true, true, true, false, false, false, false] ((((f.put (some 143) (.slice (some ⟨g1, 0, none⟩) 1 1)).put (some 144) v1).put (some 147) (.slice (some ⟨g2, 0, none⟩) 1 1)).put (some 157) (.slice (some ⟨g3, 0, none⟩) 1 1)) w := by
  refine wpAnyH_all (rs := [7]) (by kernel_rfl) (by simp) ?_
  intro i hi
  simp only [List.mem_cons, List.not_mem_nil, or_false] at hi
  rcases hi with rfl
  · refine wpOp_plain op18_7 rfl rfl (wp_ap op18_7 (.tmp 145) (.tmp 147) rfl B vl _ _ ((ev_ne _ _ (by decide)).trans ((ev_ne _ _ (by decide)).trans ((ev_ne _ _ (by decide)).trans ((ev_ne _ _ (by decide)).trans hf.e145)))) (h.own 1 (by omega)) g2 x2 ((ev_ne _ _ (by decide)).trans (ev_eq _ _ (by first | (rw [hf.s]; omega) | (simp only [sz_put]; rw [hf.s]; omega)))) (h.tmp 1 g2 (by omega) rfl).1 hlen.2.1 h.bw ?_)
    intro u w1 ho hg hat
    have h2 := h.grow 1 (by omega) ho hg hat
    rw [upd_tri1, upd_tri1] at h2
    refine ⟨h2.cellAt hn hnb, ?_⟩
    show wpAnyH _ _ _ _ _ _ _ (Act.put ((((f.put (some 143) (.slice (some ⟨g1, 0, none⟩) 1 1)).put (some 144) v1).put (some 147) (.slice (some ⟨g2, 0, none⟩) 1 1)).put (some 157) (.slice (some ⟨g3, 0, none⟩) 1 1)) (some 148) _) _
    rw [put_sw _ _ _ (show 157 ≠ 148 by decide)]
    exact s18_2111 B nb W va vl vt la ll lt x1 x2 x3 n0 f Q hf hn hnb hlen hQ hG g1 g2 g3 v1 u _ h2
set_option maxRecDepth 100000 in
theorem s18_1101 (B nb : Nat) (W : World) (va vl vt : Value) (la ll lt : List Value) (x1 x2 x3 n0 : Int) (f : Act) (Q : Exit → Act → World → Prop) (hf : Fr18 f va vl vt x1 x2 x3) (hn : Sw nb n0 W) (hnb : ∀ i, i < 3 → (tri va vl vt i).ownBlock ≠ some nb) (hlen : la.length ≤ 1000 ∧ ll.length ≤ 1000 ∧ lt.length ≤ 1000) (hQ : ∀ c a (d : Option Tmp) v w, Q (.panic c) (a.put d v) w → Q (.panic c) a w) (hG : Goes18 B W va vl vt la ll lt x1 x2 x3 f Q) (g1 g3 : Nat) (v1 : Value) (w : World) (h : Rs B 3 W w (tri va vl vt) (tri v1 vl vt) (tri (la ++ [.int .i64 x1]) ll lt) (tri (some g1) none (some g3)) (tri (.int .i64 x1) (.int .i64 x2) (.int .i64 x3))) :
    wpAnyH Tryz.prog .any ops18 Q (Sw nb n0) 6 #[true, true, true, true, true, true, false, false, true, true, true, true, true, true, true, true, true, false, false, false, false] (((f.put (some 143) (.slice (some ⟨g1, 0, none⟩) 1 1)).put (some 144) v1).put (some 157) (.slice (some ⟨g3, 0, none⟩) 1 1)) w := by
  refine wpAnyH_all (rs := [6]) (by kernel_rfl) (by simp) ?_
  intro i hi
  simp only [List.mem_cons, List.not_mem_nil, or_false] at hi
  rcases hi with rfl
  · refine wpOp_plain op18_6 rfl rfl (wp_bs op18_6 (.tmp 146) rfl x2 ((ev_ne _ _ (by decide)).trans ((ev_ne _ _ (by decide)).trans ((ev_ne _ _ (by decide)).trans hf.e146))) ?_)
    have h2 := h.lay 1 (by omega)
    rw [upd_tri1] at h2
    refine ⟨h2.cellAt hn hnb, ?_⟩
    show wpAnyH _ _ _ _ _ _ _ (Act.put (((f.put (some 143) (.slice (some ⟨g1, 0, none⟩) 1 1)).put (some 144) v1).put (some 157) (.slice (some ⟨g3, 0, none⟩) 1 1)) (some 147) _) _
    rw [put_sw _ _ _ (show 157 ≠ 147 by decide)]
    exact s18_1111 B nb W va vl vt la ll lt x1 x2 x3 n0 f Q hf hn hnb hlen hQ hG g1 w.heap.size g3 v1 _ h2
set_option maxRecDepth 100000 in
theorem s18_1110 (B nb : Nat) (W : World) (va vl vt : Value) (la ll lt : List Value) (x1 x2 x3 n0 : Int) (f : Act) (Q : Exit → Act → World → Prop) (hf : Fr18 f va vl vt x1 x2 x3) (hn : Sw nb n0 W) (hnb : ∀ i, i < 3 → (tri va vl vt i).ownBlock ≠ some nb) (hlen : la.length ≤ 1000 ∧ ll.length ≤ 1000 ∧ lt.length ≤ 1000) (hQ : ∀ c a (d : Option Tmp) v w, Q (.panic c) (a.put d v) w → Q (.panic c) a w) (hG : Goes18 B W va vl vt la ll lt x1 x2 x3 f Q) (g1 g2 : Nat) (v1 : Value) (w : World) (h : Rs B 3 W w (tri va vl vt) (tri v1 vl vt) (tri (la ++ [.int .i64 x1]) ll lt) (tri (some g1) (some g2) none) (tri (.int .i64 x1) (.int .i64 x2) (.int .i64 x3))) :
    wpAnyH Tryz.prog .any ops18 Q (Sw nb n0) 6 #[true, true, true, true, true, true, true, false, true, true, true, true, true, true, true, true, false, false, false, false, false] (((f.put (some 143) (.slice (some ⟨g1, 0, none⟩) 1 1)).put (some 144) v1).put (some 147) (.slice (some ⟨g2, 0, none⟩) 1 1)) w := by
  refine wpAnyH_all (rs := [7, 16]) (by kernel_rfl) (by simp) ?_
  intro i hi
  simp only [List.mem_cons, List.not_mem_nil, or_false] at hi
  rcases hi with rfl | rfl
  · refine wpOp_plain op18_7 rfl rfl (wp_ap op18_7 (.tmp 145) (.tmp 147) rfl B vl _ _ ((ev_ne _ _ (by decide)).trans ((ev_ne _ _ (by decide)).trans ((ev_ne _ _ (by decide)).trans hf.e145))) (h.own 1 (by omega)) g2 x2 (ev_eq _ _ (by first | (rw [hf.s]; omega) | (simp only [sz_put]; rw [hf.s]; omega))) (h.tmp 1 g2 (by omega) rfl).1 hlen.2.1 h.bw ?_)
    intro u w1 ho hg hat
    have h2 := h.grow 1 (by omega) ho hg hat
    rw [upd_tri1, upd_tri1] at h2
    refine ⟨h2.cellAt hn hnb, ?_⟩
    show wpAnyH _ _ _ _ _ _ _ (Act.put (((f.put (some 143) (.slice (some ⟨g1, 0, none⟩) 1 1)).put (some 144) v1).put (some 147) (.slice (some ⟨g2, 0, none⟩) 1 1)) (some 148) _) _
    exact s18_2110 B nb W va vl vt la ll lt x1 x2 x3 n0 f Q hf hn hnb hlen hQ hG g1 g2 v1 u _ h2
  · refine wpOp_plain op18_16 rfl rfl (wp_bs op18_16 (.tmp 156) rfl x3 ((ev_ne _ _ (by decide)).trans ((ev_ne _ _ (by decide)).trans ((ev_ne _ _ (by decide)).trans hf.e156))) ?_)
    have h2 := h.lay 2 (by omega)
    rw [upd_tri2] at h2
    refine ⟨h2.cellAt hn hnb, ?_⟩
    show wpAnyH _ _ _ _ _ _ _ (Act.put (((f.put (some 143) (.slice (some ⟨g1, 0, none⟩) 1 1)).put (some 144) v1).put (some 147) (.slice (some ⟨g2, 0, none⟩) 1 1)) (some 157) _) _
    exact s18_1111 B nb W va vl vt la ll lt x1 x2 x3 n0 f Q hf hn hnb hlen hQ hG g1 g2 w.heap.size v1 _ h2
set_option maxRecDepth 100000 in
theorem s18_1100 (B nb : Nat) (W : World) (va vl vt : Value) (la ll lt : List Value) (x1 x2 x3 n0 : Int) (f : Act) (Q : Exit → Act → World → Prop) (hf : Fr18 f va vl vt x1 x2 x3) (hn : Sw nb n0 W) (hnb : ∀ i, i < 3 → (tri va vl vt i).ownBlock ≠ some nb) (hlen : la.length ≤ 1000 ∧ ll.length ≤ 1000 ∧ lt.length ≤ 1000) (hQ : ∀ c a (d : Option Tmp) v w, Q (.panic c) (a.put d v) w → Q (.panic c) a w) (hG : Goes18 B W va vl vt la ll lt x1 x2 x3 f Q) (g1 : Nat) (v1 : Value) (w : World) (h : Rs B 3 W w (tri va vl vt) (tri v1 vl vt) (tri (la ++ [.int .i64 x1]) ll lt) (tri (some g1) none none) (tri (.int .i64 x1) (.int .i64 x2) (.int .i64 x3))) :
    wpAnyH Tryz.prog .any ops18 Q (Sw nb n0) 7 #[true, true, true, true, true, true, false, false, true, true, true, true, true, true, true, true, false, false, false, false, false] ((f.put (some 143) (.slice (some ⟨g1, 0, none⟩) 1 1)).put (some 144) v1) w := by
  refine wpAnyH_all (rs := [6, 16]) (by kernel_rfl) (by simp) ?_
  intro i hi
  simp only [List.mem_cons, List.not_mem_nil, or_false] at hi
  rcases hi with rfl | rfl
  · refine wpOp_plain op18_6 rfl rfl (wp_bs op18_6 (.tmp 146) rfl x2 ((ev_ne _ _ (by decide)).trans ((ev_ne _ _ (by decide)).trans hf.e146)) ?_)
    have h2 := h.lay 1 (by omega)
    rw [upd_tri1] at h2
    refine ⟨h2.cellAt hn hnb, ?_⟩
    show wpAnyH _ _ _ _ _ _ _ (Act.put ((f.put (some 143) (.slice (some ⟨g1, 0, none⟩) 1 1)).put (some 144) v1) (some 147) _) _
    exact s18_1110 B nb W va vl vt la ll lt x1 x2 x3 n0 f Q hf hn hnb hlen hQ hG g1 w.heap.size v1 _ h2
  · refine wpOp_plain op18_16 rfl rfl (wp_bs op18_16 (.tmp 156) rfl x3 ((ev_ne _ _ (by decide)).trans ((ev_ne _ _ (by decide)).trans hf.e156)) ?_)
    have h2 := h.lay 2 (by omega)
    rw [upd_tri2] at h2
    refine ⟨h2.cellAt hn hnb, ?_⟩
    show wpAnyH _ _ _ _ _ _ _ (Act.put ((f.put (some 143) (.slice (some ⟨g1, 0, none⟩) 1 1)).put (some 144) v1) (some 157) _) _
    exact s18_1101 B nb W va vl vt la ll lt x1 x2 x3 n0 f Q hf hn hnb hlen hQ hG g1 w.heap.size v1 _ h2
set_option maxRecDepth 100000 in
theorem s18_0111 (B nb : Nat) (W : World) (va vl vt : Value) (la ll lt : List Value) (x1 x2 x3 n0 : Int) (f : Act) (Q : Exit → Act → World → Prop) (hf : Fr18 f va vl vt x1 x2 x3) (hn : Sw nb n0 W) (hnb : ∀ i, i < 3 → (tri va vl vt i).ownBlock ≠ some nb) (hlen : la.length ≤ 1000 ∧ ll.length ≤ 1000 ∧ lt.length ≤ 1000) (hQ : ∀ c a (d : Option Tmp) v w, Q (.panic c) (a.put d v) w → Q (.panic c) a w) (hG : Goes18 B W va vl vt la ll lt x1 x2 x3 f Q) (g1 g2 g3 : Nat) (w : World) (h : Rs B 3 W w (tri va vl vt) (tri va vl vt) (tri la ll lt) (tri (some g1) (some g2) (some g3)) (tri (.int .i64 x1) (.int .i64 x2) (.int .i64 x3))) :
    wpAnyH Tryz.prog .any ops18 Q (Sw nb n0) 6 #[true, true, true, false, true, true, true, false, true, true, true, true, true, true, true, true, true, false, false, false, false] (((f.put (some 143) (.slice (some ⟨g1, 0, none⟩) 1 1)).put (some 147) (.slice (some ⟨g2, 0, none⟩) 1 1)).put (some 157) (.slice (some ⟨g3, 0, none⟩) 1 1)) w := by
  refine wpAnyH_all (rs := [3]) (by kernel_rfl) (by simp) ?_
  intro i hi
  simp only [List.mem_cons, List.not_mem_nil, or_false] at hi
  rcases hi with rfl
  · refine wpOp_plain op18_3 rfl rfl (wp_ap op18_3 (.tmp 141) (.tmp 143) rfl B va _ _ ((ev_ne _ _ (by decide)).trans ((ev_ne _ _ (by decide)).trans ((ev_ne _ _ (by decide)).trans hf.e141))) (h.own 0 (by omega)) g1 x1 ((ev_ne _ _ (by decide)).trans ((ev_ne _ _ (by decide)).trans (ev_eq _ _ (by first | (rw [hf.s]; omega) | (simp only [sz_put]; rw [hf.s]; omega))))) (h.tmp 0 g1 (by omega) rfl).1 hlen.1 h.bw ?_)
    intro u w1 ho hg hat
    have h2 := h.grow 0 (by omega) ho hg hat
    rw [upd_tri0, upd_tri0] at h2
    refine ⟨h2.cellAt hn hnb, ?_⟩
    show wpAnyH _ _ _ _ _ _ _ (Act.put (((f.put (some 143) (.slice (some ⟨g1, 0, none⟩) 1 1)).put (some 147) (.slice (some ⟨g2, 0, none⟩) 1 1)).put (some 157) (.slice (some ⟨g3, 0, none⟩) 1 1)) (some 144) _) _
    rw [put_sw _ _ _ (show 157 ≠ 144 by decide)]; rw [put_sw _ _ _ (show 147 ≠ 144 by decide)]
    exact s18_1111 B nb W va vl vt la ll lt x1 x2 x3 n0 f Q hf hn hnb hlen hQ hG g1 g2 g3 u _ h2
set_option maxRecDepth 100000 in
theorem s18_0011 (B nb : Nat) (W : World) (va vl vt : Value) (la ll lt : List Value) (x1 x2 x3 n0 : Int) (f : Act) (Q : Exit → Act → World → Prop) (hf : Fr18 f va vl vt x1 x2 x3) (hn : Sw nb n0 W) (hnb : ∀ i, i < 3 → (tri va vl vt i).ownBlock ≠ some nb) (hlen : la.length ≤ 1000 ∧ ll.length ≤ 1000 ∧ lt.length ≤ 1000) (hQ : ∀ c a (d : Option Tmp) v w, Q (.panic c) (a.put d v) w → Q (.panic c) a w) (hG : Goes18 B W va vl vt la ll lt x1 x2 x3 f Q) (g2 g3 : Nat) (w : World) (h : Rs B 3 W w (tri va vl vt) (tri va vl vt) (tri la ll lt) (tri none (some g2) (some g3)) (tri (.int .i64 x1) (.int .i64 x2) (.int .i64 x3))) :
    wpAnyH Tryz.prog .any ops18 Q (Sw nb n0) 7 #[true, true, false, false, true, true, true, false, true, true, true, true, true, true, true, true, true, false, false, false, false] ((f.put (some 147) (.slice (some ⟨g2, 0, none⟩) 1 1)).put (some 157) (.slice (some ⟨g3, 0, none⟩) 1 1)) w := by
  refine wpAnyH_all (rs := [2]) (by kernel_rfl) (by simp) ?_
  intro i hi
  simp only [List.mem_cons, List.not_mem_nil, or_false] at hi
  rcases hi with rfl
  · refine wpOp_plain op18_2 rfl rfl (wp_bs op18_2 (.tmp 142) rfl x1 ((ev_ne _ _ (by decide)).trans ((ev_ne _ _ (by decide)).trans hf.e142)) ?_)
    have h2 := h.lay 0 (by omega)
    rw [upd_tri0] at h2
    refine ⟨h2.cellAt hn hnb, ?_⟩
    show wpAnyH _ _ _ _ _ _ _ (Act.put ((f.put (some 147) (.slice (some ⟨g2, 0, none⟩) 1 1)).put (some 157) (.slice (some ⟨g3, 0, none⟩) 1 1)) (some 143) _) _
    rw [put_sw _ _ _ (show 157 ≠ 143 by decide)]; rw [put_sw _ _ _ (show 147 ≠ 143 by decide)]
    exact s18_0111 B nb W va vl vt la ll lt x1 x2 x3 n0 f Q hf hn hnb hlen hQ hG w.heap.size g2 g3 _ h2
set_option maxRecDepth 100000 in
theorem s18_0101 (B nb : Nat) (W : World) (va vl vt : Value) (la ll lt : List Value) (x1 x2 x3 n0 : Int) (f : Act) (Q : Exit → Act → World → Prop) (hf : Fr18 f va vl vt x1 x2 x3) (hn : Sw nb n0 W) (hnb : ∀ i, i < 3 → (tri va vl vt i).ownBlock ≠ some nb) (hlen : la.length ≤ 1000 ∧ ll.length ≤ 1000 ∧ lt.length ≤ 1000) (hQ : ∀ c a (d : Option Tmp) v w, Q (.panic c) (a.put d v) w → Q (.panic c) a w) (hG : Goes18 B W va vl vt la ll lt x1 x2 x3 f Q) (g1 g3 : Nat) (w : World) (h : Rs B 3 W w (tri va vl vt) (tri va vl vt) (tri la ll lt) (tri (some g1) none (some g3)) (tri (.int .i64 x1) (.int .i64 x2) (.int .i64 x3))) :
    wpAnyH Tryz.prog .any ops18 Q (Sw nb n0) 7 #[true, true, true, false, true, true, false, false, true, true, true, true, true, true, true, true, true, false, false, false, false] ((f.put (some 143) (.slice (some ⟨g1, 0, none⟩) 1 1)).put (some 157) (.slice (some ⟨g3, 0, none⟩) 1 1)) w := by
  refine wpAnyH_all (rs := [3, 6]) (by kernel_rfl) (by simp) ?_
  intro i hi
  simp only [List.mem_cons, List.not_mem_nil, or_false] at hi
  rcases hi with rfl | rfl
  · refine wpOp_plain op18_3 rfl rfl (wp_ap op18_3 (.tmp 141) (.tmp 143) rfl B va _ _ ((ev_ne _ _ (by decide)).trans ((ev_ne _ _ (by decide)).trans hf.e141)) (h.own 0 (by omega)) g1 x1 ((ev_ne _ _ (by decide)).trans (ev_eq _ _ (by first | (rw [hf.s]; omega) | (simp only [sz_put]; rw [hf.s]; omega)))) (h.tmp 0 g1 (by omega) rfl).1 hlen.1 h.bw ?_)
    intro u w1 ho hg hat
    have h2 := h.grow 0 (by omega) ho hg hat
    rw [upd_tri0, upd_tri0] at h2
    refine ⟨h2.cellAt hn hnb, ?_⟩
    show wpAnyH _ _ _ _ _ _ _ (Act.put ((f.put (some 143) (.slice (some ⟨g1, 0, none⟩) 1 1)).put (some 157) (.slice (some ⟨g3, 0, none⟩) 1 1)) (some 144) _) _
    rw [put_sw _ _ _ (show 157 ≠ 144 by decide)]
    exact s18_1101 B nb W va vl vt la ll lt x1 x2 x3 n0 f Q hf hn hnb hlen hQ hG g1 g3 u _ h2
  · refine wpOp_plain op18_6 rfl rfl (wp_bs op18_6 (.tmp 146) rfl x2 ((ev_ne _ _ (by decide)).trans ((ev_ne _ _ (by decide)).trans hf.e146)) ?_)
    have h2 := h.lay 1 (by omega)
    rw [upd_tri1] at h2
    refine ⟨h2.cellAt hn hnb, ?_⟩
    show wpAnyH _ _ _ _ _ _ _ (Act.put ((f.put (some 143) (.slice (some ⟨g1, 0, none⟩) 1 1)).put (some 157) (.slice (some ⟨g3, 0, none⟩) 1 1)) (some 147) _) _
    rw [put_sw _ _ _ (show 157 ≠ 147 by decide)]
    exact s18_0111 B nb W va vl vt la ll lt x1 x2 x3 n0 f Q hf hn hnb hlen hQ hG g1 w.heap.size g3 _ h2
set_option maxRecDepth 100000 in
theorem s18_0110 (B nb : Nat) (W : World) (va vl vt : Value) (la ll lt : List Value) (x1 x2 x3 n0 : Int) (f : Act) (Q : Exit → Act → World → Prop) (hf : Fr18 f va vl vt x1 x2 x3) (hn : Sw nb n0 W) (hnb : ∀ i, i < 3 → (tri va vl vt i).ownBlock ≠ some nb) (hlen : la.length ≤ 1000 ∧ ll.length ≤ 1000 ∧ lt.length ≤ 1000) (hQ : ∀ c a (d : Option Tmp) v w, Q (.panic c) (a.put d v) w → Q (.panic c) a w) (hG : Goes18 B W va vl vt la ll lt x1 x2 x3 f Q) (g1 g2 : Nat) (w : World) (h : Rs B 3 W w (tri va vl vt) (tri va vl vt) (tri la ll lt) (tri (some g1) (some g2) none) (tri (.int .i64 x1) (.int .i64 x2) (.int .i64 x3))) :
    wpAnyH Tryz.prog .any ops18 Q (Sw nb n0) 7 #[true, true, true, false, true, true, true, false, true, true, true, true, true, true, true, true, false, false, false, false, false] ((f.put (some 143) (.slice (some ⟨g1, 0, none⟩) 1 1)).put (some 147) (.slice (some ⟨g2, 0, none⟩) 1 1)) w := by
  refine wpAnyH_all (rs := [3, 16]) (by kernel_rfl) (by simp) ?_
  intro i hi
  simp only [List.mem_cons, List.not_mem_nil, or_false] at hi
  rcases hi with rfl | rfl
  · refine wpOp_plain op18_3 rfl rfl (wp_ap op18_3 (.tmp 141) (.tmp 143) rfl B va _ _ ((ev_ne _ _ (by decide)).trans ((ev_ne _ _ (by decide)).trans hf.e141)) (h.own 0 (by omega)) g1 x1 ((ev_ne _ _ (by decide)).trans (ev_eq _ _ (by first | (rw [hf.s]; omega) | (simp only [sz_put]; rw [hf.s]; omega)))) (h.tmp 0 g1 (by omega) rfl).1 hlen.1 h.bw ?_)
    intro u w1 ho hg hat
    have h2 := h.grow 0 (by omega) ho hg hat
    rw [upd_tri0, upd_tri0] at h2
    refine ⟨h2.cellAt hn hnb, ?_⟩
    show wpAnyH _ _ _ _ _ _ _ (Act.put ((f.put (some 143) (.slice (some ⟨g1, 0, none⟩) 1 1)).put (some 147) (.slice (some ⟨g2, 0, none⟩) 1 1)) (some 144) _) _
    rw [put_sw _ _ _ (show 147 ≠ 144 by decide)]
    exact s18_1110 B nb W va vl vt la ll lt x1 x2 x3 n0 f Q hf hn hnb hlen hQ hG g1 g2 u _ h2
  · refine wpOp_plain op18_16 rfl rfl (wp_bs op18_16 (.tmp 156) rfl x3 ((ev_ne _ _ (by decide)).trans ((ev_ne _ _ (by decide)).trans hf.e156)) ?_)
    have h2 := h.lay 2 (by omega)
    rw [upd_tri2] at h2
    refine ⟨h2.cellAt hn hnb, ?_⟩
    show wpAnyH _ _ _ _ _ _ _ (Act.put ((f.put (some 143) (.slice (some ⟨g1, 0, none⟩) 1 1)).put (some 147) (.slice (some ⟨g2, 0, none⟩) 1 1)) (some 157) _) _
    exact s18_0111 B nb W va vl vt la ll lt x1 x2 x3 n0 f Q hf hn hnb hlen hQ hG g1 g2 w.heap.size _ h2
set_option maxRecDepth 100000 in
theorem s18_0001 (B nb : Nat) (W : World) (va vl vt : Value) (la ll lt : List Value) (x1 x2 x3 n0 : Int) (f : Act) (Q : Exit → Act → World → Prop) (hf : Fr18 f va vl vt x1 x2 x3) (hn : Sw nb n0 W) (hnb : ∀ i, i < 3 → (tri va vl vt i).ownBlock ≠ some nb) (hlen : la.length ≤ 1000 ∧ ll.length ≤ 1000 ∧ lt.length ≤ 1000) (hQ : ∀ c a (d : Option Tmp) v w, Q (.panic c) (a.put d v) w → Q (.panic c) a w) (hG : Goes18 B W va vl vt la ll lt x1 x2 x3 f Q) (g3 : Nat) (w : World) (h : Rs B 3 W w (tri va vl vt) (tri va vl vt) (tri la ll lt) (tri none none (some g3)) (tri (.int .i64 x1) (.int .i64 x2) (.int .i64 x3))) :
    wpAnyH Tryz.prog .any ops18 Q (Sw nb n0) 8 #[true, true, false, false, true, true, false, false, true, true, true, true, true, true, true, true, true, false, false, false, false] (f.put (some 157) (.slice (some ⟨g3, 0, none⟩) 1 1)) w := by
  refine wpAnyH_all (rs := [2, 6]) (by kernel_rfl) (by simp) ?_
  intro i hi
  simp only [List.mem_cons, List.not_mem_nil, or_false] at hi
  rcases hi with rfl | rfl
  · refine wpOp_plain op18_2 rfl rfl (wp_bs op18_2 (.tmp 142) rfl x1 ((ev_ne _ _ (by decide)).trans hf.e142) ?_)
    have h2 := h.lay 0 (by omega)
    rw [upd_tri0] at h2
    refine ⟨h2.cellAt hn hnb, ?_⟩
    show wpAnyH _ _ _ _ _ _ _ (Act.put (f.put (some 157) (.slice (some ⟨g3, 0, none⟩) 1 1)) (some 143) _) _
    rw [put_sw _ _ _ (show 157 ≠ 143 by decide)]
    exact s18_0101 B nb W va vl vt la ll lt x1 x2 x3 n0 f Q hf hn hnb hlen hQ hG w.heap.size g3 _ h2
  · refine wpOp_plain op18_6 rfl rfl (wp_bs op18_6 (.tmp 146) rfl x2 ((ev_ne _ _ (by decide)).trans hf.e146) ?_)
    have h2 := h.lay 1 (by omega)
    rw [upd_tri1] at h2
    refine ⟨h2.cellAt hn hnb, ?_⟩
    show wpAnyH _ _ _ _ _ _ _ (Act.put (f.put (some 157) (.slice (some ⟨g3, 0, none⟩) 1 1)) (some 147) _) _
    rw [put_sw _ _ _ (show 157 ≠ 147 by decide)]
    exact s18_0011 B nb W va vl vt la ll lt x1 x2 x3 n0 f Q hf hn hnb hlen hQ hG w.heap.size g3 _ h2
set_option maxRecDepth 100000 in
theorem s18_0010 (B nb : Nat) (W : World) (va vl vt : Value) (la ll lt : List Value) (x1 x2 x3 n0 : Int) (f : Act) (Q : Exit → Act → World → Prop) (hf : Fr18 f va vl vt x1 x2 x3) (hn : Sw nb n0 W) (hnb : ∀ i, i < 3 → (tri va vl vt i).ownBlock ≠ some nb) (hlen : la.length ≤ 1000 ∧ ll.length ≤ 1000 ∧ lt.length ≤ 1000) (hQ : ∀ c a (d : Option Tmp) v w, Q (.panic c) (a.put d v) w → Q (.panic c) a w) (hG : Goes18 B W va vl vt la ll lt x1 x2 x3 f Q) (g2 : Nat) (w : World) (h : Rs B 3 W w (tri va vl vt) (tri va vl vt) (tri la ll lt) (tri none (some g2) none) (tri (.int .i64 x1) (.int .i64 x2) (.int .i64 x3))) :
    wpAnyH Tryz.prog .any ops18 Q (Sw nb n0) 8 #[true, true, false, false, true, true, true, false, true, true, true, true, true, true, true, true, false, false, false, false, false] (f.put (some 147) (.slice (some ⟨g2, 0, none⟩) 1 1)) w := by
  refine wpAnyH_all (rs := [2, 16]) (by kernel_rfl) (by simp) ?_
  intro i hi
  simp only [List.mem_cons, List.not_mem_nil, or_false] at hi
  rcases hi with rfl | rfl
  · refine wpOp_plain op18_2 rfl rfl (wp_bs op18_2 (.tmp 142) rfl x1 ((ev_ne _ _ (by decide)).trans hf.e142) ?_)
    have h2 := h.lay 0 (by omega)
    rw [upd_tri0] at h2
    refine ⟨h2.cellAt hn hnb, ?_⟩
    show wpAnyH _ _ _ _ _ _ _ (Act.put (f.put (some 147) (.slice (some ⟨g2, 0, none⟩) 1 1)) (some 143) _) _
    rw [put_sw _ _ _ (show 147 ≠ 143 by decide)]
    exact s18_0110 B nb W va vl vt la ll lt x1 x2 x3 n0 f Q hf hn hnb hlen hQ hG w.heap.size g2 _ h2
  · refine wpOp_plain op18_16 rfl rfl (wp_bs op18_16 (.tmp 156) rfl x3 ((ev_ne _ _ (by decide)).trans hf.e156) ?_)
    have h2 := h.lay 2 (by omega)
    rw [upd_tri2] at h2
    refine ⟨h2.cellAt hn hnb, ?_⟩
    show wpAnyH _ _ _ _ _ _ _ (Act.put (f.put (some 147) (.slice (some ⟨g2, 0, none⟩) 1 1)) (some 157) _) _
    exact s18_0011 B nb W va vl vt la ll lt x1 x2 x3 n0 f Q hf hn hnb hlen hQ hG g2 w.heap.size _ h2
set_option maxRecDepth 100000 in
theorem s18_0100 (B nb : Nat) (W : World) (va vl vt : Value) (la ll lt : List Value) (x1 x2 x3 n0 : Int) (f : Act) (Q : Exit → Act → World → Prop) (hf : Fr18 f va vl vt x1 x2 x3) (hn : Sw nb n0 W) (hnb : ∀ i, i < 3 → (tri va vl vt i).ownBlock ≠ some nb) (hlen : la.length ≤ 1000 ∧ ll.length ≤ 1000 ∧ lt.length ≤ 1000) (hQ : ∀ c a (d : Option Tmp) v w, Q (.panic c) (a.put d v) w → Q (.panic c) a w) (hG : Goes18 B W va vl vt la ll lt x1 x2 x3 f Q) (g1 : Nat) (w : World) (h : Rs B 3 W w (tri va vl vt) (tri va vl vt) (tri la ll lt) (tri (some g1) none none) (tri (.int .i64 x1) (.int .i64 x2) (.int .i64 x3))) :
    wpAnyH Tryz.prog .any ops18 Q (Sw nb n0) 8 #[true, true, true, false, true, true, false, false, true, true, true, true, true, true, true, true, false, false, false, false, false] (f.put (some 143) (.slice (some ⟨g1, 0, none⟩) 1 1)) w := by
  refine wpAnyH_all (rs := [3, 6, 16]) (by kernel_rfl) (by simp) ?_
  intro i hi
  simp only [List.mem_cons, List.not_mem_nil, or_false] at hi
  rcases hi with rfl | rfl | rfl
  · refine wpOp_plain op18_3 rfl rfl (wp_ap op18_3 (.tmp 141) (.tmp 143) rfl B va _ _ ((ev_ne _ _ (by decide)).trans hf.e141) (h.own 0 (by omega)) g1 x1 (ev_eq _ _ (by first | (rw [hf.s]; omega) | (simp only [sz_put]; rw [hf.s]; omega))) (h.tmp 0 g1 (by omega) rfl).1 hlen.1 h.bw ?_)
    intro u w1 ho hg hat
    have h2 := h.grow 0 (by omega) ho hg hat
    rw [upd_tri0, upd_tri0] at h2
    refine ⟨h2.cellAt hn hnb, ?_⟩
    show wpAnyH _ _ _ _ _ _ _ (Act.put (f.put (some 143) (.slice (some ⟨g1, 0, none⟩) 1 1)) (some 144) _) _
    exact s18_1100 B nb W va vl vt la ll lt x1 x2 x3 n0 f Q hf hn hnb hlen hQ hG g1 u _ h2
  · refine wpOp_plain op18_6 rfl rfl (wp_bs op18_6 (.tmp 146) rfl x2 ((ev_ne _ _ (by decide)).trans hf.e146) ?_)
    have h2 := h.lay 1 (by omega)
    rw [upd_tri1] at h2
    refine ⟨h2.cellAt hn hnb, ?_⟩
    show wpAnyH _ _ _ _ _ _ _ (Act.put (f.put (some 143) (.slice (some ⟨g1, 0, none⟩) 1 1)) (some 147) _) _
    exact s18_0110 B nb W va vl vt la ll lt x1 x2 x3 n0 f Q hf hn hnb hlen hQ hG g1 w.heap.size _ h2
  · refine wpOp_plain op18_16 rfl rfl (wp_bs op18_16 (.tmp 156) rfl x3 ((ev_ne _ _ (by decide)).trans hf.e156) ?_)
    have h2 := h.lay 2 (by omega)
    rw [upd_tri2] at h2
    refine ⟨h2.cellAt hn hnb, ?_⟩
    show wpAnyH _ _ _ _ _ _ _ (Act.put (f.put (some 143) (.slice (some ⟨g1, 0, none⟩) 1 1)) (some 157) _) _
    exact s18_0101 B nb W va vl vt la ll lt x1 x2 x3 n0 f Q hf hn hnb hlen hQ hG g1 w.heap.size _ h2
set_option maxRecDepth 100000 in
theorem s18_0000 (B nb : Nat) (W : World) (va vl vt : Value) (la ll lt : List Value) (x1 x2 x3 n0 : Int) (f : Act) (Q : Exit → Act → World → Prop) (hf : Fr18 f va vl vt x1 x2 x3) (hn : Sw nb n0 W) (hnb : ∀ i, i < 3 → (tri va vl vt i).ownBlock ≠ some nb) (hlen : la.length ≤ 1000 ∧ ll.length ≤ 1000 ∧ lt.length ≤ 1000) (hQ : ∀ c a (d : Option Tmp) v w, Q (.panic c) (a.put d v) w → Q (.panic c) a w) (hG : Goes18 B W va vl vt la ll lt x1 x2 x3 f Q) (w : World) (h : Rs B 3 W w (tri va vl vt) (tri va vl vt) (tri la ll lt) (tri none none none) (tri (.int .i64 x1) (.int .i64 x2) (.int .i64 x3))) :
    wpAnyH Tryz.prog .any ops18 Q (Sw nb n0) 9 #[true, true, false, false, true, true, false, false, true, true, true, true, true, true, true, true, false, false, false, false, false] f w := by
  refine wpAnyH_all (rs := [2, 6, 16]) (by kernel_rfl) (by simp) ?_
  intro i hi
  simp only [List.mem_cons, List.not_mem_nil, or_false] at hi
  rcases hi with rfl | rfl | rfl
  · refine wpOp_plain op18_2 rfl rfl (wp_bs op18_2 (.tmp 142) rfl x1 hf.e142 ?_)
    have h2 := h.lay 0 (by omega)
    rw [upd_tri0] at h2
    refine ⟨h2.cellAt hn hnb, ?_⟩
    show wpAnyH _ _ _ _ _ _ _ (Act.put f (some 143) _) _
    exact s18_0100 B nb W va vl vt la ll lt x1 x2 x3 n0 f Q hf hn hnb hlen hQ hG w.heap.size _ h2
  · refine wpOp_plain op18_6 rfl rfl (wp_bs op18_6 (.tmp 146) rfl x2 hf.e146 ?_)
    have h2 := h.lay 1 (by omega)
    rw [upd_tri1] at h2
    refine ⟨h2.cellAt hn hnb, ?_⟩
    show wpAnyH _ _ _ _ _ _ _ (Act.put f (some 147) _) _
    exact s18_0010 B nb W va vl vt la ll lt x1 x2 x3 n0 f Q hf hn hnb hlen hQ hG w.heap.size _ h2
  · refine wpOp_plain op18_16 rfl rfl (wp_bs op18_16 (.tmp 156) rfl x3 hf.e156 ?_)
    have h2 := h.lay 2 (by omega)
    rw [upd_tri2] at h2
    refine ⟨h2.cellAt hn hnb, ?_⟩
    show wpAnyH _ _ _ _ _ _ _ (Act.put f (some 157) _) _
    exact s18_0001 B nb W va vl vt la ll lt x1 x2 x3 n0 f Q hf hn hnb hlen hQ hG w.heap.size _ h2

set_option maxHeartbeats 1000000 in
set_option maxRecDepth 100000 in
theorem adds_r18 (B nb : Nat) (W : World) (va vl vt : Value) (la ll lt : List Value) (x1 x2 n0 k : Int) (a0 : Act) (Q : Exit → Act → World → Prop) (hs : a0.tmps.size = 386)
    (h5 : a0.eval (.tmp 5) = va) (h14 : a0.eval (.tmp 14) = .int .i64 x1) (h7 : a0.eval (.tmp 7) = vl) (h15 : a0.eval (.tmp 15) = .int .i64 x2) (h6 : a0.eval (.tmp 6) = vt) (h3 : a0.eval (.tmp 3) = .pointer (some ⟨nb, 0, none⟩)) (h12 : a0.eval (.tmp 12) = .int .i64 k)
    (hn : Sw nb n0 W.drew) (hnb : ∀ i, i < 3 → (tri va vl vt i).ownBlock ≠ some nb) (hlen : la.length ≤ 1000 ∧ ll.length ≤ 1000 ∧ lt.length ≤ 1000) (hn0 : 0 ≤ n0 ∧ n0 ≤ 65535) (hk : 0 ≤ k ∧ k ≤ 1000)
    (hR : Rs B 3 W.drew W.drew (tri va vl vt) (tri va vl vt) (tri la ll lt) (tri none none none) (tri (.int .i64 x1) (.int .i64 x2) (.int .i64 (1 + (n0 + k) % 1000))))
    (hQ : ∀ c a (d : Option Tmp) v w, Q (.panic c) (a.put d v) w → Q (.panic c) a w)
    (hG : Goes18 B W.drew va vl vt la ll lt x1 x2 (1 + (n0 + k) % 1000) ((((((((((((a0.put (some 141) va).put (some 142) (.int .i64 x1)).put (some 145) vl).put (some 146) (.int .i64 x2)).put (some 149) vt).put (some 150) (.pointer (some ⟨nb, 0, none⟩))).put (some 151) (.int .u16 n0)).put (some 152) (.int .i64 n0)).put (some 153) (.int .i64 k)).put (some 154) (.int .i64 (n0 + k))).put (some 155) (.int .i64 ((n0 + k) % 1000))).put (some 156) (.int .i64 (1 + (n0 + k) % 1000))) Q) :
    (Code.region 18 ops18 true).wp Tryz.prog Q a0 W := by
  refine wp_region_held (S := Sw nb n0) (by kernel_rfl) ?_
  show wpAnyH Tryz.prog .any ops18 Q (Sw nb n0) 21 #[false, false, false, false, false, false, false, false, false, false, false, false, false, false, false, false, false, false, false, false, false] a0 W.drew
  refine wpAnyH_take (i := 0) (oi := op18_0) (v := va) rfl (by kernel_rfl) (by kernel_rfl) (by kernel_rfl) (fun c a w h => hQ c a _ _ w h) (Or.inl ⟨by rfl, fun w hSw => ?_⟩) hn ?_
  · have e0 : Act.eval a0 (.tmp 5) = va := h5
    simp only [execOp, op18_0, e0]
    rfl
  show wpAnyH Tryz.prog .any ops18 Q (Sw nb n0) 20 #[true, false, false, false, false, false, false, false, false, false, false, false, false, false, false, false, false, false, false, false, false] (a0.put (some 141) va) W.drew
  refine wpAnyH_take (i := 1) (oi := op18_1) (v := (.int .i64 x1)) rfl (by kernel_rfl) (by kernel_rfl) (by kernel_rfl) (fun c a w h => hQ c a _ _ w h) (Or.inl ⟨by rfl, fun w hSw => ?_⟩) hn ?_
  · have e0 : Act.eval (a0.put (some 141) va) (.tmp 14) = (.int .i64 x1) := ((ev_ne _ _ (by decide)).trans h14)
    simp only [execOp, op18_1, e0]
    rfl
  show wpAnyH Tryz.prog .any ops18 Q (Sw nb n0) 19 #[true, true, false, false, false, false, false, false, false, false, false, false, false, false, false, false, false, false, false, false, false] ((a0.put (some 141) va).put (some 142) (.int .i64 x1)) W.drew
  refine wpAnyH_take (i := 4) (oi := op18_4) (v := vl) rfl (by kernel_rfl) (by kernel_rfl) (by kernel_rfl) (fun c a w h => hQ c a _ _ w h) (Or.inl ⟨by rfl, fun w hSw => ?_⟩) hn ?_
  · have e0 : Act.eval ((a0.put (some 141) va).put (some 142) (.int .i64 x1)) (.tmp 7) = vl := ((ev_ne _ _ (by decide)).trans ((ev_ne _ _ (by decide)).trans h7))
    simp only [execOp, op18_4, e0]
    rfl
  show wpAnyH Tryz.prog .any ops18 Q (Sw nb n0) 18 #[true, true, false, false, true, false, false, false, false, false, false, false, false, false, false, false, false, false, false, false, false] (((a0.put (some 141) va).put (some 142) (.int .i64 x1)).put (some 145) vl) W.drew
  refine wpAnyH_take (i := 5) (oi := op18_5) (v := (.int .i64 x2)) rfl (by kernel_rfl) (by kernel_rfl) (by kernel_rfl) (fun c a w h => hQ c a _ _ w h) (Or.inl ⟨by rfl, fun w hSw => ?_⟩) hn ?_
  · have e0 : Act.eval (((a0.put (some 141) va).put (some 142) (.int .i64 x1)).put (some 145) vl) (.tmp 15) = (.int .i64 x2) := ((ev_ne _ _ (by decide)).trans ((ev_ne _ _ (by decide)).trans ((ev_ne _ _ (by decide)).trans h15)))
    simp only [execOp, op18_5, e0]
    rfl
  show wpAnyH Tryz.prog .any ops18 Q (Sw nb n0) 17 #[true, true, false, false, true, true, false, false, false, false, false, false, false, false, false, false, false, false, false, false, false] ((((a0.put (some 141) va).put (some 142) (.int .i64 x1)).put (some 145) vl).put (some 146) (.int .i64 x2)) W.drew
  refine wpAnyH_take (i := 8) (oi := op18_8) (v := vt) rfl (by kernel_rfl) (by kernel_rfl) (by kernel_rfl) (fun c a w h => hQ c a _ _ w h) (Or.inl ⟨by rfl, fun w hSw => ?_⟩) hn ?_
  · have e0 : Act.eval ((((a0.put (some 141) va).put (some 142) (.int .i64 x1)).put (some 145) vl).put (some 146) (.int .i64 x2)) (.tmp 6) = vt := ((ev_ne _ _ (by decide)).trans ((ev_ne _ _ (by decide)).trans ((ev_ne _ _ (by decide)).trans ((ev_ne _ _ (by decide)).trans h6))))
    simp only [execOp, op18_8, e0]
    rfl
  show wpAnyH Tryz.prog .any ops18 Q (Sw nb n0) 16 #[true, true, false, false, true, true, false, false, true, false, false, false, false, false, false, false, false, false, false, false, false] (((((a0.put (some 141) va).put (some 142) (.int .i64 x1)).put (some 145) vl).put (some 146) (.int .i64 x2)).put (some 149) vt) W.drew
  refine wpAnyH_take (i := 9) (oi := op18_9) (v := (.pointer (some ⟨nb, 0, none⟩))) rfl (by kernel_rfl) (by kernel_rfl) (by kernel_rfl) (fun c a w h => hQ c a _ _ w h) (Or.inl ⟨by rfl, fun w hSw => ?_⟩) hn ?_
  · have e0 : Act.eval (((((a0.put (some 141) va).put (some 142) (.int .i64 x1)).put (some 145) vl).put (some 146) (.int .i64 x2)).put (some 149) vt) (.tmp 3) = (.pointer (some ⟨nb, 0, none⟩)) := ((ev_ne _ _ (by decide)).trans ((ev_ne _ _ (by decide)).trans ((ev_ne _ _ (by decide)).trans ((ev_ne _ _ (by decide)).trans ((ev_ne _ _ (by decide)).trans h3)))))
    simp only [execOp, op18_9, e0]
    go_simp
  show wpAnyH Tryz.prog .any ops18 Q (Sw nb n0) 15 #[true, true, false, false, true, true, false, false, true, true, false, false, false, false, false, false, false, false, false, false, false] ((((((a0.put (some 141) va).put (some 142) (.int .i64 x1)).put (some 145) vl).put (some 146) (.int .i64 x2)).put (some 149) vt).put (some 150) (.pointer (some ⟨nb, 0, none⟩))) W.drew
  refine wpAnyH_take (i := 10) (oi := op18_10) (v := (.int .u16 n0)) rfl (by kernel_rfl) (by kernel_rfl) (by kernel_rfl) (fun c a w h => hQ c a _ _ w h) (Or.inl ⟨by rfl, fun w hSw => ?_⟩) hn ?_
  · have e0 : Act.eval ((((((a0.put (some 141) va).put (some 142) (.int .i64 x1)).put (some 145) vl).put (some 146) (.int .i64 x2)).put (some 149) vt).put (some 150) (.pointer (some ⟨nb, 0, none⟩))) (.tmp 150) = (.pointer (some ⟨nb, 0, none⟩)) := (ev_eq _ _ (by first | omega | (simp only [sz_put]; omega)))
    simp only [execOp, op18_10, e0]
    unfold Sw at hSw; go_simp
  show wpAnyH Tryz.prog .any ops18 Q (Sw nb n0) 14 #[true, true, false, false, true, true, false, false, true, true, true, false, false, false, false, false, false, false, false, false, false] (((((((a0.put (some 141) va).put (some 142) (.int .i64 x1)).put (some 145) vl).put (some 146) (.int .i64 x2)).put (some 149) vt).put (some 150) (.pointer (some ⟨nb, 0, none⟩))).put (some 151) (.int .u16 n0)) W.drew
  refine wpAnyH_take (i := 11) (oi := op18_11) (v := (.int .i64 n0)) rfl (by kernel_rfl) (by kernel_rfl) (by kernel_rfl) (fun c a w h => hQ c a _ _ w h) (Or.inl ⟨by rfl, fun w hSw => ?_⟩) hn ?_
  · have e0 : Act.eval (((((((a0.put (some 141) va).put (some 142) (.int .i64 x1)).put (some 145) vl).put (some 146) (.int .i64 x2)).put (some 149) vt).put (some 150) (.pointer (some ⟨nb, 0, none⟩))).put (some 151) (.int .u16 n0)) (.tmp 151) = (.int .u16 n0) := (ev_eq _ _ (by first | omega | (simp only [sz_put]; omega)))
    simp only [execOp, op18_11, e0]
    go_simp
    exact IntWalk.i64_in _ (by omega)
  show wpAnyH Tryz.prog .any ops18 Q (Sw nb n0) 13 #[true, true, false, false, true, true, false, false, true, true, true, true, false, false, false, false, false, false, false, false, false] ((((((((a0.put (some 141) va).put (some 142) (.int .i64 x1)).put (some 145) vl).put (some 146) (.int .i64 x2)).put (some 149) vt).put (some 150) (.pointer (some ⟨nb, 0, none⟩))).put (some 151) (.int .u16 n0)).put (some 152) (.int .i64 n0)) W.drew
  refine wpAnyH_take (i := 12) (oi := op18_12) (v := (.int .i64 k)) rfl (by kernel_rfl) (by kernel_rfl) (by kernel_rfl) (fun c a w h => hQ c a _ _ w h) (Or.inl ⟨by rfl, fun w hSw => ?_⟩) hn ?_
  · have e0 : Act.eval ((((((((a0.put (some 141) va).put (some 142) (.int .i64 x1)).put (some 145) vl).put (some 146) (.int .i64 x2)).put (some 149) vt).put (some 150) (.pointer (some ⟨nb, 0, none⟩))).put (some 151) (.int .u16 n0)).put (some 152) (.int .i64 n0)) (.tmp 12) = (.int .i64 k) := ((ev_ne _ _ (by decide)).trans ((ev_ne _ _ (by decide)).trans ((ev_ne _ _ (by decide)).trans ((ev_ne _ _ (by decide)).trans ((ev_ne _ _ (by decide)).trans ((ev_ne _ _ (by decide)).trans ((ev_ne _ _ (by decide)).trans ((ev_ne _ _ (by decide)).trans h12))))))))
    simp only [execOp, op18_12, e0]
    rfl
  show wpAnyH Tryz.prog .any ops18 Q (Sw nb n0) 12 #[true, true, false, false, true, true, false, false, true, true, true, true, true, false, false, false, false, false, false, false, false] (((((((((a0.put (some 141) va).put (some 142) (.int .i64 x1)).put (some 145) vl).put (some 146) (.int .i64 x2)).put (some 149) vt).put (some 150) (.pointer (some ⟨nb, 0, none⟩))).put (some 151) (.int .u16 n0)).put (some 152) (.int .i64 n0)).put (some 153) (.int .i64 k)) W.drew
  refine wpAnyH_take (i := 13) (oi := op18_13) (v := (.int .i64 (n0 + k))) rfl (by kernel_rfl) (by kernel_rfl) (by kernel_rfl) (fun c a w h => hQ c a _ _ w h) (Or.inl ⟨by rfl, fun w hSw => ?_⟩) hn ?_
  · have e0 : Act.eval (((((((((a0.put (some 141) va).put (some 142) (.int .i64 x1)).put (some 145) vl).put (some 146) (.int .i64 x2)).put (some 149) vt).put (some 150) (.pointer (some ⟨nb, 0, none⟩))).put (some 151) (.int .u16 n0)).put (some 152) (.int .i64 n0)).put (some 153) (.int .i64 k)) (.tmp 152) = (.int .i64 n0) := ((ev_ne _ _ (by decide)).trans (ev_eq _ _ (by first | omega | (simp only [sz_put]; omega))))
    have e1 : Act.eval (((((((((a0.put (some 141) va).put (some 142) (.int .i64 x1)).put (some 145) vl).put (some 146) (.int .i64 x2)).put (some 149) vt).put (some 150) (.pointer (some ⟨nb, 0, none⟩))).put (some 151) (.int .u16 n0)).put (some 152) (.int .i64 n0)).put (some 153) (.int .i64 k)) (.tmp 153) = (.int .i64 k) := (ev_eq _ _ (by first | omega | (simp only [sz_put]; omega)))
    simp only [execOp, op18_13, e0, e1]
    go_simp
    exact IntWalk.i64_in _ (by omega)
  show wpAnyH Tryz.prog .any ops18 Q (Sw nb n0) 11 #[true, true, false, false, true, true, false, false, true, true, true, true, true, true, false, false, false, false, false, false, false] ((((((((((a0.put (some 141) va).put (some 142) (.int .i64 x1)).put (some 145) vl).put (some 146) (.int .i64 x2)).put (some 149) vt).put (some 150) (.pointer (some ⟨nb, 0, none⟩))).put (some 151) (.int .u16 n0)).put (some 152) (.int .i64 n0)).put (some 153) (.int .i64 k)).put (some 154) (.int .i64 (n0 + k))) W.drew
  refine wpAnyH_take (i := 14) (oi := op18_14) (v := (.int .i64 ((n0 + k) % 1000))) rfl (by kernel_rfl) (by kernel_rfl) (by kernel_rfl) (fun c a w h => hQ c a _ _ w h) (Or.inl ⟨by rfl, fun w hSw => ?_⟩) hn ?_
  · have e0 : Act.eval ((((((((((a0.put (some 141) va).put (some 142) (.int .i64 x1)).put (some 145) vl).put (some 146) (.int .i64 x2)).put (some 149) vt).put (some 150) (.pointer (some ⟨nb, 0, none⟩))).put (some 151) (.int .u16 n0)).put (some 152) (.int .i64 n0)).put (some 153) (.int .i64 k)).put (some 154) (.int .i64 (n0 + k))) (.tmp 154) = (.int .i64 (n0 + k)) := (ev_eq _ _ (by first | omega | (simp only [sz_put]; omega)))
    simp only [execOp, op18_14, e0]
    go_simp
    exact Int.tmod_eq_emod_of_nonneg (by omega)
  show wpAnyH Tryz.prog .any ops18 Q (Sw nb n0) 10 #[true, true, false, false, true, true, false, false, true, true, true, true, true, true, true, false, false, false, false, false, false] (((((((((((a0.put (some 141) va).put (some 142) (.int .i64 x1)).put (some 145) vl).put (some 146) (.int .i64 x2)).put (some 149) vt).put (some 150) (.pointer (some ⟨nb, 0, none⟩))).put (some 151) (.int .u16 n0)).put (some 152) (.int .i64 n0)).put (some 153) (.int .i64 k)).put (some 154) (.int .i64 (n0 + k))).put (some 155) (.int .i64 ((n0 + k) % 1000))) W.drew
  refine wpAnyH_take (i := 15) (oi := op18_15) (v := (.int .i64 (1 + (n0 + k) % 1000))) rfl (by kernel_rfl) (by kernel_rfl) (by kernel_rfl) (fun c a w h => hQ c a _ _ w h) (Or.inl ⟨by rfl, fun w hSw => ?_⟩) hn ?_
  · have e0 : Act.eval (((((((((((a0.put (some 141) va).put (some 142) (.int .i64 x1)).put (some 145) vl).put (some 146) (.int .i64 x2)).put (some 149) vt).put (some 150) (.pointer (some ⟨nb, 0, none⟩))).put (some 151) (.int .u16 n0)).put (some 152) (.int .i64 n0)).put (some 153) (.int .i64 k)).put (some 154) (.int .i64 (n0 + k))).put (some 155) (.int .i64 ((n0 + k) % 1000))) (.tmp 155) = (.int .i64 ((n0 + k) % 1000)) := (ev_eq _ _ (by first | omega | (simp only [sz_put]; omega)))
    simp only [execOp, op18_15, e0]
    go_simp
    exact IntWalk.i64_in _ (by omega)
  show wpAnyH Tryz.prog .any ops18 Q (Sw nb n0) 9 #[true, true, false, false, true, true, false, false, true, true, true, true, true, true, true, true, false, false, false, false, false] ((((((((((((a0.put (some 141) va).put (some 142) (.int .i64 x1)).put (some 145) vl).put (some 146) (.int .i64 x2)).put (some 149) vt).put (some 150) (.pointer (some ⟨nb, 0, none⟩))).put (some 151) (.int .u16 n0)).put (some 152) (.int .i64 n0)).put (some 153) (.int .i64 k)).put (some 154) (.int .i64 (n0 + k))).put (some 155) (.int .i64 ((n0 + k) % 1000))).put (some 156) (.int .i64 (1 + (n0 + k) % 1000))) W.drew
  refine s18_0000 B nb W.drew va vl vt la ll lt x1 x2 (1 + (n0 + k) % 1000) n0 _ Q ⟨?_, ((ev_ne _ _ (by decide)).trans ((ev_ne _ _ (by decide)).trans ((ev_ne _ _ (by decide)).trans ((ev_ne _ _ (by decide)).trans ((ev_ne _ _ (by decide)).trans ((ev_ne _ _ (by decide)).trans ((ev_ne _ _ (by decide)).trans ((ev_ne _ _ (by decide)).trans ((ev_ne _ _ (by decide)).trans ((ev_ne _ _ (by decide)).trans ((ev_ne _ _ (by decide)).trans (ev_eq _ _ (by first | omega | (simp only [sz_put]; omega)))))))))))))), ((ev_ne _ _ (by decide)).trans ((ev_ne _ _ (by decide)).trans ((ev_ne _ _ (by decide)).trans ((ev_ne _ _ (by decide)).trans ((ev_ne _ _ (by decide)).trans ((ev_ne _ _ (by decide)).trans ((ev_ne _ _ (by decide)).trans ((ev_ne _ _ (by decide)).trans ((ev_ne _ _ (by decide)).trans ((ev_ne _ _ (by decide)).trans (ev_eq _ _ (by first | omega | (simp only [sz_put]; omega))))))))))))), ((ev_ne _ _ (by decide)).trans ((ev_ne _ _ (by decide)).trans ((ev_ne _ _ (by decide)).trans ((ev_ne _ _ (by decide)).trans ((ev_ne _ _ (by decide)).trans ((ev_ne _ _ (by decide)).trans ((ev_ne _ _ (by decide)).trans ((ev_ne _ _ (by decide)).trans ((ev_ne _ _ (by decide)).trans (ev_eq _ _ (by first | omega | (simp only [sz_put]; omega)))))))))))), ((ev_ne _ _ (by decide)).trans ((ev_ne _ _ (by decide)).trans ((ev_ne _ _ (by decide)).trans ((ev_ne _ _ (by decide)).trans ((ev_ne _ _ (by decide)).trans ((ev_ne _ _ (by decide)).trans ((ev_ne _ _ (by decide)).trans ((ev_ne _ _ (by decide)).trans (ev_eq _ _ (by first | omega | (simp only [sz_put]; omega))))))))))), ((ev_ne _ _ (by decide)).trans ((ev_ne _ _ (by decide)).trans ((ev_ne _ _ (by decide)).trans ((ev_ne _ _ (by decide)).trans ((ev_ne _ _ (by decide)).trans ((ev_ne _ _ (by decide)).trans ((ev_ne _ _ (by decide)).trans (ev_eq _ _ (by first | omega | (simp only [sz_put]; omega)))))))))), (ev_eq _ _ (by first | omega | (simp only [sz_put]; omega)))⟩ hn hnb hlen hQ hG W.drew hR
  simp only [sz_put]; exact hs
end Go.Proofs.YtoipafnlcchmbaaGreatDoor
