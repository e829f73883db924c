/- SoundAdds: the energies turned at the cut, one drawn statement (made by wip/tools/gen_t6.py). -/
import Derived.Test.YtoipafnlcchmbaaGreatDoorT4
import Derived.Test.YtoipafnlcchmbaaGreatDoorT5
import Derived.WalkKit
namespace Go.Proofs.YtoipafnlcchmbaaGreatDoor
open Go.RowKit

def op23_0 : Oper := { dst := some 188, op := Op.move (Operand.tmp 5), type := 26, pos := "law.go:292", after := #[], guard := none }
def op23_1 : Oper := { dst := some 189, op := Op.move (Operand.tmp 23), type := 3, pos := "law.go:292", after := #[], guard := none }
def op23_2 : Oper := { dst := some 190, op := Op.slice 26 (Operand.tmp 188) (some (Operand.tmp 189)) none none, type := 26, pos := "law.go:292", after := #[{ on := 0, ground := Ground.data }, { on := 1, ground := Ground.data }], guard := none }
def op23_3 : Oper := { dst := some 191, op := Op.call { callee := Callee.value (Operand.func 44), args := #[Operand.tmp 190], argTypes := #[26] }, type := 26, pos := "law.go:292", after := #[{ on := 2, ground := Ground.data }], guard := none }
def op23_4 : Oper := { dst := some 192, op := Op.move (Operand.tmp 5), type := 26, pos := "law.go:292", after := #[], guard := none }
def op23_5 : Oper := { dst := some 193, op := Op.move (Operand.tmp 23), type := 3, pos := "law.go:292", after := #[], guard := none }
def op23_6 : Oper := { dst := some 194, op := Op.slice 26 (Operand.tmp 192) none (some (Operand.tmp 193)) none, type := 26, pos := "law.go:292", after := #[{ on := 4, ground := Ground.data }, { on := 5, ground := Ground.data }], guard := none }
def op23_7 : Oper := { dst := some 195, op := Op.call { callee := Callee.builtin Builtin.append, args := #[Operand.tmp 191, Operand.tmp 194], argTypes := #[26, 26] }, type := 26, pos := "law.go:292", after := #[{ on := 3, ground := Ground.data }, { on := 6, ground := Ground.data }, { on := 3, ground := Ground.chain }], guard := none }
def op23_8 : Oper := { dst := some 24, op := Op.assign (Operand.tmp 195), type := 26, pos := "law.go:292", after := #[{ on := 7, ground := Ground.data }, { on := 7, ground := Ground.chain }, { on := 0, ground := Ground.phase }, { on := 1, ground := Ground.phase }, { on := 2, ground := Ground.phase }, { on := 3, ground := Ground.phase }, { on := 4, ground := Ground.phase }, { on := 5, ground := Ground.phase }, { on := 6, ground := Ground.phase }, { on := 7, ground := Ground.phase }], guard := none }
def ops23 : Array Oper := #[op23_0, op23_1, op23_2, op23_3, op23_4, op23_5, op23_6, op23_7, op23_8]
/-- Where the rest of a slice begins: a pointer does not move behind its block. -/
def offC (ca cn : Nat) : Nat := if ca = cn then 0 else cn
theorem run_tail (ga k ca cn : Nat) (h1 : cn ≤ k) (h2 : k ≤ ca) (w : World) : (Instr.sliceAt 26 (.slice (some ⟨ga, 0, none⟩) k ca) (some (.int .i64 (cn : Int))) none none).run Tryz.prog w = .ok (.slice (some ⟨ga, offC ca cn, none⟩) (k - cn) (ca - cn)) w := by
  have b1 : (0 : Int) ≤ (cn : Int) := by omega
  have b2 : (cn : Int) ≤ (k : Int) := by omega
  have b3 : (k : Int) ≤ (ca : Int) := by omega
  have b4 : (cn : Int) ≤ (ca : Int) := by omega
  unfold offC
  by_cases h : ca = cn
  · rw [if_pos h]
    go_simp
    first | done | omega | (intro h3; omega)
  · rw [if_neg h]
    go_simp
    first | done | omega | (intro h3; omega)
theorem IntsAt.tail {w : World} {g n : Nat} {zs : List Int} (h : IntsAt w (some ⟨g, 0, none⟩) n zs) (c ca : Nat) (hc : c ≤ n) (hca : n ≤ ca) : IntsAt w (some ⟨g, offC ca c, none⟩) (n - c) (zs.drop c) := by
  unfold offC
  by_cases h1 : ca = c
  · refine ⟨by rw [List.length_drop, h.1], fun hn => by omega⟩
  · rw [if_neg h1]
    have := IntsAt.cut h c hc
    rwa [Nat.zero_add] at this
theorem enters_ints (args : Array Value) (W : World) : (callFunc 44 args).run Tryz.prog W = .ok (.enter 44 args) W := by kernel_rfl
theorem wp_enter {P : Program} {o : Oper} {a : Act} {w : World} {K : Act → World → Prop} {Q : Exit → Act → World → Prop} (f : FuncId) (args : Array Value) (hr : (execOp a.eval o).run P w = .ok (.enter f args) w) (h : Calls P f args w fun e w' => ∃ v, e = .returned v ∧ K (a.put o.dst v) w') : o.wp P a w K Q := by
  unfold Oper.wp
  rw [hr]
  exact Calls.mono h (by rintro e w' ⟨v, rfl, h⟩; exact h)

set_option maxHeartbeats 1000000 in
set_option maxRecDepth 100000 in
theorem adds_r23 (ga k ca cn : Nat) (es : List Int) (W : World) (a0 : Act) (Q : Exit → Act → World → Prop) (hs : a0.tmps.size = 386) (h5 : a0.eval (.tmp 5) = .slice (some ⟨ga, 0, none⟩) k ca) (h23 : a0.eval (.tmp 23) = .int .i64 (cn : Int))
    (hA : IntsAt W (some ⟨ga, 0, none⟩) k es) (hck : cn ≤ k) (hka : k ≤ ca) (hk : k ≤ 10)
    (hQ : ∀ c a (d : Option Tmp) v w, Q (.panic c) (a.put d v) w → Q (.panic c) a w)
    (hG : ∀ (v1 v2 : Value) (w : World), OwnI w W.heap.size v2 (es.drop cn ++ es.take cn) → Below W.heap.size W w → Q .normal (((((((((a0.put (some 188) (.slice (some ⟨ga, 0, none⟩) k ca)).put (some 189) (.int .i64 (cn : Int))).put (some 190) (.slice (some ⟨ga, offC ca cn, none⟩) (k - cn) (ca - cn))).put (some 192) (.slice (some ⟨ga, 0, none⟩) k ca)).put (some 193) (.int .i64 (cn : Int))).put (some 194) (.slice (some ⟨ga, 0, none⟩) cn ca)).put (some 191) v1).put (some 195) v2).put (some 24) v2) w) :
    (Code.region 23 ops23 true).wp Tryz.prog Q a0 W := by
  have b1 : (0 : Int) ≤ (cn : Int) := by omega
  have b2 : (cn : Int) ≤ (k : Int) := by omega
  have b3 : (k : Int) ≤ (ca : Int) := by omega
  have b4 : (cn : Int) ≤ (ca : Int) := by omega
  refine wp_region_held (S := fun _ => True) (by kernel_rfl) ?_
  show wpAnyH Tryz.prog .any ops23 Q (fun _ => True) 9 #[false, false, false, false, false, false, false, false, false] a0 W.drew
  refine wpAnyH_take (i := 0) (oi := op23_0) (v := (.slice (some ⟨ga, 0, none⟩) k ca)) rfl (by kernel_rfl) (by kernel_rfl) (by kernel_rfl) (fun c a w h => hQ c a _ _ w h) (Or.inl ⟨by rfl, fun w _ => ?_⟩) trivial ?_
  · have e0 : Act.eval a0 (.tmp 5) = (.slice (some ⟨ga, 0, none⟩) k ca) := h5
    simp only [execOp, op23_0, e0]
    rfl
  show wpAnyH Tryz.prog .any ops23 Q (fun _ => True) 8 #[true, false, false, false, false, false, false, false, false] (a0.put (some 188) (.slice (some ⟨ga, 0, none⟩) k ca)) W.drew
  refine wpAnyH_take (i := 1) (oi := op23_1) (v := (.int .i64 (cn : Int))) rfl (by kernel_rfl) (by kernel_rfl) (by kernel_rfl) (fun c a w h => hQ c a _ _ w h) (Or.inl ⟨by rfl, fun w _ => ?_⟩) trivial ?_
  · have e0 : Act.eval (a0.put (some 188) (.slice (some ⟨ga, 0, none⟩) k ca)) (.tmp 23) = (.int .i64 (cn : Int)) := ((ev_ne _ _ (by decide)).trans h23)
    simp only [execOp, op23_1, e0]
    rfl
  show wpAnyH Tryz.prog .any ops23 Q (fun _ => True) 7 #[true, true, false, false, false, false, false, false, false] ((a0.put (some 188) (.slice (some ⟨ga, 0, none⟩) k ca)).put (some 189) (.int .i64 (cn : Int))) W.drew
  refine wpAnyH_take (i := 2) (oi := op23_2) (v := (.slice (some ⟨ga, offC ca cn, none⟩) (k - cn) (ca - cn))) rfl (by kernel_rfl) (by kernel_rfl) (by kernel_rfl) (fun c a w h => hQ c a _ _ w h) (Or.inl ⟨by rfl, fun w _ => ?_⟩) trivial ?_
  · have e0 : Act.eval ((a0.put (some 188) (.slice (some ⟨ga, 0, none⟩) k ca)).put (some 189) (.int .i64 (cn : Int))) (.tmp 188) = (.slice (some ⟨ga, 0, none⟩) k ca) := ((ev_ne _ _ (by decide)).trans (ev_eq _ _ (by first | omega | (simp only [sz_put]; omega))))
    have e1 : Act.eval ((a0.put (some 188) (.slice (some ⟨ga, 0, none⟩) k ca)).put (some 189) (.int .i64 (cn : Int))) (.tmp 189) = (.int .i64 (cn : Int)) := (ev_eq _ _ (by first | omega | (simp only [sz_put]; omega)))
    simp only [execOp, op23_2, Option.map_some, Option.map_none, e0, e1]
    rw [Sem.run_bind, run_tail ga k ca cn hck hka]; rfl
  show wpAnyH Tryz.prog .any ops23 Q (fun _ => True) 6 #[true, true, true, false, false, false, false, false, false] (((a0.put (some 188) (.slice (some ⟨ga, 0, none⟩) k ca)).put (some 189) (.int .i64 (cn : Int))).put (some 190) (.slice (some ⟨ga, offC ca cn, none⟩) (k - cn) (ca - cn))) W.drew
  refine wpAnyH_take (i := 4) (oi := op23_4) (v := (.slice (some ⟨ga, 0, none⟩) k ca)) rfl (by kernel_rfl) (by kernel_rfl) (by kernel_rfl) (fun c a w h => hQ c a _ _ w h) (Or.inl ⟨by rfl, fun w _ => ?_⟩) trivial ?_
  · have e0 : Act.eval (((a0.put (some 188) (.slice (some ⟨ga, 0, none⟩) k ca)).put (some 189) (.int .i64 (cn : Int))).put (some 190) (.slice (some ⟨ga, offC ca cn, none⟩) (k - cn) (ca - cn))) (.tmp 5) = (.slice (some ⟨ga, 0, none⟩) k ca) := ((ev_ne _ _ (by decide)).trans ((ev_ne _ _ (by decide)).trans ((ev_ne _ _ (by decide)).trans h5)))
    simp only [execOp, op23_4, e0]
    rfl
  show wpAnyH Tryz.prog .any ops23 Q (fun _ => True) 5 #[true, true, true, false, true, false, false, false, false] ((((a0.put (some 188) (.slice (some ⟨ga, 0, none⟩) k ca)).put (some 189) (.int .i64 (cn : Int))).put (some 190) (.slice (some ⟨ga, offC ca cn, none⟩) (k - cn) (ca - cn))).put (some 192) (.slice (some ⟨ga, 0, none⟩) k ca)) W.drew
  refine wpAnyH_take (i := 5) (oi := op23_5) (v := (.int .i64 (cn : Int))) rfl (by kernel_rfl) (by kernel_rfl) (by kernel_rfl) (fun c a w h => hQ c a _ _ w h) (Or.inl ⟨by rfl, fun w _ => ?_⟩) trivial ?_
  · have e0 : Act.eval ((((a0.put (some 188) (.slice (some ⟨ga, 0, none⟩) k ca)).put (some 189) (.int .i64 (cn : Int))).put (some 190) (.slice (some ⟨ga, offC ca cn, none⟩) (k - cn) (ca - cn))).put (some 192) (.slice (some ⟨ga, 0, none⟩) k ca)) (.tmp 23) = (.int .i64 (cn : Int)) := ((ev_ne _ _ (by decide)).trans ((ev_ne _ _ (by decide)).trans ((ev_ne _ _ (by decide)).trans ((ev_ne _ _ (by decide)).trans h23))))
    simp only [execOp, op23_5, e0]
    rfl
  show wpAnyH Tryz.prog .any ops23 Q (fun _ => True) 4 #[true, true, true, false, true, true, false, false, false] (((((a0.put (some 188) (.slice (some ⟨ga, 0, none⟩) k ca)).put (some 189) (.int .i64 (cn : Int))).put (some 190) (.slice (some ⟨ga, offC ca cn, none⟩) (k - cn) (ca - cn))).put (some 192) (.slice (some ⟨ga, 0, none⟩) k ca)).put (some 193) (.int .i64 (cn : Int))) W.drew
  refine wpAnyH_take (i := 6) (oi := op23_6) (v := (.slice (some ⟨ga, 0, none⟩) cn ca)) rfl (by kernel_rfl) (by kernel_rfl) (by kernel_rfl) (fun c a w h => hQ c a _ _ w h) (Or.inl ⟨by rfl, fun w _ => ?_⟩) trivial ?_
  · have e0 : Act.eval (((((a0.put (some 188) (.slice (some ⟨ga, 0, none⟩) k ca)).put (some 189) (.int .i64 (cn : Int))).put (some 190) (.slice (some ⟨ga, offC ca cn, none⟩) (k - cn) (ca - cn))).put (some 192) (.slice (some ⟨ga, 0, none⟩) k ca)).put (some 193) (.int .i64 (cn : Int))) (.tmp 192) = (.slice (some ⟨ga, 0, none⟩) k ca) := ((ev_ne _ _ (by decide)).trans (ev_eq _ _ (by first | omega | (simp only [sz_put]; omega))))
    have e1 : Act.eval (((((a0.put (some 188) (.slice (some ⟨ga, 0, none⟩) k ca)).put (some 189) (.int .i64 (cn : Int))).put (some 190) (.slice (some ⟨ga, offC ca cn, none⟩) (k - cn) (ca - cn))).put (some 192) (.slice (some ⟨ga, 0, none⟩) k ca)).put (some 193) (.int .i64 (cn : Int))) (.tmp 193) = (.int .i64 (cn : Int)) := (ev_eq _ _ (by first | omega | (simp only [sz_put]; omega)))
    simp only [execOp, op23_6, Option.map_some, Option.map_none, e0, e1]
    go_simp
  show wpAnyH Tryz.prog .any ops23 Q (fun _ => True) 3 #[true, true, true, false, true, true, true, false, false] ((((((a0.put (some 188) (.slice (some ⟨ga, 0, none⟩) k ca)).put (some 189) (.int .i64 (cn : Int))).put (some 190) (.slice (some ⟨ga, offC ca cn, none⟩) (k - cn) (ca - cn))).put (some 192) (.slice (some ⟨ga, 0, none⟩) k ca)).put (some 193) (.int .i64 (cn : Int))).put (some 194) (.slice (some ⟨ga, 0, none⟩) cn ca)) W.drew
  refine wpAnyH_all (rs := [3]) (by kernel_rfl) (by simp) ?_
  intro i hi
  simp only [List.mem_cons, List.not_mem_nil, or_false] at hi
  subst hi
  have e3 : Act.eval ((((((a0.put (some 188) (.slice (some ⟨ga, 0, none⟩) k ca)).put (some 189) (.int .i64 (cn : Int))).put (some 190) (.slice (some ⟨ga, offC ca cn, none⟩) (k - cn) (ca - cn))).put (some 192) (.slice (some ⟨ga, 0, none⟩) k ca)).put (some 193) (.int .i64 (cn : Int))).put (some 194) (.slice (some ⟨ga, 0, none⟩) cn ca)) (.tmp 190) = (.slice (some ⟨ga, offC ca cn, none⟩) (k - cn) (ca - cn)) := ((ev_ne _ _ (by decide)).trans ((ev_ne _ _ (by decide)).trans ((ev_ne _ _ (by decide)).trans (ev_eq _ _ (by first | omega | (simp only [sz_put]; omega))))))
  refine wpOp_plain op23_3 rfl rfl (wp_enter 44 #[(.slice (some ⟨ga, offC ca cn, none⟩) (k - cn) (ca - cn))] ?_ ?_)
  · simp only [execOp, op23_3]
    go_simp
  have hD : IntsAt W.drew (some ⟨ga, offC ca cn, none⟩) (k - cn) (es.drop cn) := IntsAt.tail (w := W.drew) hA cn ca hck hka
  refine (ints_own _ _ _ (es.drop cn) _ hD (fun h => by cases h) (by omega)).mono ?_
  rintro e w1 ⟨v1, rfl, hO, hb⟩
  refine ⟨v1, rfl, trivial, ?_⟩
  show wpAnyH Tryz.prog .any ops23 Q (fun _ => True) 2 #[true, true, true, true, true, true, true, false, false] (((((((a0.put (some 188) (.slice (some ⟨ga, 0, none⟩) k ca)).put (some 189) (.int .i64 (cn : Int))).put (some 190) (.slice (some ⟨ga, offC ca cn, none⟩) (k - cn) (ca - cn))).put (some 192) (.slice (some ⟨ga, 0, none⟩) k ca)).put (some 193) (.int .i64 (cn : Int))).put (some 194) (.slice (some ⟨ga, 0, none⟩) cn ca)).put (some 191) v1) w1
  refine wpAnyH_all (rs := [7]) (by kernel_rfl) (by simp) ?_
  intro i hi
  simp only [List.mem_cons, List.not_mem_nil, or_false] at hi
  subst hi
  obtain ⟨i0, hi, hz0, hz1, hz2⟩ := info_parts infoInt
  have hH : IntsAt w1 (some ⟨ga, 0, none⟩) cn (es.take cn) := IntsAt.head (IntsAt.keep (w := W.drew) hA hb) cn hck
  have hl : (es.take cn).length = cn := hH.1
  have hl2 : (es.drop cn).length = k - cn := hD.1
  refine wpOp_plain op23_7 rfl rfl (wp_append_own w1 (.tmp 191) (.tmp 194) 26 rfl W.heap.size 3 i0 (.int .i64 0) 1 8 Tryz.underlying26 hi hz0 hz1 hz2 rfl (by decide) v1 _ ((es.drop cn).map (Value.int .i64)) (ev_eq _ _ (by first | omega | (simp only [sz_put]; omega))) hO ⟨ga, 0, none⟩ cn ca ((es.take cn).map (Value.int .i64)) ((ev_ne _ _ (by decide)).trans (ev_eq _ _ (by first | omega | (simp only [sz_put]; omega)))) (by rw [List.length_map, hl, Nat.mul_one]) hH.news (ints_one _) (by rw [hl2]; unfold maxLen; omega) (by rw [hl2]; omega) hb.size ?_)
  intro v2 w2 ho hg _
  refine ⟨trivial, ?_⟩
  show wpAnyH Tryz.prog .any ops23 Q (fun _ => True) 1 #[true, true, true, true, true, true, true, true, false] ((((((((a0.put (some 188) (.slice (some ⟨ga, 0, none⟩) k ca)).put (some 189) (.int .i64 (cn : Int))).put (some 190) (.slice (some ⟨ga, offC ca cn, none⟩) (k - cn) (ca - cn))).put (some 192) (.slice (some ⟨ga, 0, none⟩) k ca)).put (some 193) (.int .i64 (cn : Int))).put (some 194) (.slice (some ⟨ga, 0, none⟩) cn ca)).put (some 191) v1).put (some 195) v2) w2
  refine wpAnyH_take (i := 8) (oi := op23_8) (v := v2) rfl (by kernel_rfl) (by kernel_rfl) (by kernel_rfl) (fun c a w h => hQ c a _ _ w h) (Or.inl ⟨by rfl, fun w _ => ?_⟩) trivial ?_
  · have e : Act.eval ((((((((a0.put (some 188) (.slice (some ⟨ga, 0, none⟩) k ca)).put (some 189) (.int .i64 (cn : Int))).put (some 190) (.slice (some ⟨ga, offC ca cn, none⟩) (k - cn) (ca - cn))).put (some 192) (.slice (some ⟨ga, 0, none⟩) k ca)).put (some 193) (.int .i64 (cn : Int))).put (some 194) (.slice (some ⟨ga, 0, none⟩) cn ca)).put (some 191) v1).put (some 195) v2) (.tmp 195) = v2 := (ev_eq _ _ (by first | omega | (simp only [sz_put]; omega)))
    simp only [execOp, op23_8, e]
    rfl
  show wpAnyH Tryz.prog .any ops23 Q (fun _ => True) 0 #[true, true, true, true, true, true, true, true, true] (((((((((a0.put (some 188) (.slice (some ⟨ga, 0, none⟩) k ca)).put (some 189) (.int .i64 (cn : Int))).put (some 190) (.slice (some ⟨ga, offC ca cn, none⟩) (k - cn) (ca - cn))).put (some 192) (.slice (some ⟨ga, 0, none⟩) k ca)).put (some 193) (.int .i64 (cn : Int))).put (some 194) (.slice (some ⟨ga, 0, none⟩) cn ca)).put (some 191) v1).put (some 195) v2).put (some 24) v2) w2
  refine wpAnyH_done (by kernel_rfl) (hG v1 v2 w2 ?_ ?_) _
  · unfold OwnI
    rw [List.length_append, List.map_append]
    rw [hl]
    exact ho
  · exact ((Below.refl _ W).drew.trans hb).grown hg hb.size (fun j hj => (hO.lt j hj).1)
end Go.Proofs.YtoipafnlcchmbaaGreatDoor
