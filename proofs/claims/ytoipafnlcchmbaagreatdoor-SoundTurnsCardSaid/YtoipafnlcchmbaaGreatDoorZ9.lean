/- SoundTurns: both samples in one list, one drawn statement (made by wip/tools/gen_z9.py); the copy of floats, with what it owns. -/
import Derived.Test.YtoipafnlcchmbaaGreatDoorR2
import Derived.Test.YtoipafnlcchmbaaGreatDoorZ8
import Derived.OrdersHeld
import Derived.Laws.AppendOwn
import Derived.WalkKit
namespace Go.Proofs.YtoipafnlcchmbaaGreatDoor
open Go.RowKit

theorem zev_ne (a : Act) {d t : Nat} (v : Value) (h : t ≠ d) : (a.put (some d) v).eval (.tmp t) = a.eval (.tmp t) := by
  simp [Act.put, Act.eval, Array.getElem?_setIfInBounds_ne (Ne.symm h)]
theorem zev_eq (a : Act) {d : Nat} (v : Value) (h : d < a.tmps.size) : (a.put (some d) v).eval (.tmp d) = v := by
  simp [Act.put, Act.eval, h]
theorem zsz_put (a : Act) (d : Nat) (v : Value) : (a.put (some d) v).tmps.size = a.tmps.size := by simp [Act.put]
theorem zwpOp_plain {P : Program} {ops : Array Oper} {Q : Exit → Act → World → Prop} {i : Nat} {K : Act → World → Prop} {a : Act} {w : World} (o : Oper) (hi : ops[i]? = some o) (hg : o.guard = none) (h : o.wp P a w K Q) : wpOp P ops Q i K a w := by
  unfold wpOp
  simp only [hi]
  rw [if_pos (by unfold Region.wanted; rw [hg])]
  exact Or.inl h
theorem zwp_enter {P : Program} {o : Oper} {a : Act} {w : World} {K : Act → World → Prop} {Q : Exit → Act → World → Prop} (f : FuncId) (args : Array Value) (hr : (execOp a.eval o).run P w = .ok (.enter f args) w) (h : Calls P f args w fun e w' => ∃ v, e = .returned v ∧ K (a.put o.dst v) w') : o.wp P a w K Q := by
  unfold Oper.wp
  rw [hr]
  exact Calls.mono h (by rintro e w' ⟨v, rfl, h⟩; exact h)
theorem FlAt.news {w : World} {g n : Nat} {zs : List Nat} (h : FlAt w (some ⟨g, 0, none⟩) n zs) : ∀ j u, (zs.map (Value.float .f32))[j]? = some u → w.cell? ((⟨g, 0, none⟩ : Addr).add j) = some u := fun j u hu => by
  have hj : j < n := by
    have := (List.getElem?_eq_some_iff.1 hu).1
    rw [List.length_map, h.1] at this
    exact this
  obtain ⟨b, off, he, hh⟩ := h.2 (by omega)
  cases he
  rw [addr_add, hh j hj, ← hu]
  simp [List.getD_eq_getElem?_getD, List.getElem?_eq_getElem (show j < zs.length by rw [h.1]; exact hj)]
theorem floats_one (zs : List Nat) : ∀ u ∈ zs.map (Value.float .f32), u.oneCell' = true := fun u hu => by
  obtain ⟨z, _, rfl⟩ := List.mem_map.1 hu
  rfl
theorem run_whole (g : Nat) (w : World) : (Instr.sliceAt 164 (.pointer (some ⟨g, 0, none⟩)) none none none).run Tryz.prog w = .ok (.slice (some ⟨g, 0, none⟩) 4 4) w := by kernel_rfl

set_option maxHeartbeats 1000000 in
theorem floats_own (g n c : Nat) (zs : List Nat) (w : World) (hz : FlAt w (some ⟨g, 0, none⟩) n zs) (hp : 0 < n) (hn : n ≤ 100000) :
    Calls Tryz.prog 30 #[.slice (some ⟨g, 0, none⟩) n c] w fun e w' => ∃ v, e = .returned v ∧ OwnF w' w.heap.size v zs ∧ Below w.heap.size w w' := by
  obtain ⟨i0, hi, hz0, hz1, hz2⟩ := info_parts infoF
  have hl := hz.1
  have h1 : (zs.map (Value.float .f32)).length = n * 1 := by rw [List.length_map, hl, Nat.mul_one]
  have h2 : ∀ j u, (zs.map (Value.float .f32))[j]? = some u → (w.alloc (.cells #[] 37)).cell? ((⟨g, 0, none⟩ : Addr).add j) = some u := fun j u hu => by
    have h3 := hz.news j u hu
    rw [addr_add] at h3 ⊢
    rw [(show (w.alloc (.cells #[] 37)).cell? ⟨g, 0 + j, none⟩ = w.cell? ⟨g, 0 + j, none⟩ from ((Below.refl w.heap.size w).alloc (Nat.le_refl _) _).cell (p := ⟨g, 0 + j, none⟩) (World.block_lt_of_cell? _ _ h3)), h3]
  have h3 := floats_one zs
  have H1 := Lib.hid h1
  have H2 := Lib.hid h2
  have H3 := Lib.hid h3
  have HL := Lib.hid hl
  clear h1 h2 h3 hz hl
  go_enter Tryz.func30, Tryz.ntmps30
  go_wp2_with (at_builtin; refine wpList_append_arg _ rfl _ _ 38 rfl 37 i0 (.float .f32 0) 1 4 Tryz.underlying38 hi hz0 hz1 hz2 rfl (by decide) w.heap.size 0 0 0 [] rfl rfl (fun j u h => by simp at h) ⟨g, 0, none⟩ n c (zs.map (Value.float .f32)) rfl H1.out H2.out H3.out (fun h => by omega) (by unfold maxLen; omega) (by omega) (fun h => by omega) ?_; intro _ v' w1 hown hgrow)
  have hO : OwnF w1 (w.alloc (.cells #[] 37)).heap.size v' zs := by
    unfold OwnF
    rw [HL.out]
    have := hown
    rw [Nat.zero_add] at this
    exact this
  have hb : Below w.heap.size w w1 := Below.grown ((Below.refl _ _).alloc (Nat.le_refl _) _) hgrow (by simp) (fun k hk => by cases hk)
  have hO2 : OwnF w1 w.heap.size v' zs := by
    unfold OwnF at hO ⊢
    rcases hO with ⟨h1, h2 | ⟨g, cap, cur, hv, hg, r⟩⟩
    · exact ⟨h1, .inl h2⟩
    · exact ⟨h1, .inr ⟨g, cap, cur, hv, Nat.le_trans (by simp) hg, r⟩⟩
  clear hown hgrow hO
  go_wp2
  go_ret
  exact ⟨_, rfl, hO2, hb⟩


def op30_0 : Oper := { dst := some 183, op := Op.slice 164 (Operand.tmp 5) none none none, type := 38, pos := "law.go:353", after := #[], guard := none }
def op30_1 : Oper := { dst := some 184, op := Op.call { callee := Callee.value (Operand.func 30), args := #[Operand.tmp 183], argTypes := #[38] }, type := 38, pos := "law.go:353", after := #[{ on := 0, ground := Ground.data }], guard := none }
def op30_2 : Oper := { dst := some 185, op := Op.slice 164 (Operand.tmp 6) none none none, type := 38, pos := "law.go:353", after := #[], guard := none }
def op30_3 : Oper := { dst := some 186, op := Op.call { callee := Callee.builtin Builtin.append, args := #[Operand.tmp 184, Operand.tmp 185], argTypes := #[38, 38] }, type := 38, pos := "law.go:353", after := #[{ on := 1, ground := Ground.data }, { on := 2, ground := Ground.data }, { on := 1, ground := Ground.chain }], guard := none }
def op30_4 : Oper := { dst := some 26, op := Op.assign (Operand.tmp 186), type := 38, pos := "law.go:353", after := #[{ on := 3, ground := Ground.data }, { on := 3, ground := Ground.chain }, { on := 0, ground := Ground.phase }, { on := 1, ground := Ground.phase }, { on := 2, ground := Ground.phase }, { on := 3, ground := Ground.phase }], guard := none }
def ops30 : Array Oper := #[op30_0, op30_1, op30_2, op30_3, op30_4]
set_option maxHeartbeats 1000000 in
set_option maxRecDepth 100000 in
theorem turns_r30 (ga gb : Nat) (xs ys : List Nat) (W : World) (a0 : Act) (Q : Exit → Act → World → Prop) (hs : a0.tmps.size = 290) (h5 : a0.eval (.tmp 5) = .pointer (some ⟨ga, 0, none⟩)) (h6 : a0.eval (.tmp 6) = .pointer (some ⟨gb, 0, none⟩))
    (hA : FlAt W (some ⟨ga, 0, none⟩) 4 xs) (hB : FlAt W (some ⟨gb, 0, none⟩) 4 ys)
    (hQ : ∀ c a (d : Option Tmp) v w, Q (.panic c) (a.put d v) w → Q (.panic c) a w)
    (hG : ∀ (v1 v2 : Value) (w : World), OwnF w W.heap.size v2 (xs ++ ys) → Below W.heap.size W w → Q .normal (((((a0.put (some 183) (.slice (some ⟨ga, 0, none⟩) 4 4)).put (some 185) (.slice (some ⟨gb, 0, none⟩) 4 4)).put (some 184) v1).put (some 186) v2).put (some 26) v2) w) :
    (Code.region 30 ops30 true).wp Tryz.prog Q a0 W := by
  refine wp_region_held (S := fun _ => True) (by kernel_rfl) ?_
  show wpAnyH Tryz.prog .any ops30 Q (fun _ => True) 5 #[false, false, false, false, false] a0 W.drew
  refine wpAnyH_take (i := 0) (oi := op30_0) (v := (.slice (some ⟨ga, 0, none⟩) 4 4)) rfl (by kernel_rfl) (by kernel_rfl) (by kernel_rfl) (fun c a w h => hQ c a _ _ w h) (Or.inl ⟨by rfl, fun w _ => ?_⟩) trivial ?_
  · have e0 : Act.eval a0 (.tmp 5) = .pointer (some ⟨ga, 0, none⟩) := h5
    simp only [execOp, op30_0, Option.map_none, e0]
    rw [Sem.run_bind, run_whole]; rfl
  show wpAnyH Tryz.prog .any ops30 Q (fun _ => True) 4 #[true, false, false, false, false] (a0.put (some 183) (.slice (some ⟨ga, 0, none⟩) 4 4)) W.drew
  refine wpAnyH_take (i := 2) (oi := op30_2) (v := (.slice (some ⟨gb, 0, none⟩) 4 4)) rfl (by kernel_rfl) (by kernel_rfl) (by kernel_rfl) (fun c a w h => hQ c a _ _ w h) (Or.inl ⟨by rfl, fun w _ => ?_⟩) trivial ?_
  · have e0 : Act.eval (a0.put (some 183) (.slice (some ⟨ga, 0, none⟩) 4 4)) (.tmp 6) = .pointer (some ⟨gb, 0, none⟩) := ((zev_ne _ _ (by decide)).trans h6)
    simp only [execOp, op30_2, Option.map_none, e0]
    rw [Sem.run_bind, run_whole]; rfl
  show wpAnyH Tryz.prog .any ops30 Q (fun _ => True) 3 #[true, false, true, false, false] ((a0.put (some 183) (.slice (some ⟨ga, 0, none⟩) 4 4)).put (some 185) (.slice (some ⟨gb, 0, none⟩) 4 4)) W.drew
  refine wpAnyH_all (rs := [1]) (by kernel_rfl) (by simp) ?_
  intro i hi
  simp only [List.mem_cons, List.not_mem_nil, or_false] at hi
  subst hi
  have e3 : Act.eval ((a0.put (some 183) (.slice (some ⟨ga, 0, none⟩) 4 4)).put (some 185) (.slice (some ⟨gb, 0, none⟩) 4 4)) (.tmp 183) = (.slice (some ⟨ga, 0, none⟩) 4 4) := ((zev_ne _ _ (by decide)).trans (zev_eq _ _ (by first | omega | (simp only [zsz_put]; omega))))
  refine zwpOp_plain op30_1 rfl rfl (zwp_enter 30 #[(.slice (some ⟨ga, 0, none⟩) 4 4)] ?_ ?_)
  · simp only [execOp, op30_1]
    go_simp
  refine (floats_own _ _ _ xs _ (show FlAt W.drew (some ⟨ga, 0, none⟩) 4 xs from hA) (by omega) (by omega)).mono ?_
  rintro e w1 ⟨v1, rfl, hO, hb⟩
  refine ⟨v1, rfl, trivial, ?_⟩
  show wpAnyH Tryz.prog .any ops30 Q (fun _ => True) 2 #[true, true, true, false, false] (((a0.put (some 183) (.slice (some ⟨ga, 0, none⟩) 4 4)).put (some 185) (.slice (some ⟨gb, 0, none⟩) 4 4)).put (some 184) v1) w1
  refine wpAnyH_all (rs := [3]) (by kernel_rfl) (by simp) ?_
  intro i hi
  simp only [List.mem_cons, List.not_mem_nil, or_false] at hi
  subst hi
  obtain ⟨i0, hi, hz0, hz1, hz2⟩ := info_parts infoF
  have hH : FlAt w1 (some ⟨gb, 0, none⟩) 4 ys := FlAt.keep (w := W.drew) hB hb
  have hl : ys.length = 4 := hB.1
  have hl2 : xs.length = 4 := hA.1
  refine zwpOp_plain op30_3 rfl rfl (wp_append_own w1 (.tmp 184) (.tmp 185) 38 rfl W.heap.size 37 i0 (.float .f32 0) 1 4 Tryz.underlying38 hi hz0 hz1 hz2 rfl (by decide) v1 _ (xs.map (Value.float .f32)) (zev_eq _ _ (by first | omega | (simp only [zsz_put]; omega))) hO ⟨gb, 0, none⟩ 4 4 (ys.map (Value.float .f32)) ((zev_ne _ _ (by decide)).trans (zev_eq _ _ (by first | omega | (simp only [zsz_put]; omega)))) (by rw [List.length_map, hl]) hH.news (floats_one _) (by rw [hl2]; unfold maxLen; omega) (by rw [hl2]; omega) hb.size ?_)
  intro v2 w2 ho hg _
  refine ⟨trivial, ?_⟩
  show wpAnyH Tryz.prog .any ops30 Q (fun _ => True) 1 #[true, true, true, true, false] ((((a0.put (some 183) (.slice (some ⟨ga, 0, none⟩) 4 4)).put (some 185) (.slice (some ⟨gb, 0, none⟩) 4 4)).put (some 184) v1).put (some 186) v2) w2
  refine wpAnyH_take (i := 4) (oi := op30_4) (v := v2) rfl (by kernel_rfl) (by kernel_rfl) (by kernel_rfl) (fun c a w h => hQ c a _ _ w h) (Or.inl ⟨by rfl, fun w _ => ?_⟩) trivial ?_
  · have e : Act.eval ((((a0.put (some 183) (.slice (some ⟨ga, 0, none⟩) 4 4)).put (some 185) (.slice (some ⟨gb, 0, none⟩) 4 4)).put (some 184) v1).put (some 186) v2) (.tmp 186) = v2 := (zev_eq _ _ (by first | omega | (simp only [zsz_put]; omega)))
    simp only [execOp, op30_4, e]
    rfl
  show wpAnyH Tryz.prog .any ops30 Q (fun _ => True) 0 #[true, true, true, true, true] (((((a0.put (some 183) (.slice (some ⟨ga, 0, none⟩) 4 4)).put (some 185) (.slice (some ⟨gb, 0, none⟩) 4 4)).put (some 184) v1).put (some 186) v2).put (some 26) v2) w2
  refine wpAnyH_done (by kernel_rfl) (hG v1 v2 w2 ?_ ?_) _
  · unfold OwnF
    rw [List.length_append, List.map_append]
    rw [hl]
    exact ho
  · exact ((Below.refl _ W).drew.trans hb).grown hg hb.size (fun j hj => (hO.lt j hj).1)
end Go.Proofs.YtoipafnlcchmbaaGreatDoor
