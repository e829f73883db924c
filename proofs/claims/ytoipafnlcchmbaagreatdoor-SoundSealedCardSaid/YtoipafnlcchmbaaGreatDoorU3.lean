/- SoundSealed's drawn regions, over a frame that is a letter (made by wip/tools/gen_u3.py). -/
import Derived.Test.YtoipafnlcchmbaaGreatDoorU2
import Derived.Test.YtoipafnlcchmbaaGreatDoorU1
namespace Go.Proofs.YtoipafnlcchmbaaGreatDoor
open Go.RowKit

def op17_0 : Oper := { dst := some 105, op := Op.load 94 (Operand.tmp 3), type := 94, pos := "law.go:396", after := #[], guard := none }
def op17_1 : Oper := { dst := some 106, op := Op.move (Operand.tmp 1), type := 114, pos := "law.go:396", after := #[], guard := none }
def op17_2 : Oper := { dst := some 107, op := Op.move (Operand.tmp 11), type := 3, pos := "law.go:396", after := #[], guard := none }
def op17_3 : Oper := { dst := some 108, op := Op.indexAddr 114 (Operand.tmp 106) (Operand.tmp 107), type := 0, pos := "law.go:396", after := #[{ on := 1, ground := Ground.data }, { on := 2, ground := Ground.data }], guard := none }
def op17_4 : Oper := { dst := some 109, op := Op.load 97 (Operand.tmp 108), type := 97, pos := "law.go:396", after := #[{ on := 3, ground := Ground.data }], guard := none }
def op17_5 : Oper := { dst := some 110, op := Op.call { callee := Callee.value (Operand.func 67), args := #[Operand.tmp 105, Operand.tmp 109], argTypes := #[94, 101] }, type := 99, pos := "law.go:396", after := #[{ on := 0, ground := Ground.data }, { on := 4, ground := Ground.data }], guard := none }
def op17_6 : Oper := { dst := some 104, op := Op.move (Operand.tmp 110), type := 99, pos := "law.go:396", after := #[{ on := 5, ground := Ground.data }], guard := none }
def op17_7 : Oper := { dst := some 111, op := Op.extract (Operand.tmp 104) 0, type := 98, pos := "law.go:396", after := #[{ on := 6, ground := Ground.data }], guard := none }
def op17_8 : Oper := { dst := some 112, op := Op.extract (Operand.tmp 104) 1, type := 27, pos := "law.go:396", after := #[{ on := 6, ground := Ground.data }, { on := 10, ground := Ground.gcOnly Departure.lateStores }], guard := none }
def op17_9 : Oper := { dst := some 12, op := Op.alloc 98, type := 0, pos := "law.go:396", after := #[], guard := none }
def op17_10 : Oper := { dst := none, op := Op.store 98 (Operand.tmp 12) (Operand.tmp 111), type := 0, pos := "law.go:396", after := #[{ on := 9, ground := Ground.data }, { on := 7, ground := Ground.data }, { on := 5, ground := Ground.chain }, { on := 0, ground := Ground.phase }, { on := 1, ground := Ground.phase }, { on := 2, ground := Ground.phase }, { on := 3, ground := Ground.phase }, { on := 4, ground := Ground.phase }, { on := 5, ground := Ground.phase }, { on := 6, ground := Ground.phase }, { on := 7, ground := Ground.phase }, { on := 8, ground := Ground.textOnly Departure.lateStores }, { on := 9, ground := Ground.phase }], guard := none }
def op17_11 : Oper := { dst := some 13, op := Op.assign (Operand.tmp 112), type := 27, pos := "law.go:396", after := #[{ on := 8, ground := Ground.data }, { on := 10, ground := Ground.chain }, { on := 0, ground := Ground.phase }, { on := 1, ground := Ground.phase }, { on := 2, ground := Ground.phase }, { on := 3, ground := Ground.phase }, { on := 4, ground := Ground.phase }, { on := 5, ground := Ground.phase }, { on := 6, ground := Ground.phase }, { on := 7, ground := Ground.phase }, { on := 8, ground := Ground.phase }, { on := 9, ground := Ground.phase }, { on := 10, ground := Ground.phase }], guard := none }
def ops17 : Array Oper := #[op17_0, op17_1, op17_2, op17_3, op17_4, op17_5, op17_6, op17_7, op17_8, op17_9, op17_10, op17_11]

set_option maxHeartbeats 1000000 in
set_option maxRecDepth 100000 in
theorem enc_r17 (gk G m cap k : Nat) (ka cs fa : Array Value) (W : World) (a0 : Act) (Q : Exit → Act → World → Prop) (hs : a0.tmps.size = 340) (h3 : a0.eval (.tmp 3) = .pointer (some ⟨gk, 0, none⟩)) (h1 : a0.eval (.tmp 1) = .slice (some ⟨G, 0, none⟩) m cap) (hx : a0.eval (.tmp 11) = .int .i64 (k : Int))
    (hk : k < m) (HK : Blk W gk 94 ka) (ika : (Tryz.prog.info? 94).map (·.size) = some ka.size) (HC : W.rangeAt G (k * 22) cs.toList) (hcs : cs.size = 22)
    (HENC : ∀ W : World, Calls Tryz.prog 67 #[.agg ka, .agg cs] W fun e w' => e = .returned (.tuple #[.agg fa, .int .i64 0]) ∧ Below W.heap.size W w')
    (fa32 : fa.size = 32) (fa1 : fa.all (·.oneCell') = true) (hQ : ∀ c a (d : Option Tmp) v w, Q (.panic c) (a.put d v) w → Q (.panic c) a w)
    (hG : ∀ (gf : Nat) (w : World), W.heap.size ≤ gf → Blk w gf 98 fa → Below W.heap.size W w → Q .normal (((((((((((a0.put (some 105) (.agg ka)).put (some 106) (.slice (some ⟨G, 0, none⟩) m cap)).put (some 107) (.int .i64 (k : Int))).put (some 108) (.pointer (some ⟨G, k * 22, none⟩))).put (some 109) (.agg cs)).put (some 110) (.tuple #[.agg fa, .int .i64 0])).put (some 104) (.tuple #[.agg fa, .int .i64 0])).put (some 111) (.agg fa)).put (some 112) (.int .i64 0)).put (some 12) (.pointer (some ⟨gf, 0, none⟩))).put (some 13) (.int .i64 0)) w) :
    (Code.region 17 ops17 true).wp Tryz.prog Q a0 W := by
  have b1 : (0 : Int) ≤ (k : Int) := by omega
  have b2 : (k : Int) < (m : Int) := by omega
  have ifa : (Tryz.prog.info? 98).map (·.size) = some fa.size := by rw [fa32]; kernel_rfl
  obtain ⟨S, hSd⟩ : ∃ S : World → Prop, S = fun w => Blk w gk 94 ka ∧ w.rangeAt G (k * 22) cs.toList := ⟨_, rfl⟩
  have keepS : ∀ w, Below W.heap.size W w → S w := fun w b => by rw [hSd]; exact ⟨HK.below b, rangeAt_keep HC b⟩
  have B0 : Below W.heap.size W W.drew := (Below.refl _ W).drew
  refine wp_region_held (S := S) (by kernel_rfl) ?_
  show wpAnyH Tryz.prog .any ops17 Q S 12 #[false, false, false, false, false, false, false, false, false, false, false, false] a0 W.drew
  refine wpAnyH_take (i := 0) (oi := op17_0) (v := (.agg ka)) rfl (by kernel_rfl) (by kernel_rfl) (by kernel_rfl) (fun c a w h => hQ c a _ _ w h) (Or.inl ⟨by rfl, fun w hS => ?_⟩) (keepS _ B0) ?_
  · have e0 : Act.eval a0 (.tmp 3) = (.pointer (some ⟨gk, 0, none⟩)) := h3
    exact run_load_of _ _ rfl _ _ w e0 (run_loadVar_row w gk 94 94 ka (0, 0) _ (by rw [hSd] at hS; exact hS.1) Tryz.underlying94 rfl ika)
  show wpAnyH Tryz.prog .any ops17 Q S 11 #[true, false, false, false, false, false, false, false, false, false, false, false] (a0.put (some 105) (.agg ka)) W.drew
  refine wpAnyH_take (i := 1) (oi := op17_1) (v := (.slice (some ⟨G, 0, none⟩) m cap)) rfl (by kernel_rfl) (by kernel_rfl) (by kernel_rfl) (fun c a w h => hQ c a _ _ w h) (Or.inl ⟨by rfl, fun w hS => ?_⟩) (keepS _ B0) ?_
  · have e0 : Act.eval (a0.put (some 105) (.agg ka)) (.tmp 1) = (.slice (some ⟨G, 0, none⟩) m cap) := ((ev_ne _ _ (by decide)).trans h1)
    simp only [execOp, op17_1, e0]
    rfl
  show wpAnyH Tryz.prog .any ops17 Q S 10 #[true, true, false, false, false, false, false, false, false, false, false, false] ((a0.put (some 105) (.agg ka)).put (some 106) (.slice (some ⟨G, 0, none⟩) m cap)) W.drew
  refine wpAnyH_take (i := 2) (oi := op17_2) (v := (.int .i64 (k : Int))) rfl (by kernel_rfl) (by kernel_rfl) (by kernel_rfl) (fun c a w h => hQ c a _ _ w h) (Or.inl ⟨by rfl, fun w hS => ?_⟩) (keepS _ B0) ?_
  · have e0 : Act.eval ((a0.put (some 105) (.agg ka)).put (some 106) (.slice (some ⟨G, 0, none⟩) m cap)) (.tmp 11) = (.int .i64 (k : Int)) := ((ev_ne _ _ (by decide)).trans ((ev_ne _ _ (by decide)).trans hx))
    simp only [execOp, op17_2, e0]
    rfl
  show wpAnyH Tryz.prog .any ops17 Q S 9 #[true, true, true, false, false, false, false, false, false, false, false, false] (((a0.put (some 105) (.agg ka)).put (some 106) (.slice (some ⟨G, 0, none⟩) m cap)).put (some 107) (.int .i64 (k : Int))) W.drew
  refine wpAnyH_take (i := 3) (oi := op17_3) (v := (.pointer (some ⟨G, k * 22, none⟩))) rfl (by kernel_rfl) (by kernel_rfl) (by kernel_rfl) (fun c a w h => hQ c a _ _ w h) (Or.inl ⟨by rfl, fun w hS => ?_⟩) (keepS _ B0) ?_
  · have e0 : Act.eval (((a0.put (some 105) (.agg ka)).put (some 106) (.slice (some ⟨G, 0, none⟩) m cap)).put (some 107) (.int .i64 (k : Int))) (.tmp 106) = (.slice (some ⟨G, 0, none⟩) m cap) := ((ev_ne _ _ (by decide)).trans (ev_eq _ _ (by first | omega | (simp only [sz_put]; omega))))
    have e1 : Act.eval (((a0.put (some 105) (.agg ka)).put (some 106) (.slice (some ⟨G, 0, none⟩) m cap)).put (some 107) (.int .i64 (k : Int))) (.tmp 107) = (.int .i64 (k : Int)) := (ev_eq _ _ (by first | omega | (simp only [sz_put]; omega)))
    simp only [execOp, op17_3, e0, e1]
    go_simp
  show wpAnyH Tryz.prog .any ops17 Q S 8 #[true, true, true, true, false, false, false, false, false, false, false, false] ((((a0.put (some 105) (.agg ka)).put (some 106) (.slice (some ⟨G, 0, none⟩) m cap)).put (some 107) (.int .i64 (k : Int))).put (some 108) (.pointer (some ⟨G, k * 22, none⟩))) W.drew
  refine wpAnyH_take (i := 4) (oi := op17_4) (v := (.agg cs)) rfl (by kernel_rfl) (by kernel_rfl) (by kernel_rfl) (fun c a w h => hQ c a _ _ w h) (Or.inl ⟨by rfl, fun w hS => ?_⟩) (keepS _ B0) ?_
  · have e0 : Act.eval ((((a0.put (some 105) (.agg ka)).put (some 106) (.slice (some ⟨G, 0, none⟩) m cap)).put (some 107) (.int .i64 (k : Int))).put (some 108) (.pointer (some ⟨G, k * 22, none⟩))) (.tmp 108) = (.pointer (some ⟨G, k * 22, none⟩)) := (ev_eq _ _ (by first | omega | (simp only [sz_put]; omega)))
    exact run_load_of _ _ rfl _ _ w e0 (by have h := run_loadVar_mid (P := Tryz.prog) w G (k * 22) 97 cs.toList _ (by rw [hSd] at hS; exact hS.2) Tryz.underlying97 rfl (by rw [Array.length_toList, hcs]; kernel_rfl); simpa using h)
  show wpAnyH Tryz.prog .any ops17 Q S 7 #[true, true, true, true, true, false, false, false, false, false, false, false] (((((a0.put (some 105) (.agg ka)).put (some 106) (.slice (some ⟨G, 0, none⟩) m cap)).put (some 107) (.int .i64 (k : Int))).put (some 108) (.pointer (some ⟨G, k * 22, none⟩))).put (some 109) (.agg cs)) W.drew
  refine wpAnyH_all (rs := [5, 9]) (by kernel_rfl) (by simp) ?_
  intro i hi
  simp only [List.mem_cons, List.not_mem_nil, or_false] at hi
  rcases hi with rfl | rfl
  · refine wpOp_plain op17_5 rfl rfl (wp_enterU 67 #[.agg ka, .agg cs] ?_ ?_)
    · have e0 : Act.eval (((((a0.put (some 105) (.agg ka)).put (some 106) (.slice (some ⟨G, 0, none⟩) m cap)).put (some 107) (.int .i64 (k : Int))).put (some 108) (.pointer (some ⟨G, k * 22, none⟩))).put (some 109) (.agg cs)) (.tmp 105) = (.agg ka) := ((ev_ne _ _ (by decide)).trans ((ev_ne _ _ (by decide)).trans ((ev_ne _ _ (by decide)).trans ((ev_ne _ _ (by decide)).trans (ev_eq _ _ (by first | omega | (simp only [sz_put]; omega)))))))
      have e1 : Act.eval (((((a0.put (some 105) (.agg ka)).put (some 106) (.slice (some ⟨G, 0, none⟩) m cap)).put (some 107) (.int .i64 (k : Int))).put (some 108) (.pointer (some ⟨G, k * 22, none⟩))).put (some 109) (.agg cs)) (.tmp 109) = (.agg cs) := (ev_eq _ _ (by first | omega | (simp only [sz_put]; omega)))
      simp only [execOp, op17_5]
      go_simp
    refine (HENC _).mono ?_
    rintro e w1 ⟨rfl, b2⟩
    have B3 : Below W.heap.size W w1 := (B0).trans (Below.mono b2 (B0).size)
    refine ⟨_, rfl, keepS _ B3, ?_⟩
    show wpAnyH Tryz.prog .any ops17 Q S 6 #[true, true, true, true, true, true, false, false, false, false, false, false] ((((((a0.put (some 105) (.agg ka)).put (some 106) (.slice (some ⟨G, 0, none⟩) m cap)).put (some 107) (.int .i64 (k : Int))).put (some 108) (.pointer (some ⟨G, k * 22, none⟩))).put (some 109) (.agg cs)).put (some 110) (.tuple #[.agg fa, .int .i64 0])) w1
    refine wpAnyH_take (i := 6) (oi := op17_6) (v := (.tuple #[.agg fa, .int .i64 0])) rfl (by kernel_rfl) (by kernel_rfl) (by kernel_rfl) (fun c a w h => hQ c a _ _ w h) (Or.inl ⟨by rfl, fun w hS => ?_⟩) (keepS _ B3) ?_
    · have e0 : Act.eval ((((((a0.put (some 105) (.agg ka)).put (some 106) (.slice (some ⟨G, 0, none⟩) m cap)).put (some 107) (.int .i64 (k : Int))).put (some 108) (.pointer (some ⟨G, k * 22, none⟩))).put (some 109) (.agg cs)).put (some 110) (.tuple #[.agg fa, .int .i64 0])) (.tmp 110) = (.tuple #[.agg fa, .int .i64 0]) := (ev_eq _ _ (by first | omega | (simp only [sz_put]; omega)))
      simp only [execOp, op17_6, e0]
      rfl
    show wpAnyH Tryz.prog .any ops17 Q S 5 #[true, true, true, true, true, true, true, false, false, false, false, false] (((((((a0.put (some 105) (.agg ka)).put (some 106) (.slice (some ⟨G, 0, none⟩) m cap)).put (some 107) (.int .i64 (k : Int))).put (some 108) (.pointer (some ⟨G, k * 22, none⟩))).put (some 109) (.agg cs)).put (some 110) (.tuple #[.agg fa, .int .i64 0])).put (some 104) (.tuple #[.agg fa, .int .i64 0])) w1
    refine wpAnyH_take (i := 7) (oi := op17_7) (v := (.agg fa)) rfl (by kernel_rfl) (by kernel_rfl) (by kernel_rfl) (fun c a w h => hQ c a _ _ w h) (Or.inl ⟨by rfl, fun w hS => ?_⟩) (keepS _ B3) ?_
    · have e0 : Act.eval (((((((a0.put (some 105) (.agg ka)).put (some 106) (.slice (some ⟨G, 0, none⟩) m cap)).put (some 107) (.int .i64 (k : Int))).put (some 108) (.pointer (some ⟨G, k * 22, none⟩))).put (some 109) (.agg cs)).put (some 110) (.tuple #[.agg fa, .int .i64 0])).put (some 104) (.tuple #[.agg fa, .int .i64 0])) (.tmp 104) = (.tuple #[.agg fa, .int .i64 0]) := (ev_eq _ _ (by first | omega | (simp only [sz_put]; omega)))
      simp only [execOp, op17_7, e0]
      go_simp
    show wpAnyH Tryz.prog .any ops17 Q S 4 #[true, true, true, true, true, true, true, true, false, false, false, false] ((((((((a0.put (some 105) (.agg ka)).put (some 106) (.slice (some ⟨G, 0, none⟩) m cap)).put (some 107) (.int .i64 (k : Int))).put (some 108) (.pointer (some ⟨G, k * 22, none⟩))).put (some 109) (.agg cs)).put (some 110) (.tuple #[.agg fa, .int .i64 0])).put (some 104) (.tuple #[.agg fa, .int .i64 0])).put (some 111) (.agg fa)) w1
    refine wpAnyH_take (i := 8) (oi := op17_8) (v := (.int .i64 0)) rfl (by kernel_rfl) (by kernel_rfl) (by kernel_rfl) (fun c a w h => hQ c a _ _ w h) (Or.inl ⟨by rfl, fun w hS => ?_⟩) (keepS _ B3) ?_
    · have e0 : Act.eval ((((((((a0.put (some 105) (.agg ka)).put (some 106) (.slice (some ⟨G, 0, none⟩) m cap)).put (some 107) (.int .i64 (k : Int))).put (some 108) (.pointer (some ⟨G, k * 22, none⟩))).put (some 109) (.agg cs)).put (some 110) (.tuple #[.agg fa, .int .i64 0])).put (some 104) (.tuple #[.agg fa, .int .i64 0])).put (some 111) (.agg fa)) (.tmp 104) = (.tuple #[.agg fa, .int .i64 0]) := ((ev_ne _ _ (by decide)).trans (ev_eq _ _ (by first | omega | (simp only [sz_put]; omega))))
      simp only [execOp, op17_8, e0]
      go_simp
    show wpAnyH Tryz.prog .any ops17 Q S 3 #[true, true, true, true, true, true, true, true, true, false, false, false] (((((((((a0.put (some 105) (.agg ka)).put (some 106) (.slice (some ⟨G, 0, none⟩) m cap)).put (some 107) (.int .i64 (k : Int))).put (some 108) (.pointer (some ⟨G, k * 22, none⟩))).put (some 109) (.agg cs)).put (some 110) (.tuple #[.agg fa, .int .i64 0])).put (some 104) (.tuple #[.agg fa, .int .i64 0])).put (some 111) (.agg fa)).put (some 112) (.int .i64 0)) w1
    refine wpAnyH_all (rs := [9]) (by kernel_rfl) (by simp) ?_
    intro i hi
    simp only [List.mem_cons, List.not_mem_nil, or_false] at hi
    subst hi
    refine wpOp_plain op17_9 rfl rfl (wp_alloc_of 98 frz rfl (run_alloc_frame _) ?_)
    have B4 : Below W.heap.size W (w1.alloc (.cells frz 98)) := (B3).alloc (B3).size _
    refine ⟨keepS _ B4, ?_⟩
    show wpAnyH Tryz.prog .any ops17 Q S 2 #[true, true, true, true, true, true, true, true, true, true, false, false] ((((((((((a0.put (some 105) (.agg ka)).put (some 106) (.slice (some ⟨G, 0, none⟩) m cap)).put (some 107) (.int .i64 (k : Int))).put (some 108) (.pointer (some ⟨G, k * 22, none⟩))).put (some 109) (.agg cs)).put (some 110) (.tuple #[.agg fa, .int .i64 0])).put (some 104) (.tuple #[.agg fa, .int .i64 0])).put (some 111) (.agg fa)).put (some 112) (.int .i64 0)).put (some 12) (.pointer (some ⟨w1.heap.size, 0, none⟩))) (w1.alloc (.cells frz 98))
    refine wpAnyH_all (rs := [10]) (by kernel_rfl) (by simp) ?_
    intro i hi
    simp only [List.mem_cons, List.not_mem_nil, or_false] at hi
    subst hi
    have e6 : Act.eval ((((((((((a0.put (some 105) (.agg ka)).put (some 106) (.slice (some ⟨G, 0, none⟩) m cap)).put (some 107) (.int .i64 (k : Int))).put (some 108) (.pointer (some ⟨G, k * 22, none⟩))).put (some 109) (.agg cs)).put (some 110) (.tuple #[.agg fa, .int .i64 0])).put (some 104) (.tuple #[.agg fa, .int .i64 0])).put (some 111) (.agg fa)).put (some 112) (.int .i64 0)).put (some 12) (.pointer (some ⟨w1.heap.size, 0, none⟩))) (.tmp 12) = .pointer (some ⟨w1.heap.size, 0, none⟩) := (ev_eq _ _ (by first | omega | (simp only [sz_put]; omega)))
    have e7 : Act.eval ((((((((((a0.put (some 105) (.agg ka)).put (some 106) (.slice (some ⟨G, 0, none⟩) m cap)).put (some 107) (.int .i64 (k : Int))).put (some 108) (.pointer (some ⟨G, k * 22, none⟩))).put (some 109) (.agg cs)).put (some 110) (.tuple #[.agg fa, .int .i64 0])).put (some 104) (.tuple #[.agg fa, .int .i64 0])).put (some 111) (.agg fa)).put (some 112) (.int .i64 0)).put (some 12) (.pointer (some ⟨w1.heap.size, 0, none⟩))) (.tmp 111) = .agg fa := ((ev_ne _ _ (by decide)).trans ((ev_ne _ _ (by decide)).trans (ev_eq _ _ (by first | omega | (simp only [sz_put]; omega)))))
    have h8 : Blk (w1.alloc (.cells frz 98)) (w1.heap.size) 98 frz := (Blk.new w1 _ _)
    have h8z : (execOp (Act.eval ((((((((((a0.put (some 105) (.agg ka)).put (some 106) (.slice (some ⟨G, 0, none⟩) m cap)).put (some 107) (.int .i64 (k : Int))).put (some 108) (.pointer (some ⟨G, k * 22, none⟩))).put (some 109) (.agg cs)).put (some 110) (.tuple #[.agg fa, .int .i64 0])).put (some 104) (.tuple #[.agg fa, .int .i64 0])).put (some 111) (.agg fa)).put (some 112) (.int .i64 0)).put (some 12) (.pointer (some ⟨w1.heap.size, 0, none⟩)))) op17_10).run Tryz.prog (w1.alloc (.cells frz 98)) = .ok .skip ((w1.alloc (.cells frz 98)).setRow (w1.heap.size) fa) := run_store_of 98 (.tmp 12) (.tmp 111) rfl (w1.heap.size) 98 frz fa e6 e7 h8 ifa (frz_size.trans fa32.symm) fa1
    refine wpOp_plain op17_10 rfl rfl ?_
    unfold Oper.wp
    rw [h8z, Oper.upon_skip, show (op17_10).dst = none from rfl, put_none]
    have B5 : Below W.heap.size W ((w1.alloc (.cells frz 98)).setRow (w1.heap.size) fa) := Go.RowKit.Below.setRow' (B4) ((B3).size) fa
    refine ⟨keepS _ B5, ?_⟩
    show wpAnyH Tryz.prog .any ops17 Q S 1 #[true, true, true, true, true, true, true, true, true, true, true, false] ((((((((((a0.put (some 105) (.agg ka)).put (some 106) (.slice (some ⟨G, 0, none⟩) m cap)).put (some 107) (.int .i64 (k : Int))).put (some 108) (.pointer (some ⟨G, k * 22, none⟩))).put (some 109) (.agg cs)).put (some 110) (.tuple #[.agg fa, .int .i64 0])).put (some 104) (.tuple #[.agg fa, .int .i64 0])).put (some 111) (.agg fa)).put (some 112) (.int .i64 0)).put (some 12) (.pointer (some ⟨w1.heap.size, 0, none⟩))) ((w1.alloc (.cells frz 98)).setRow (w1.heap.size) fa)
    refine wpAnyH_take (i := 11) (oi := op17_11) (v := (.int .i64 0)) rfl (by kernel_rfl) (by kernel_rfl) (by kernel_rfl) (fun c a w h => hQ c a _ _ w h) (Or.inl ⟨by rfl, fun w hS => ?_⟩) (keepS _ B5) ?_
    · have e0 : Act.eval ((((((((((a0.put (some 105) (.agg ka)).put (some 106) (.slice (some ⟨G, 0, none⟩) m cap)).put (some 107) (.int .i64 (k : Int))).put (some 108) (.pointer (some ⟨G, k * 22, none⟩))).put (some 109) (.agg cs)).put (some 110) (.tuple #[.agg fa, .int .i64 0])).put (some 104) (.tuple #[.agg fa, .int .i64 0])).put (some 111) (.agg fa)).put (some 112) (.int .i64 0)).put (some 12) (.pointer (some ⟨w1.heap.size, 0, none⟩))) (.tmp 112) = (.int .i64 0) := ((ev_ne _ _ (by decide)).trans (ev_eq _ _ (by first | omega | (simp only [sz_put]; omega))))
      simp only [execOp, op17_11, e0]
      rfl
    show wpAnyH Tryz.prog .any ops17 Q S 0 #[true, true, true, true, true, true, true, true, true, true, true, true] (((((((((((a0.put (some 105) (.agg ka)).put (some 106) (.slice (some ⟨G, 0, none⟩) m cap)).put (some 107) (.int .i64 (k : Int))).put (some 108) (.pointer (some ⟨G, k * 22, none⟩))).put (some 109) (.agg cs)).put (some 110) (.tuple #[.agg fa, .int .i64 0])).put (some 104) (.tuple #[.agg fa, .int .i64 0])).put (some 111) (.agg fa)).put (some 112) (.int .i64 0)).put (some 12) (.pointer (some ⟨w1.heap.size, 0, none⟩))).put (some 13) (.int .i64 0)) ((w1.alloc (.cells frz 98)).setRow (w1.heap.size) fa)
    refine wpAnyH_done (by kernel_rfl) ?_ _
    exact hG _ _ ((B3).size) (Blk.setRow h8 fa) B5
  · refine wpOp_plain op17_9 rfl rfl (wp_alloc_of 98 frz rfl (run_alloc_frame _) ?_)
    have B9 : Below W.heap.size W (W.drew.alloc (.cells frz 98)) := (B0).alloc (B0).size _
    refine ⟨keepS _ B9, ?_⟩
    show wpAnyH Tryz.prog .any ops17 Q S 6 #[true, true, true, true, true, false, false, false, false, true, false, false] ((((((a0.put (some 105) (.agg ka)).put (some 106) (.slice (some ⟨G, 0, none⟩) m cap)).put (some 107) (.int .i64 (k : Int))).put (some 108) (.pointer (some ⟨G, k * 22, none⟩))).put (some 109) (.agg cs)).put (some 12) (.pointer (some ⟨W.drew.heap.size, 0, none⟩))) (W.drew.alloc (.cells frz 98))
    refine wpAnyH_all (rs := [5]) (by kernel_rfl) (by simp) ?_
    intro i hi
    simp only [List.mem_cons, List.not_mem_nil, or_false] at hi
    subst hi
    refine wpOp_plain op17_5 rfl rfl (wp_enterU 67 #[.agg ka, .agg cs] ?_ ?_)
    · have e0 : Act.eval ((((((a0.put (some 105) (.agg ka)).put (some 106) (.slice (some ⟨G, 0, none⟩) m cap)).put (some 107) (.int .i64 (k : Int))).put (some 108) (.pointer (some ⟨G, k * 22, none⟩))).put (some 109) (.agg cs)).put (some 12) (.pointer (some ⟨W.drew.heap.size, 0, none⟩))) (.tmp 105) = (.agg ka) := ((ev_ne _ _ (by decide)).trans ((ev_ne _ _ (by decide)).trans ((ev_ne _ _ (by decide)).trans ((ev_ne _ _ (by decide)).trans ((ev_ne _ _ (by decide)).trans (ev_eq _ _ (by first | omega | (simp only [sz_put]; omega))))))))
      have e1 : Act.eval ((((((a0.put (some 105) (.agg ka)).put (some 106) (.slice (some ⟨G, 0, none⟩) m cap)).put (some 107) (.int .i64 (k : Int))).put (some 108) (.pointer (some ⟨G, k * 22, none⟩))).put (some 109) (.agg cs)).put (some 12) (.pointer (some ⟨W.drew.heap.size, 0, none⟩))) (.tmp 109) = (.agg cs) := ((ev_ne _ _ (by decide)).trans (ev_eq _ _ (by first | omega | (simp only [sz_put]; omega))))
      simp only [execOp, op17_5]
      go_simp
    refine (HENC _).mono ?_
    rintro e w10 ⟨rfl, b11⟩
    have B12 : Below W.heap.size W w10 := (B9).trans (Below.mono b11 (B9).size)
    refine ⟨_, rfl, keepS _ B12, ?_⟩
    show wpAnyH Tryz.prog .any ops17 Q S 5 #[true, true, true, true, true, true, false, false, false, true, false, false] (((((((a0.put (some 105) (.agg ka)).put (some 106) (.slice (some ⟨G, 0, none⟩) m cap)).put (some 107) (.int .i64 (k : Int))).put (some 108) (.pointer (some ⟨G, k * 22, none⟩))).put (some 109) (.agg cs)).put (some 12) (.pointer (some ⟨W.drew.heap.size, 0, none⟩))).put (some 110) (.tuple #[.agg fa, .int .i64 0])) w10
    refine wpAnyH_take (i := 6) (oi := op17_6) (v := (.tuple #[.agg fa, .int .i64 0])) rfl (by kernel_rfl) (by kernel_rfl) (by kernel_rfl) (fun c a w h => hQ c a _ _ w h) (Or.inl ⟨by rfl, fun w hS => ?_⟩) (keepS _ B12) ?_
    · have e0 : Act.eval (((((((a0.put (some 105) (.agg ka)).put (some 106) (.slice (some ⟨G, 0, none⟩) m cap)).put (some 107) (.int .i64 (k : Int))).put (some 108) (.pointer (some ⟨G, k * 22, none⟩))).put (some 109) (.agg cs)).put (some 12) (.pointer (some ⟨W.drew.heap.size, 0, none⟩))).put (some 110) (.tuple #[.agg fa, .int .i64 0])) (.tmp 110) = (.tuple #[.agg fa, .int .i64 0]) := (ev_eq _ _ (by first | omega | (simp only [sz_put]; omega)))
      simp only [execOp, op17_6, e0]
      rfl
    show wpAnyH Tryz.prog .any ops17 Q S 4 #[true, true, true, true, true, true, true, false, false, true, false, false] ((((((((a0.put (some 105) (.agg ka)).put (some 106) (.slice (some ⟨G, 0, none⟩) m cap)).put (some 107) (.int .i64 (k : Int))).put (some 108) (.pointer (some ⟨G, k * 22, none⟩))).put (some 109) (.agg cs)).put (some 12) (.pointer (some ⟨W.drew.heap.size, 0, none⟩))).put (some 110) (.tuple #[.agg fa, .int .i64 0])).put (some 104) (.tuple #[.agg fa, .int .i64 0])) w10
    refine wpAnyH_take (i := 7) (oi := op17_7) (v := (.agg fa)) rfl (by kernel_rfl) (by kernel_rfl) (by kernel_rfl) (fun c a w h => hQ c a _ _ w h) (Or.inl ⟨by rfl, fun w hS => ?_⟩) (keepS _ B12) ?_
    · have e0 : Act.eval ((((((((a0.put (some 105) (.agg ka)).put (some 106) (.slice (some ⟨G, 0, none⟩) m cap)).put (some 107) (.int .i64 (k : Int))).put (some 108) (.pointer (some ⟨G, k * 22, none⟩))).put (some 109) (.agg cs)).put (some 12) (.pointer (some ⟨W.drew.heap.size, 0, none⟩))).put (some 110) (.tuple #[.agg fa, .int .i64 0])).put (some 104) (.tuple #[.agg fa, .int .i64 0])) (.tmp 104) = (.tuple #[.agg fa, .int .i64 0]) := (ev_eq _ _ (by first | omega | (simp only [sz_put]; omega)))
      simp only [execOp, op17_7, e0]
      go_simp
    show wpAnyH Tryz.prog .any ops17 Q S 3 #[true, true, true, true, true, true, true, true, false, true, false, false] (((((((((a0.put (some 105) (.agg ka)).put (some 106) (.slice (some ⟨G, 0, none⟩) m cap)).put (some 107) (.int .i64 (k : Int))).put (some 108) (.pointer (some ⟨G, k * 22, none⟩))).put (some 109) (.agg cs)).put (some 12) (.pointer (some ⟨W.drew.heap.size, 0, none⟩))).put (some 110) (.tuple #[.agg fa, .int .i64 0])).put (some 104) (.tuple #[.agg fa, .int .i64 0])).put (some 111) (.agg fa)) w10
    refine wpAnyH_take (i := 8) (oi := op17_8) (v := (.int .i64 0)) rfl (by kernel_rfl) (by kernel_rfl) (by kernel_rfl) (fun c a w h => hQ c a _ _ w h) (Or.inl ⟨by rfl, fun w hS => ?_⟩) (keepS _ B12) ?_
    · have e0 : Act.eval (((((((((a0.put (some 105) (.agg ka)).put (some 106) (.slice (some ⟨G, 0, none⟩) m cap)).put (some 107) (.int .i64 (k : Int))).put (some 108) (.pointer (some ⟨G, k * 22, none⟩))).put (some 109) (.agg cs)).put (some 12) (.pointer (some ⟨W.drew.heap.size, 0, none⟩))).put (some 110) (.tuple #[.agg fa, .int .i64 0])).put (some 104) (.tuple #[.agg fa, .int .i64 0])).put (some 111) (.agg fa)) (.tmp 104) = (.tuple #[.agg fa, .int .i64 0]) := ((ev_ne _ _ (by decide)).trans (ev_eq _ _ (by first | omega | (simp only [sz_put]; omega))))
      simp only [execOp, op17_8, e0]
      go_simp
    show wpAnyH Tryz.prog .any ops17 Q S 2 #[true, true, true, true, true, true, true, true, true, true, false, false] ((((((((((a0.put (some 105) (.agg ka)).put (some 106) (.slice (some ⟨G, 0, none⟩) m cap)).put (some 107) (.int .i64 (k : Int))).put (some 108) (.pointer (some ⟨G, k * 22, none⟩))).put (some 109) (.agg cs)).put (some 12) (.pointer (some ⟨W.drew.heap.size, 0, none⟩))).put (some 110) (.tuple #[.agg fa, .int .i64 0])).put (some 104) (.tuple #[.agg fa, .int .i64 0])).put (some 111) (.agg fa)).put (some 112) (.int .i64 0)) w10
    refine wpAnyH_all (rs := [10]) (by kernel_rfl) (by simp) ?_
    intro i hi
    simp only [List.mem_cons, List.not_mem_nil, or_false] at hi
    subst hi
    have e14 : Act.eval ((((((((((a0.put (some 105) (.agg ka)).put (some 106) (.slice (some ⟨G, 0, none⟩) m cap)).put (some 107) (.int .i64 (k : Int))).put (some 108) (.pointer (some ⟨G, k * 22, none⟩))).put (some 109) (.agg cs)).put (some 12) (.pointer (some ⟨W.drew.heap.size, 0, none⟩))).put (some 110) (.tuple #[.agg fa, .int .i64 0])).put (some 104) (.tuple #[.agg fa, .int .i64 0])).put (some 111) (.agg fa)).put (some 112) (.int .i64 0)) (.tmp 12) = .pointer (some ⟨W.drew.heap.size, 0, none⟩) := ((ev_ne _ _ (by decide)).trans ((ev_ne _ _ (by decide)).trans ((ev_ne _ _ (by decide)).trans ((ev_ne _ _ (by decide)).trans (ev_eq _ _ (by first | omega | (simp only [sz_put]; omega)))))))
    have e15 : Act.eval ((((((((((a0.put (some 105) (.agg ka)).put (some 106) (.slice (some ⟨G, 0, none⟩) m cap)).put (some 107) (.int .i64 (k : Int))).put (some 108) (.pointer (some ⟨G, k * 22, none⟩))).put (some 109) (.agg cs)).put (some 12) (.pointer (some ⟨W.drew.heap.size, 0, none⟩))).put (some 110) (.tuple #[.agg fa, .int .i64 0])).put (some 104) (.tuple #[.agg fa, .int .i64 0])).put (some 111) (.agg fa)).put (some 112) (.int .i64 0)) (.tmp 111) = .agg fa := ((ev_ne _ _ (by decide)).trans (ev_eq _ _ (by first | omega | (simp only [sz_put]; omega))))
    have h16 : Blk w10 (W.drew.heap.size) 98 frz := ((Blk.new W.drew _ _).below b11)
    have h16z : (execOp (Act.eval ((((((((((a0.put (some 105) (.agg ka)).put (some 106) (.slice (some ⟨G, 0, none⟩) m cap)).put (some 107) (.int .i64 (k : Int))).put (some 108) (.pointer (some ⟨G, k * 22, none⟩))).put (some 109) (.agg cs)).put (some 12) (.pointer (some ⟨W.drew.heap.size, 0, none⟩))).put (some 110) (.tuple #[.agg fa, .int .i64 0])).put (some 104) (.tuple #[.agg fa, .int .i64 0])).put (some 111) (.agg fa)).put (some 112) (.int .i64 0))) op17_10).run Tryz.prog w10 = .ok .skip (w10.setRow (W.drew.heap.size) fa) := run_store_of 98 (.tmp 12) (.tmp 111) rfl (W.drew.heap.size) 98 frz fa e14 e15 h16 ifa (frz_size.trans fa32.symm) fa1
    refine wpOp_plain op17_10 rfl rfl ?_
    unfold Oper.wp
    rw [h16z, Oper.upon_skip, show (op17_10).dst = none from rfl, put_none]
    have B13 : Below W.heap.size W (w10.setRow (W.drew.heap.size) fa) := Go.RowKit.Below.setRow' (B12) ((B0).size) fa
    refine ⟨keepS _ B13, ?_⟩
    show wpAnyH Tryz.prog .any ops17 Q S 1 #[true, true, true, true, true, true, true, true, true, true, true, false] ((((((((((a0.put (some 105) (.agg ka)).put (some 106) (.slice (some ⟨G, 0, none⟩) m cap)).put (some 107) (.int .i64 (k : Int))).put (some 108) (.pointer (some ⟨G, k * 22, none⟩))).put (some 109) (.agg cs)).put (some 12) (.pointer (some ⟨W.drew.heap.size, 0, none⟩))).put (some 110) (.tuple #[.agg fa, .int .i64 0])).put (some 104) (.tuple #[.agg fa, .int .i64 0])).put (some 111) (.agg fa)).put (some 112) (.int .i64 0)) (w10.setRow (W.drew.heap.size) fa)
    refine wpAnyH_take (i := 11) (oi := op17_11) (v := (.int .i64 0)) rfl (by kernel_rfl) (by kernel_rfl) (by kernel_rfl) (fun c a w h => hQ c a _ _ w h) (Or.inl ⟨by rfl, fun w hS => ?_⟩) (keepS _ B13) ?_
    · have e0 : Act.eval ((((((((((a0.put (some 105) (.agg ka)).put (some 106) (.slice (some ⟨G, 0, none⟩) m cap)).put (some 107) (.int .i64 (k : Int))).put (some 108) (.pointer (some ⟨G, k * 22, none⟩))).put (some 109) (.agg cs)).put (some 12) (.pointer (some ⟨W.drew.heap.size, 0, none⟩))).put (some 110) (.tuple #[.agg fa, .int .i64 0])).put (some 104) (.tuple #[.agg fa, .int .i64 0])).put (some 111) (.agg fa)).put (some 112) (.int .i64 0)) (.tmp 112) = (.int .i64 0) := (ev_eq _ _ (by first | omega | (simp only [sz_put]; omega)))
      simp only [execOp, op17_11, e0]
      rfl
    show wpAnyH Tryz.prog .any ops17 Q S 0 #[true, true, true, true, true, true, true, true, true, true, true, true] (((((((((((a0.put (some 105) (.agg ka)).put (some 106) (.slice (some ⟨G, 0, none⟩) m cap)).put (some 107) (.int .i64 (k : Int))).put (some 108) (.pointer (some ⟨G, k * 22, none⟩))).put (some 109) (.agg cs)).put (some 12) (.pointer (some ⟨W.drew.heap.size, 0, none⟩))).put (some 110) (.tuple #[.agg fa, .int .i64 0])).put (some 104) (.tuple #[.agg fa, .int .i64 0])).put (some 111) (.agg fa)).put (some 112) (.int .i64 0)).put (some 13) (.int .i64 0)) (w10.setRow (W.drew.heap.size) fa)
    refine wpAnyH_done (by kernel_rfl) ?_ _
    rw [put_swap (d := 12) (e := 110) (by decide), put_swap (d := 12) (e := 104) (by decide), put_swap (d := 12) (e := 111) (by decide), put_swap (d := 12) (e := 112) (by decide)]
    exact hG _ _ ((B0).size) (Blk.setRow h16 fa) B13
def op36_0 : Oper := { dst := some 229, op := Op.load 94 (Operand.tmp 3), type := 94, pos := "law.go:417", after := #[], guard := none }
def op36_1 : Oper := { dst := some 230, op := Op.move (Operand.tmp 1), type := 114, pos := "law.go:417", after := #[], guard := none }
def op36_2 : Oper := { dst := some 231, op := Op.move (Operand.tmp 23), type := 3, pos := "law.go:417", after := #[], guard := none }
def op36_3 : Oper := { dst := some 232, op := Op.indexAddr 114 (Operand.tmp 230) (Operand.tmp 231), type := 0, pos := "law.go:417", after := #[{ on := 1, ground := Ground.data }, { on := 2, ground := Ground.data }], guard := none }
def op36_4 : Oper := { dst := some 233, op := Op.load 97 (Operand.tmp 232), type := 97, pos := "law.go:417", after := #[{ on := 3, ground := Ground.data }], guard := none }
def op36_5 : Oper := { dst := some 234, op := Op.call { callee := Callee.value (Operand.func 67), args := #[Operand.tmp 229, Operand.tmp 233], argTypes := #[94, 101] }, type := 99, pos := "law.go:417", after := #[{ on := 0, ground := Ground.data }, { on := 4, ground := Ground.data }], guard := none }
def op36_6 : Oper := { dst := some 228, op := Op.move (Operand.tmp 234), type := 99, pos := "law.go:417", after := #[{ on := 5, ground := Ground.data }], guard := none }
def op36_7 : Oper := { dst := some 235, op := Op.extract (Operand.tmp 228) 0, type := 98, pos := "law.go:417", after := #[{ on := 6, ground := Ground.data }], guard := none }
def op36_8 : Oper := { dst := some 236, op := Op.extract (Operand.tmp 228) 1, type := 27, pos := "law.go:417", after := #[{ on := 6, ground := Ground.data }, { on := 10, ground := Ground.gcOnly Departure.lateStores }], guard := none }
def op36_9 : Oper := { dst := some 26, op := Op.alloc 98, type := 0, pos := "law.go:417", after := #[], guard := none }
def op36_10 : Oper := { dst := none, op := Op.store 98 (Operand.tmp 26) (Operand.tmp 235), type := 0, pos := "law.go:417", after := #[{ on := 9, ground := Ground.data }, { on := 7, ground := Ground.data }, { on := 5, ground := Ground.chain }, { on := 0, ground := Ground.phase }, { on := 1, ground := Ground.phase }, { on := 2, ground := Ground.phase }, { on := 3, ground := Ground.phase }, { on := 4, ground := Ground.phase }, { on := 5, ground := Ground.phase }, { on := 6, ground := Ground.phase }, { on := 7, ground := Ground.phase }, { on := 8, ground := Ground.textOnly Departure.lateStores }, { on := 9, ground := Ground.phase }], guard := none }
def op36_11 : Oper := { dst := some 27, op := Op.assign (Operand.tmp 236), type := 27, pos := "law.go:417", after := #[{ on := 8, ground := Ground.data }, { on := 10, ground := Ground.chain }, { on := 0, ground := Ground.phase }, { on := 1, ground := Ground.phase }, { on := 2, ground := Ground.phase }, { on := 3, ground := Ground.phase }, { on := 4, ground := Ground.phase }, { on := 5, ground := Ground.phase }, { on := 6, ground := Ground.phase }, { on := 7, ground := Ground.phase }, { on := 8, ground := Ground.phase }, { on := 9, ground := Ground.phase }, { on := 10, ground := Ground.phase }], guard := none }
def ops36 : Array Oper := #[op36_0, op36_1, op36_2, op36_3, op36_4, op36_5, op36_6, op36_7, op36_8, op36_9, op36_10, op36_11]

set_option maxHeartbeats 1000000 in
set_option maxRecDepth 100000 in
theorem enc_r36 (gk G m cap k : Nat) (ka cs fa : Array Value) (W : World) (a0 : Act) (Q : Exit → Act → World → Prop) (hs : a0.tmps.size = 340) (h3 : a0.eval (.tmp 3) = .pointer (some ⟨gk, 0, none⟩)) (h1 : a0.eval (.tmp 1) = .slice (some ⟨G, 0, none⟩) m cap) (hx : a0.eval (.tmp 23) = .int .i64 (k : Int))
    (hk : k < m) (HK : Blk W gk 94 ka) (ika : (Tryz.prog.info? 94).map (·.size) = some ka.size) (HC : W.rangeAt G (k * 22) cs.toList) (hcs : cs.size = 22)
    (HENC : ∀ W : World, Calls Tryz.prog 67 #[.agg ka, .agg cs] W fun e w' => e = .returned (.tuple #[.agg fa, .int .i64 0]) ∧ Below W.heap.size W w')
    (fa32 : fa.size = 32) (fa1 : fa.all (·.oneCell') = true) (hQ : ∀ c a (d : Option Tmp) v w, Q (.panic c) (a.put d v) w → Q (.panic c) a w)
    (hG : ∀ (gf : Nat) (w : World), W.heap.size ≤ gf → Blk w gf 98 fa → Below W.heap.size W w → Q .normal (((((((((((a0.put (some 229) (.agg ka)).put (some 230) (.slice (some ⟨G, 0, none⟩) m cap)).put (some 231) (.int .i64 (k : Int))).put (some 232) (.pointer (some ⟨G, k * 22, none⟩))).put (some 233) (.agg cs)).put (some 234) (.tuple #[.agg fa, .int .i64 0])).put (some 228) (.tuple #[.agg fa, .int .i64 0])).put (some 235) (.agg fa)).put (some 236) (.int .i64 0)).put (some 26) (.pointer (some ⟨gf, 0, none⟩))).put (some 27) (.int .i64 0)) w) :
    (Code.region 36 ops36 true).wp Tryz.prog Q a0 W := by
  have b1 : (0 : Int) ≤ (k : Int) := by omega
  have b2 : (k : Int) < (m : Int) := by omega
  have ifa : (Tryz.prog.info? 98).map (·.size) = some fa.size := by rw [fa32]; kernel_rfl
  obtain ⟨S, hSd⟩ : ∃ S : World → Prop, S = fun w => Blk w gk 94 ka ∧ w.rangeAt G (k * 22) cs.toList := ⟨_, rfl⟩
  have keepS : ∀ w, Below W.heap.size W w → S w := fun w b => by rw [hSd]; exact ⟨HK.below b, rangeAt_keep HC b⟩
  have B0 : Below W.heap.size W W.drew := (Below.refl _ W).drew
  refine wp_region_held (S := S) (by kernel_rfl) ?_
  show wpAnyH Tryz.prog .any ops36 Q S 12 #[false, false, false, false, false, false, false, false, false, false, false, false] a0 W.drew
  refine wpAnyH_take (i := 0) (oi := op36_0) (v := (.agg ka)) rfl (by kernel_rfl) (by kernel_rfl) (by kernel_rfl) (fun c a w h => hQ c a _ _ w h) (Or.inl ⟨by rfl, fun w hS => ?_⟩) (keepS _ B0) ?_
  · have e0 : Act.eval a0 (.tmp 3) = (.pointer (some ⟨gk, 0, none⟩)) := h3
    exact run_load_of _ _ rfl _ _ w e0 (run_loadVar_row w gk 94 94 ka (0, 0) _ (by rw [hSd] at hS; exact hS.1) Tryz.underlying94 rfl ika)
  show wpAnyH Tryz.prog .any ops36 Q S 11 #[true, false, false, false, false, false, false, false, false, false, false, false] (a0.put (some 229) (.agg ka)) W.drew
  refine wpAnyH_take (i := 1) (oi := op36_1) (v := (.slice (some ⟨G, 0, none⟩) m cap)) rfl (by kernel_rfl) (by kernel_rfl) (by kernel_rfl) (fun c a w h => hQ c a _ _ w h) (Or.inl ⟨by rfl, fun w hS => ?_⟩) (keepS _ B0) ?_
  · have e0 : Act.eval (a0.put (some 229) (.agg ka)) (.tmp 1) = (.slice (some ⟨G, 0, none⟩) m cap) := ((ev_ne _ _ (by decide)).trans h1)
    simp only [execOp, op36_1, e0]
    rfl
  show wpAnyH Tryz.prog .any ops36 Q S 10 #[true, true, false, false, false, false, false, false, false, false, false, false] ((a0.put (some 229) (.agg ka)).put (some 230) (.slice (some ⟨G, 0, none⟩) m cap)) W.drew
  refine wpAnyH_take (i := 2) (oi := op36_2) (v := (.int .i64 (k : Int))) rfl (by kernel_rfl) (by kernel_rfl) (by kernel_rfl) (fun c a w h => hQ c a _ _ w h) (Or.inl ⟨by rfl, fun w hS => ?_⟩) (keepS _ B0) ?_
  · have e0 : Act.eval ((a0.put (some 229) (.agg ka)).put (some 230) (.slice (some ⟨G, 0, none⟩) m cap)) (.tmp 23) = (.int .i64 (k : Int)) := ((ev_ne _ _ (by decide)).trans ((ev_ne _ _ (by decide)).trans hx))
    simp only [execOp, op36_2, e0]
    rfl
  show wpAnyH Tryz.prog .any ops36 Q S 9 #[true, true, true, false, false, false, false, false, false, false, false, false] (((a0.put (some 229) (.agg ka)).put (some 230) (.slice (some ⟨G, 0, none⟩) m cap)).put (some 231) (.int .i64 (k : Int))) W.drew
  refine wpAnyH_take (i := 3) (oi := op36_3) (v := (.pointer (some ⟨G, k * 22, none⟩))) rfl (by kernel_rfl) (by kernel_rfl) (by kernel_rfl) (fun c a w h => hQ c a _ _ w h) (Or.inl ⟨by rfl, fun w hS => ?_⟩) (keepS _ B0) ?_
  · have e0 : Act.eval (((a0.put (some 229) (.agg ka)).put (some 230) (.slice (some ⟨G, 0, none⟩) m cap)).put (some 231) (.int .i64 (k : Int))) (.tmp 230) = (.slice (some ⟨G, 0, none⟩) m cap) := ((ev_ne _ _ (by decide)).trans (ev_eq _ _ (by first | omega | (simp only [sz_put]; omega))))
    have e1 : Act.eval (((a0.put (some 229) (.agg ka)).put (some 230) (.slice (some ⟨G, 0, none⟩) m cap)).put (some 231) (.int .i64 (k : Int))) (.tmp 231) = (.int .i64 (k : Int)) := (ev_eq _ _ (by first | omega | (simp only [sz_put]; omega)))
    simp only [execOp, op36_3, e0, e1]
    go_simp
  show wpAnyH Tryz.prog .any ops36 Q S 8 #[true, true, true, true, false, false, false, false, false, false, false, false] ((((a0.put (some 229) (.agg ka)).put (some 230) (.slice (some ⟨G, 0, none⟩) m cap)).put (some 231) (.int .i64 (k : Int))).put (some 232) (.pointer (some ⟨G, k * 22, none⟩))) W.drew
  refine wpAnyH_take (i := 4) (oi := op36_4) (v := (.agg cs)) rfl (by kernel_rfl) (by kernel_rfl) (by kernel_rfl) (fun c a w h => hQ c a _ _ w h) (Or.inl ⟨by rfl, fun w hS => ?_⟩) (keepS _ B0) ?_
  · have e0 : Act.eval ((((a0.put (some 229) (.agg ka)).put (some 230) (.slice (some ⟨G, 0, none⟩) m cap)).put (some 231) (.int .i64 (k : Int))).put (some 232) (.pointer (some ⟨G, k * 22, none⟩))) (.tmp 232) = (.pointer (some ⟨G, k * 22, none⟩)) := (ev_eq _ _ (by first | omega | (simp only [sz_put]; omega)))
    exact run_load_of _ _ rfl _ _ w e0 (by have h := run_loadVar_mid (P := Tryz.prog) w G (k * 22) 97 cs.toList _ (by rw [hSd] at hS; exact hS.2) Tryz.underlying97 rfl (by rw [Array.length_toList, hcs]; kernel_rfl); simpa using h)
  show wpAnyH Tryz.prog .any ops36 Q S 7 #[true, true, true, true, true, false, false, false, false, false, false, false] (((((a0.put (some 229) (.agg ka)).put (some 230) (.slice (some ⟨G, 0, none⟩) m cap)).put (some 231) (.int .i64 (k : Int))).put (some 232) (.pointer (some ⟨G, k * 22, none⟩))).put (some 233) (.agg cs)) W.drew
  refine wpAnyH_all (rs := [5, 9]) (by kernel_rfl) (by simp) ?_
  intro i hi
  simp only [List.mem_cons, List.not_mem_nil, or_false] at hi
  rcases hi with rfl | rfl
  · refine wpOp_plain op36_5 rfl rfl (wp_enterU 67 #[.agg ka, .agg cs] ?_ ?_)
    · have e0 : Act.eval (((((a0.put (some 229) (.agg ka)).put (some 230) (.slice (some ⟨G, 0, none⟩) m cap)).put (some 231) (.int .i64 (k : Int))).put (some 232) (.pointer (some ⟨G, k * 22, none⟩))).put (some 233) (.agg cs)) (.tmp 229) = (.agg ka) := ((ev_ne _ _ (by decide)).trans ((ev_ne _ _ (by decide)).trans ((ev_ne _ _ (by decide)).trans ((ev_ne _ _ (by decide)).trans (ev_eq _ _ (by first | omega | (simp only [sz_put]; omega)))))))
      have e1 : Act.eval (((((a0.put (some 229) (.agg ka)).put (some 230) (.slice (some ⟨G, 0, none⟩) m cap)).put (some 231) (.int .i64 (k : Int))).put (some 232) (.pointer (some ⟨G, k * 22, none⟩))).put (some 233) (.agg cs)) (.tmp 233) = (.agg cs) := (ev_eq _ _ (by first | omega | (simp only [sz_put]; omega)))
      simp only [execOp, op36_5]
      go_simp
    refine (HENC _).mono ?_
    rintro e w17 ⟨rfl, b18⟩
    have B19 : Below W.heap.size W w17 := (B0).trans (Below.mono b18 (B0).size)
    refine ⟨_, rfl, keepS _ B19, ?_⟩
    show wpAnyH Tryz.prog .any ops36 Q S 6 #[true, true, true, true, true, true, false, false, false, false, false, false] ((((((a0.put (some 229) (.agg ka)).put (some 230) (.slice (some ⟨G, 0, none⟩) m cap)).put (some 231) (.int .i64 (k : Int))).put (some 232) (.pointer (some ⟨G, k * 22, none⟩))).put (some 233) (.agg cs)).put (some 234) (.tuple #[.agg fa, .int .i64 0])) w17
    refine wpAnyH_take (i := 6) (oi := op36_6) (v := (.tuple #[.agg fa, .int .i64 0])) rfl (by kernel_rfl) (by kernel_rfl) (by kernel_rfl) (fun c a w h => hQ c a _ _ w h) (Or.inl ⟨by rfl, fun w hS => ?_⟩) (keepS _ B19) ?_
    · have e0 : Act.eval ((((((a0.put (some 229) (.agg ka)).put (some 230) (.slice (some ⟨G, 0, none⟩) m cap)).put (some 231) (.int .i64 (k : Int))).put (some 232) (.pointer (some ⟨G, k * 22, none⟩))).put (some 233) (.agg cs)).put (some 234) (.tuple #[.agg fa, .int .i64 0])) (.tmp 234) = (.tuple #[.agg fa, .int .i64 0]) := (ev_eq _ _ (by first | omega | (simp only [sz_put]; omega)))
      simp only [execOp, op36_6, e0]
      rfl
    show wpAnyH Tryz.prog .any ops36 Q S 5 #[true, true, true, true, true, true, true, false, false, false, false, false] (((((((a0.put (some 229) (.agg ka)).put (some 230) (.slice (some ⟨G, 0, none⟩) m cap)).put (some 231) (.int .i64 (k : Int))).put (some 232) (.pointer (some ⟨G, k * 22, none⟩))).put (some 233) (.agg cs)).put (some 234) (.tuple #[.agg fa, .int .i64 0])).put (some 228) (.tuple #[.agg fa, .int .i64 0])) w17
    refine wpAnyH_take (i := 7) (oi := op36_7) (v := (.agg fa)) rfl (by kernel_rfl) (by kernel_rfl) (by kernel_rfl) (fun c a w h => hQ c a _ _ w h) (Or.inl ⟨by rfl, fun w hS => ?_⟩) (keepS _ B19) ?_
    · have e0 : Act.eval (((((((a0.put (some 229) (.agg ka)).put (some 230) (.slice (some ⟨G, 0, none⟩) m cap)).put (some 231) (.int .i64 (k : Int))).put (some 232) (.pointer (some ⟨G, k * 22, none⟩))).put (some 233) (.agg cs)).put (some 234) (.tuple #[.agg fa, .int .i64 0])).put (some 228) (.tuple #[.agg fa, .int .i64 0])) (.tmp 228) = (.tuple #[.agg fa, .int .i64 0]) := (ev_eq _ _ (by first | omega | (simp only [sz_put]; omega)))
      simp only [execOp, op36_7, e0]
      go_simp
    show wpAnyH Tryz.prog .any ops36 Q S 4 #[true, true, true, true, true, true, true, true, false, false, false, false] ((((((((a0.put (some 229) (.agg ka)).put (some 230) (.slice (some ⟨G, 0, none⟩) m cap)).put (some 231) (.int .i64 (k : Int))).put (some 232) (.pointer (some ⟨G, k * 22, none⟩))).put (some 233) (.agg cs)).put (some 234) (.tuple #[.agg fa, .int .i64 0])).put (some 228) (.tuple #[.agg fa, .int .i64 0])).put (some 235) (.agg fa)) w17
    refine wpAnyH_take (i := 8) (oi := op36_8) (v := (.int .i64 0)) rfl (by kernel_rfl) (by kernel_rfl) (by kernel_rfl) (fun c a w h => hQ c a _ _ w h) (Or.inl ⟨by rfl, fun w hS => ?_⟩) (keepS _ B19) ?_
    · have e0 : Act.eval ((((((((a0.put (some 229) (.agg ka)).put (some 230) (.slice (some ⟨G, 0, none⟩) m cap)).put (some 231) (.int .i64 (k : Int))).put (some 232) (.pointer (some ⟨G, k * 22, none⟩))).put (some 233) (.agg cs)).put (some 234) (.tuple #[.agg fa, .int .i64 0])).put (some 228) (.tuple #[.agg fa, .int .i64 0])).put (some 235) (.agg fa)) (.tmp 228) = (.tuple #[.agg fa, .int .i64 0]) := ((ev_ne _ _ (by decide)).trans (ev_eq _ _ (by first | omega | (simp only [sz_put]; omega))))
      simp only [execOp, op36_8, e0]
      go_simp
    show wpAnyH Tryz.prog .any ops36 Q S 3 #[true, true, true, true, true, true, true, true, true, false, false, false] (((((((((a0.put (some 229) (.agg ka)).put (some 230) (.slice (some ⟨G, 0, none⟩) m cap)).put (some 231) (.int .i64 (k : Int))).put (some 232) (.pointer (some ⟨G, k * 22, none⟩))).put (some 233) (.agg cs)).put (some 234) (.tuple #[.agg fa, .int .i64 0])).put (some 228) (.tuple #[.agg fa, .int .i64 0])).put (some 235) (.agg fa)).put (some 236) (.int .i64 0)) w17
    refine wpAnyH_all (rs := [9]) (by kernel_rfl) (by simp) ?_
    intro i hi
    simp only [List.mem_cons, List.not_mem_nil, or_false] at hi
    subst hi
    refine wpOp_plain op36_9 rfl rfl (wp_alloc_of 98 frz rfl (run_alloc_frame _) ?_)
    have B20 : Below W.heap.size W (w17.alloc (.cells frz 98)) := (B19).alloc (B19).size _
    refine ⟨keepS _ B20, ?_⟩
    show wpAnyH Tryz.prog .any ops36 Q S 2 #[true, true, true, true, true, true, true, true, true, true, false, false] ((((((((((a0.put (some 229) (.agg ka)).put (some 230) (.slice (some ⟨G, 0, none⟩) m cap)).put (some 231) (.int .i64 (k : Int))).put (some 232) (.pointer (some ⟨G, k * 22, none⟩))).put (some 233) (.agg cs)).put (some 234) (.tuple #[.agg fa, .int .i64 0])).put (some 228) (.tuple #[.agg fa, .int .i64 0])).put (some 235) (.agg fa)).put (some 236) (.int .i64 0)).put (some 26) (.pointer (some ⟨w17.heap.size, 0, none⟩))) (w17.alloc (.cells frz 98))
    refine wpAnyH_all (rs := [10]) (by kernel_rfl) (by simp) ?_
    intro i hi
    simp only [List.mem_cons, List.not_mem_nil, or_false] at hi
    subst hi
    have e22 : Act.eval ((((((((((a0.put (some 229) (.agg ka)).put (some 230) (.slice (some ⟨G, 0, none⟩) m cap)).put (some 231) (.int .i64 (k : Int))).put (some 232) (.pointer (some ⟨G, k * 22, none⟩))).put (some 233) (.agg cs)).put (some 234) (.tuple #[.agg fa, .int .i64 0])).put (some 228) (.tuple #[.agg fa, .int .i64 0])).put (some 235) (.agg fa)).put (some 236) (.int .i64 0)).put (some 26) (.pointer (some ⟨w17.heap.size, 0, none⟩))) (.tmp 26) = .pointer (some ⟨w17.heap.size, 0, none⟩) := (ev_eq _ _ (by first | omega | (simp only [sz_put]; omega)))
    have e23 : Act.eval ((((((((((a0.put (some 229) (.agg ka)).put (some 230) (.slice (some ⟨G, 0, none⟩) m cap)).put (some 231) (.int .i64 (k : Int))).put (some 232) (.pointer (some ⟨G, k * 22, none⟩))).put (some 233) (.agg cs)).put (some 234) (.tuple #[.agg fa, .int .i64 0])).put (some 228) (.tuple #[.agg fa, .int .i64 0])).put (some 235) (.agg fa)).put (some 236) (.int .i64 0)).put (some 26) (.pointer (some ⟨w17.heap.size, 0, none⟩))) (.tmp 235) = .agg fa := ((ev_ne _ _ (by decide)).trans ((ev_ne _ _ (by decide)).trans (ev_eq _ _ (by first | omega | (simp only [sz_put]; omega)))))
    have h24 : Blk (w17.alloc (.cells frz 98)) (w17.heap.size) 98 frz := (Blk.new w17 _ _)
    have h24z : (execOp (Act.eval ((((((((((a0.put (some 229) (.agg ka)).put (some 230) (.slice (some ⟨G, 0, none⟩) m cap)).put (some 231) (.int .i64 (k : Int))).put (some 232) (.pointer (some ⟨G, k * 22, none⟩))).put (some 233) (.agg cs)).put (some 234) (.tuple #[.agg fa, .int .i64 0])).put (some 228) (.tuple #[.agg fa, .int .i64 0])).put (some 235) (.agg fa)).put (some 236) (.int .i64 0)).put (some 26) (.pointer (some ⟨w17.heap.size, 0, none⟩)))) op36_10).run Tryz.prog (w17.alloc (.cells frz 98)) = .ok .skip ((w17.alloc (.cells frz 98)).setRow (w17.heap.size) fa) := run_store_of 98 (.tmp 26) (.tmp 235) rfl (w17.heap.size) 98 frz fa e22 e23 h24 ifa (frz_size.trans fa32.symm) fa1
    refine wpOp_plain op36_10 rfl rfl ?_
    unfold Oper.wp
    rw [h24z, Oper.upon_skip, show (op36_10).dst = none from rfl, put_none]
    have B21 : Below W.heap.size W ((w17.alloc (.cells frz 98)).setRow (w17.heap.size) fa) := Go.RowKit.Below.setRow' (B20) ((B19).size) fa
    refine ⟨keepS _ B21, ?_⟩
    show wpAnyH Tryz.prog .any ops36 Q S 1 #[true, true, true, true, true, true, true, true, true, true, true, false] ((((((((((a0.put (some 229) (.agg ka)).put (some 230) (.slice (some ⟨G, 0, none⟩) m cap)).put (some 231) (.int .i64 (k : Int))).put (some 232) (.pointer (some ⟨G, k * 22, none⟩))).put (some 233) (.agg cs)).put (some 234) (.tuple #[.agg fa, .int .i64 0])).put (some 228) (.tuple #[.agg fa, .int .i64 0])).put (some 235) (.agg fa)).put (some 236) (.int .i64 0)).put (some 26) (.pointer (some ⟨w17.heap.size, 0, none⟩))) ((w17.alloc (.cells frz 98)).setRow (w17.heap.size) fa)
    refine wpAnyH_take (i := 11) (oi := op36_11) (v := (.int .i64 0)) rfl (by kernel_rfl) (by kernel_rfl) (by kernel_rfl) (fun c a w h => hQ c a _ _ w h) (Or.inl ⟨by rfl, fun w hS => ?_⟩) (keepS _ B21) ?_
    · have e0 : Act.eval ((((((((((a0.put (some 229) (.agg ka)).put (some 230) (.slice (some ⟨G, 0, none⟩) m cap)).put (some 231) (.int .i64 (k : Int))).put (some 232) (.pointer (some ⟨G, k * 22, none⟩))).put (some 233) (.agg cs)).put (some 234) (.tuple #[.agg fa, .int .i64 0])).put (some 228) (.tuple #[.agg fa, .int .i64 0])).put (some 235) (.agg fa)).put (some 236) (.int .i64 0)).put (some 26) (.pointer (some ⟨w17.heap.size, 0, none⟩))) (.tmp 236) = (.int .i64 0) := ((ev_ne _ _ (by decide)).trans (ev_eq _ _ (by first | omega | (simp only [sz_put]; omega))))
      simp only [execOp, op36_11, e0]
      rfl
    show wpAnyH Tryz.prog .any ops36 Q S 0 #[true, true, true, true, true, true, true, true, true, true, true, true] (((((((((((a0.put (some 229) (.agg ka)).put (some 230) (.slice (some ⟨G, 0, none⟩) m cap)).put (some 231) (.int .i64 (k : Int))).put (some 232) (.pointer (some ⟨G, k * 22, none⟩))).put (some 233) (.agg cs)).put (some 234) (.tuple #[.agg fa, .int .i64 0])).put (some 228) (.tuple #[.agg fa, .int .i64 0])).put (some 235) (.agg fa)).put (some 236) (.int .i64 0)).put (some 26) (.pointer (some ⟨w17.heap.size, 0, none⟩))).put (some 27) (.int .i64 0)) ((w17.alloc (.cells frz 98)).setRow (w17.heap.size) fa)
    refine wpAnyH_done (by kernel_rfl) ?_ _
    exact hG _ _ ((B19).size) (Blk.setRow h24 fa) B21
  · refine wpOp_plain op36_9 rfl rfl (wp_alloc_of 98 frz rfl (run_alloc_frame _) ?_)
    have B25 : Below W.heap.size W (W.drew.alloc (.cells frz 98)) := (B0).alloc (B0).size _
    refine ⟨keepS _ B25, ?_⟩
    show wpAnyH Tryz.prog .any ops36 Q S 6 #[true, true, true, true, true, false, false, false, false, true, false, false] ((((((a0.put (some 229) (.agg ka)).put (some 230) (.slice (some ⟨G, 0, none⟩) m cap)).put (some 231) (.int .i64 (k : Int))).put (some 232) (.pointer (some ⟨G, k * 22, none⟩))).put (some 233) (.agg cs)).put (some 26) (.pointer (some ⟨W.drew.heap.size, 0, none⟩))) (W.drew.alloc (.cells frz 98))
    refine wpAnyH_all (rs := [5]) (by kernel_rfl) (by simp) ?_
    intro i hi
    simp only [List.mem_cons, List.not_mem_nil, or_false] at hi
    subst hi
    refine wpOp_plain op36_5 rfl rfl (wp_enterU 67 #[.agg ka, .agg cs] ?_ ?_)
    · have e0 : Act.eval ((((((a0.put (some 229) (.agg ka)).put (some 230) (.slice (some ⟨G, 0, none⟩) m cap)).put (some 231) (.int .i64 (k : Int))).put (some 232) (.pointer (some ⟨G, k * 22, none⟩))).put (some 233) (.agg cs)).put (some 26) (.pointer (some ⟨W.drew.heap.size, 0, none⟩))) (.tmp 229) = (.agg ka) := ((ev_ne _ _ (by decide)).trans ((ev_ne _ _ (by decide)).trans ((ev_ne _ _ (by decide)).trans ((ev_ne _ _ (by decide)).trans ((ev_ne _ _ (by decide)).trans (ev_eq _ _ (by first | omega | (simp only [sz_put]; omega))))))))
      have e1 : Act.eval ((((((a0.put (some 229) (.agg ka)).put (some 230) (.slice (some ⟨G, 0, none⟩) m cap)).put (some 231) (.int .i64 (k : Int))).put (some 232) (.pointer (some ⟨G, k * 22, none⟩))).put (some 233) (.agg cs)).put (some 26) (.pointer (some ⟨W.drew.heap.size, 0, none⟩))) (.tmp 233) = (.agg cs) := ((ev_ne _ _ (by decide)).trans (ev_eq _ _ (by first | omega | (simp only [sz_put]; omega))))
      simp only [execOp, op36_5]
      go_simp
    refine (HENC _).mono ?_
    rintro e w26 ⟨rfl, b27⟩
    have B28 : Below W.heap.size W w26 := (B25).trans (Below.mono b27 (B25).size)
    refine ⟨_, rfl, keepS _ B28, ?_⟩
    show wpAnyH Tryz.prog .any ops36 Q S 5 #[true, true, true, true, true, true, false, false, false, true, false, false] (((((((a0.put (some 229) (.agg ka)).put (some 230) (.slice (some ⟨G, 0, none⟩) m cap)).put (some 231) (.int .i64 (k : Int))).put (some 232) (.pointer (some ⟨G, k * 22, none⟩))).put (some 233) (.agg cs)).put (some 26) (.pointer (some ⟨W.drew.heap.size, 0, none⟩))).put (some 234) (.tuple #[.agg fa, .int .i64 0])) w26
    refine wpAnyH_take (i := 6) (oi := op36_6) (v := (.tuple #[.agg fa, .int .i64 0])) rfl (by kernel_rfl) (by kernel_rfl) (by kernel_rfl) (fun c a w h => hQ c a _ _ w h) (Or.inl ⟨by rfl, fun w hS => ?_⟩) (keepS _ B28) ?_
    · have e0 : Act.eval (((((((a0.put (some 229) (.agg ka)).put (some 230) (.slice (some ⟨G, 0, none⟩) m cap)).put (some 231) (.int .i64 (k : Int))).put (some 232) (.pointer (some ⟨G, k * 22, none⟩))).put (some 233) (.agg cs)).put (some 26) (.pointer (some ⟨W.drew.heap.size, 0, none⟩))).put (some 234) (.tuple #[.agg fa, .int .i64 0])) (.tmp 234) = (.tuple #[.agg fa, .int .i64 0]) := (ev_eq _ _ (by first | omega | (simp only [sz_put]; omega)))
      simp only [execOp, op36_6, e0]
      rfl
    show wpAnyH Tryz.prog .any ops36 Q S 4 #[true, true, true, true, true, true, true, false, false, true, false, false] ((((((((a0.put (some 229) (.agg ka)).put (some 230) (.slice (some ⟨G, 0, none⟩) m cap)).put (some 231) (.int .i64 (k : Int))).put (some 232) (.pointer (some ⟨G, k * 22, none⟩))).put (some 233) (.agg cs)).put (some 26) (.pointer (some ⟨W.drew.heap.size, 0, none⟩))).put (some 234) (.tuple #[.agg fa, .int .i64 0])).put (some 228) (.tuple #[.agg fa, .int .i64 0])) w26
    refine wpAnyH_take (i := 7) (oi := op36_7) (v := (.agg fa)) rfl (by kernel_rfl) (by kernel_rfl) (by kernel_rfl) (fun c a w h => hQ c a _ _ w h) (Or.inl ⟨by rfl, fun w hS => ?_⟩) (keepS _ B28) ?_
    · have e0 : Act.eval ((((((((a0.put (some 229) (.agg ka)).put (some 230) (.slice (some ⟨G, 0, none⟩) m cap)).put (some 231) (.int .i64 (k : Int))).put (some 232) (.pointer (some ⟨G, k * 22, none⟩))).put (some 233) (.agg cs)).put (some 26) (.pointer (some ⟨W.drew.heap.size, 0, none⟩))).put (some 234) (.tuple #[.agg fa, .int .i64 0])).put (some 228) (.tuple #[.agg fa, .int .i64 0])) (.tmp 228) = (.tuple #[.agg fa, .int .i64 0]) := (ev_eq _ _ (by first | omega | (simp only [sz_put]; omega)))
      simp only [execOp, op36_7, e0]
      go_simp
    show wpAnyH Tryz.prog .any ops36 Q S 3 #[true, true, true, true, true, true, true, true, false, true, false, false] (((((((((a0.put (some 229) (.agg ka)).put (some 230) (.slice (some ⟨G, 0, none⟩) m cap)).put (some 231) (.int .i64 (k : Int))).put (some 232) (.pointer (some ⟨G, k * 22, none⟩))).put (some 233) (.agg cs)).put (some 26) (.pointer (some ⟨W.drew.heap.size, 0, none⟩))).put (some 234) (.tuple #[.agg fa, .int .i64 0])).put (some 228) (.tuple #[.agg fa, .int .i64 0])).put (some 235) (.agg fa)) w26
    refine wpAnyH_take (i := 8) (oi := op36_8) (v := (.int .i64 0)) rfl (by kernel_rfl) (by kernel_rfl) (by kernel_rfl) (fun c a w h => hQ c a _ _ w h) (Or.inl ⟨by rfl, fun w hS => ?_⟩) (keepS _ B28) ?_
    · have e0 : Act.eval (((((((((a0.put (some 229) (.agg ka)).put (some 230) (.slice (some ⟨G, 0, none⟩) m cap)).put (some 231) (.int .i64 (k : Int))).put (some 232) (.pointer (some ⟨G, k * 22, none⟩))).put (some 233) (.agg cs)).put (some 26) (.pointer (some ⟨W.drew.heap.size, 0, none⟩))).put (some 234) (.tuple #[.agg fa, .int .i64 0])).put (some 228) (.tuple #[.agg fa, .int .i64 0])).put (some 235) (.agg fa)) (.tmp 228) = (.tuple #[.agg fa, .int .i64 0]) := ((ev_ne _ _ (by decide)).trans (ev_eq _ _ (by first | omega | (simp only [sz_put]; omega))))
      simp only [execOp, op36_8, e0]
      go_simp
    show wpAnyH Tryz.prog .any ops36 Q S 2 #[true, true, true, true, true, true, true, true, true, true, false, false] ((((((((((a0.put (some 229) (.agg ka)).put (some 230) (.slice (some ⟨G, 0, none⟩) m cap)).put (some 231) (.int .i64 (k : Int))).put (some 232) (.pointer (some ⟨G, k * 22, none⟩))).put (some 233) (.agg cs)).put (some 26) (.pointer (some ⟨W.drew.heap.size, 0, none⟩))).put (some 234) (.tuple #[.agg fa, .int .i64 0])).put (some 228) (.tuple #[.agg fa, .int .i64 0])).put (some 235) (.agg fa)).put (some 236) (.int .i64 0)) w26
    refine wpAnyH_all (rs := [10]) (by kernel_rfl) (by simp) ?_
    intro i hi
    simp only [List.mem_cons, List.not_mem_nil, or_false] at hi
    subst hi
    have e30 : Act.eval ((((((((((a0.put (some 229) (.agg ka)).put (some 230) (.slice (some ⟨G, 0, none⟩) m cap)).put (some 231) (.int .i64 (k : Int))).put (some 232) (.pointer (some ⟨G, k * 22, none⟩))).put (some 233) (.agg cs)).put (some 26) (.pointer (some ⟨W.drew.heap.size, 0, none⟩))).put (some 234) (.tuple #[.agg fa, .int .i64 0])).put (some 228) (.tuple #[.agg fa, .int .i64 0])).put (some 235) (.agg fa)).put (some 236) (.int .i64 0)) (.tmp 26) = .pointer (some ⟨W.drew.heap.size, 0, none⟩) := ((ev_ne _ _ (by decide)).trans ((ev_ne _ _ (by decide)).trans ((ev_ne _ _ (by decide)).trans ((ev_ne _ _ (by decide)).trans (ev_eq _ _ (by first | omega | (simp only [sz_put]; omega)))))))
    have e31 : Act.eval ((((((((((a0.put (some 229) (.agg ka)).put (some 230) (.slice (some ⟨G, 0, none⟩) m cap)).put (some 231) (.int .i64 (k : Int))).put (some 232) (.pointer (some ⟨G, k * 22, none⟩))).put (some 233) (.agg cs)).put (some 26) (.pointer (some ⟨W.drew.heap.size, 0, none⟩))).put (some 234) (.tuple #[.agg fa, .int .i64 0])).put (some 228) (.tuple #[.agg fa, .int .i64 0])).put (some 235) (.agg fa)).put (some 236) (.int .i64 0)) (.tmp 235) = .agg fa := ((ev_ne _ _ (by decide)).trans (ev_eq _ _ (by first | omega | (simp only [sz_put]; omega))))
    have h32 : Blk w26 (W.drew.heap.size) 98 frz := ((Blk.new W.drew _ _).below b27)
    have h32z : (execOp (Act.eval ((((((((((a0.put (some 229) (.agg ka)).put (some 230) (.slice (some ⟨G, 0, none⟩) m cap)).put (some 231) (.int .i64 (k : Int))).put (some 232) (.pointer (some ⟨G, k * 22, none⟩))).put (some 233) (.agg cs)).put (some 26) (.pointer (some ⟨W.drew.heap.size, 0, none⟩))).put (some 234) (.tuple #[.agg fa, .int .i64 0])).put (some 228) (.tuple #[.agg fa, .int .i64 0])).put (some 235) (.agg fa)).put (some 236) (.int .i64 0))) op36_10).run Tryz.prog w26 = .ok .skip (w26.setRow (W.drew.heap.size) fa) := run_store_of 98 (.tmp 26) (.tmp 235) rfl (W.drew.heap.size) 98 frz fa e30 e31 h32 ifa (frz_size.trans fa32.symm) fa1
    refine wpOp_plain op36_10 rfl rfl ?_
    unfold Oper.wp
    rw [h32z, Oper.upon_skip, show (op36_10).dst = none from rfl, put_none]
    have B29 : Below W.heap.size W (w26.setRow (W.drew.heap.size) fa) := Go.RowKit.Below.setRow' (B28) ((B0).size) fa
    refine ⟨keepS _ B29, ?_⟩
    show wpAnyH Tryz.prog .any ops36 Q S 1 #[true, true, true, true, true, true, true, true, true, true, true, false] ((((((((((a0.put (some 229) (.agg ka)).put (some 230) (.slice (some ⟨G, 0, none⟩) m cap)).put (some 231) (.int .i64 (k : Int))).put (some 232) (.pointer (some ⟨G, k * 22, none⟩))).put (some 233) (.agg cs)).put (some 26) (.pointer (some ⟨W.drew.heap.size, 0, none⟩))).put (some 234) (.tuple #[.agg fa, .int .i64 0])).put (some 228) (.tuple #[.agg fa, .int .i64 0])).put (some 235) (.agg fa)).put (some 236) (.int .i64 0)) (w26.setRow (W.drew.heap.size) fa)
    refine wpAnyH_take (i := 11) (oi := op36_11) (v := (.int .i64 0)) rfl (by kernel_rfl) (by kernel_rfl) (by kernel_rfl) (fun c a w h => hQ c a _ _ w h) (Or.inl ⟨by rfl, fun w hS => ?_⟩) (keepS _ B29) ?_
    · have e0 : Act.eval ((((((((((a0.put (some 229) (.agg ka)).put (some 230) (.slice (some ⟨G, 0, none⟩) m cap)).put (some 231) (.int .i64 (k : Int))).put (some 232) (.pointer (some ⟨G, k * 22, none⟩))).put (some 233) (.agg cs)).put (some 26) (.pointer (some ⟨W.drew.heap.size, 0, none⟩))).put (some 234) (.tuple #[.agg fa, .int .i64 0])).put (some 228) (.tuple #[.agg fa, .int .i64 0])).put (some 235) (.agg fa)).put (some 236) (.int .i64 0)) (.tmp 236) = (.int .i64 0) := (ev_eq _ _ (by first | omega | (simp only [sz_put]; omega)))
      simp only [execOp, op36_11, e0]
      rfl
    show wpAnyH Tryz.prog .any ops36 Q S 0 #[true, true, true, true, true, true, true, true, true, true, true, true] (((((((((((a0.put (some 229) (.agg ka)).put (some 230) (.slice (some ⟨G, 0, none⟩) m cap)).put (some 231) (.int .i64 (k : Int))).put (some 232) (.pointer (some ⟨G, k * 22, none⟩))).put (some 233) (.agg cs)).put (some 26) (.pointer (some ⟨W.drew.heap.size, 0, none⟩))).put (some 234) (.tuple #[.agg fa, .int .i64 0])).put (some 228) (.tuple #[.agg fa, .int .i64 0])).put (some 235) (.agg fa)).put (some 236) (.int .i64 0)).put (some 27) (.int .i64 0)) (w26.setRow (W.drew.heap.size) fa)
    refine wpAnyH_done (by kernel_rfl) ?_ _
    rw [put_swap (d := 26) (e := 234) (by decide), put_swap (d := 26) (e := 228) (by decide), put_swap (d := 26) (e := 235) (by decide), put_swap (d := 26) (e := 236) (by decide)]
    exact hG _ _ ((B0).size) (Blk.setRow h32 fa) B29
end Go.Proofs.YtoipafnlcchmbaaGreatDoor
