/- Texts Qr of the proof. -/
import Derived.Test.YtmafmebcgmegeaaGreatDoorX46
import Derived.Test.YtmafmebcgmegeaaGreatDoorX41
import Derived.Test.YtmafmebcgmegeaaGreatDoorX44
namespace Go.Proofs.YtmafmebcgmegeaaGreatDoor
open Go.RowKit Go.Sort
theorem infoPt : (Tryz.prog.info? 30).map (fun i => (i.zero, i.size, i.bytes)) = some (some (.agg #[.int .i64 0, .int .i64 0]), 2, 16) := by kernel_rfl
theorem app_none {P : Program} (W : World) (t ty e : TypeId) (i : TypeInfo) (hi : P.info? e = some i) (ht : P.underlying t = some (.slice e)) (b0 : Addr) (p : Option Addr) (c : Nat) :
    (Builtin.append_ #[t, t] ty #[.slice (some b0) 0 0, .slice p 0 c]).run P W = .ok (.slice (some b0) 0 0) W := by
  cases p <;> simp [Builtin.append_, run_underlying ht, sizeOf, typeInfo, hi, Builtin.lenOf, Builtin.firstCells, loadCells, loadCellsFrom, storeCells]
def ptCells (l : List Bell.Pt) : List Value := l.flatMap fun p => [.int .i64 p.x, .int .i64 p.y]
theorem ptCells_len (l : List Bell.Pt) : (ptCells l).length = l.length * 2 := by
  induction l with
  | nil => rfl
  | cons p l ih => simp only [ptCells, List.flatMap_cons, List.length_append, List.length_cons, List.length_nil] at *; omega
theorem ptCells_at (l : List Bell.Pt) (i : Nat) (hi : i < l.length) : (ptCells l)[i * 2]? = some (.int .i64 (Bell.ptAt l i).x) ∧ (ptCells l)[i * 2 + 1]? = some (.int .i64 (Bell.ptAt l i).y) := by
  induction l generalizing i with
  | nil => simp at hi
  | cons p l ih =>
    cases i with
    | zero => exact ⟨rfl, rfl⟩
    | succ i =>
      have := ih i (by simpa using hi)
      have e : ptCells (p :: l) = Value.int .i64 p.x :: Value.int .i64 p.y :: ptCells l := rfl
      have ef : Bell.ptAt (p :: l) (i + 1) = Bell.ptAt l i := rfl
      rw [e, ef, show (i + 1) * 2 = i * 2 + 1 + 1 by omega]
      simpa using this
theorem PtsAt.cellsAt {w : World} {g o n : Nat} {l : List Bell.Pt} (h : PtsAt w (some ⟨g, o, none⟩) n l) : ∀ j u, (ptCells l)[j]? = some u → w.cell? ((⟨g, o, none⟩ : Addr).add j) = some u := fun j u hu => by
  have hj : j < n * 2 := by
    have := (List.getElem?_eq_some_iff.1 hu).1
    rw [ptCells_len, h.1] at this
    exact this
  obtain ⟨b, off, he, hh⟩ := h.2 (by omega)
  cases he
  obtain ⟨c0, c1⟩ := hh (j / 2) (by omega)
  obtain ⟨d0, d1⟩ := ptCells_at l (j / 2) (by rw [h.1]; omega)
  rw [addAddr]
  rcases Nat.mod_two_eq_zero_or_one j with hm | hm
  · have e : j = j / 2 * 2 := by omega
    rw [e] at hu ⊢
    rw [d0] at hu
    rw [c0, ← hu]
  · have e : j = j / 2 * 2 + 1 := by omega
    rw [e] at hu ⊢
    rw [d1] at hu
    rw [← Nat.add_assoc, c1, ← hu]
/-- A copy of points. -/
def GR.pts (n : Nat) (l : List Bell.Pt) : GR := ⟨fun v W => ∃ g c, v = .slice (some ⟨g, 0, none⟩) n c ∧ PtsAt W (some ⟨g, 0, none⟩) n l ∧ n ≤ c ∧ c ≤ 9223372036854775807, fun ⟨g, c, e, h1, h2⟩ hE => ⟨g, c, e, h1.keep hE, h2⟩⟩
def GR.sps (n : Nat) (l : List Bell.Sp) : GR := ⟨fun v W => ∃ A c, v = .slice A n c ∧ SpsAt W A n l, fun ⟨A, c, e, h1⟩ hE => ⟨A, c, e, h1.keep hE⟩⟩
theorem gs_points {o : Oper} {a : Act} {W : World} {Q : Exit → Act → World → Prop} {n c : Nat} {A : Option Addr} {l : List Bell.Pt} (s x : Operand) (ho : o.op = .call { callee := .builtin .append, args := #[s, x], argTypes := #[82, 82] })
    (hs : ∃ g, a.eval s = .slice (some ⟨g, 0, none⟩) 0 0) (hx : a.eval x = .slice A n c) (hz : PtsAt W A n l) (hn2 : n ≤ 100000) :
    Oper.wp Tryz.prog o a W (fun a' W' => ∃ v, a' = a.put o.dst v ∧ Ext W W' ∧ (GR.pts n l).r v W') Q := by
  obtain ⟨i0, hi, hz0, hz1, hz2⟩ := info_parts infoPt
  obtain ⟨g, hg⟩ := hs
  rcases Nat.eq_zero_or_pos n with rfl | hn
  · refine gs_val (v := .slice (some ⟨g, 0, none⟩) 0 0) (W' := W) ?_ (Ext.refl _) ⟨g, 0, rfl, ⟨hz.1, fun h => by omega⟩, by omega, by omega⟩
    simp [execOp, ho, resolve, invoke, builtin, hg, hx, app_none W 82 o.type 30 i0 hi Tryz.underlying82, Result.andThen]
  · obtain ⟨b, off, rfl, _⟩ := hz.2 hn
    obtain ⟨v', w', hrun, r1, r2⟩ := run_append_arg_grows (P := Tryz.prog) W 82 o.type 30 i0 (.agg #[.int .i64 0, .int .i64 0]) 2 16 Tryz.underlying82 hi hz0 hz1 hz2 rfl (by decide) ⟨g, 0, none⟩ 0 0 [] rfl (fun j u h => by simp at h)
      ⟨b, off, none⟩ n c (ptCells l) (by rw [ptCells_len, hz.1]) hz.cellsAt (by omega) (by unfold maxLen; omega) (by omega)
    obtain ⟨g1, g2, g3, g4, g5⟩ := r2
    have hE : Ext W w' := ⟨g1, g2, g3, g4, fun k hk => g5 k hk (by simp)⟩
    have h2 : w'.ownsRow W.heap.size 30 2 v' n (ptCells l) := by simpa using r1
    obtain ⟨gq, cq, hv, hnc, hm⟩ : ∃ gq cq, v' = .slice (some ⟨gq, 0, none⟩) n cq ∧ n ≤ cq ∧ cq ≤ 9223372036854775807 := by
      rcases h2.2 with ⟨_, h0⟩ | ⟨gq, cap, cur, hv, _, _, h3, h4, _⟩
      · omega
      · exact ⟨gq, cap, hv, h3, by unfold maxLen at h4; omega⟩
    subst hv
    refine gs_val (v := .slice (some ⟨gq, 0, none⟩) n cq) (W' := w') ?_ hE ⟨gq, cq, rfl, ⟨hz.1, fun _ => ⟨gq, 0, rfl, fun i hi => ?_⟩⟩, hnc, hm⟩
    · simp [execOp, ho, resolve, invoke, builtin, hg, hx, hrun, Result.andThen]
    · obtain ⟨d0, d1⟩ := ptCells_at l i (by rw [hz.1]; exact hi)
      have hl := ptCells_len l
      rw [hz.1] at hl
      refine ⟨?_, ?_⟩
      · rw [Nat.zero_add, World.ownsRow.cellAt h2 (i * 2) (by omega)]; exact d0
      · rw [Nat.zero_add, World.ownsRow.cellAt h2 (i * 2 + 1) (by omega)]; exact d1
/-- What both sides find: the fault, and the track. -/
def pathsE (l : List Bell.Pt) (p : List Bell.Sp) (v t : Int) : Int := if flownE l p v t = 0 then flownF l p v t else flownE l p v t
def pathsL (l : List Bell.Pt) (p : List Bell.Sp) (v t : Int) : List Bell.Fx := if pathsE l p v t = 0 then Bell.flown l p v t else []
theorem nil_trk (w : World) : TrAt w none 0 [] := ⟨rfl, fun h => by omega⟩
def GR.fl (E : Int) (k : List Bell.Fx) : GR := ⟨fun v W => ∃ A m c, v = .tuple #[.slice A m c, .int .i64 E] ∧ TrAt W A m k, fun ⟨A, m, c, e, h1⟩ hE => ⟨A, m, c, e, h1.keep hE⟩⟩
def GR.fls (k : List Bell.Fx) : GR := ⟨fun v W => ∃ A m c, v = .slice A m c ∧ TrAt W A m k, fun ⟨A, m, c, e, h1⟩ hE => ⟨A, m, c, e, h1.keep hE⟩⟩
theorem flown_fl {l : List Bell.Pt} {p : List Bell.Sp} {v t : Int} {e : Ending} {w' : World} (h : FlownPost l p v t e w') : ∃ x, e = .returned x ∧ (GR.fl (pathsE l p v t) (pathsL l p v t)).r x w' := by
  by_cases h0 : flownE l p v t = 0
  · have e1 : pathsE l p v t = flownF l p v t := if_pos h0
    by_cases h1 : flownF l p v t = 0
    · obtain ⟨g, he, hf⟩ := (h.2 h0).2 h1
      refine ⟨_, he, some ⟨g, 0, none⟩, l.length, l.length, by rw [e1, h1], ?_⟩
      unfold pathsL
      rw [if_pos (by rw [e1, h1])]
      exact ⟨by rw [Bell.flown_len], fun _ => ⟨g, 0, rfl, hf⟩⟩
    · refine ⟨_, (h.2 h0).1 h1, none, 0, 0, by rw [e1], ?_⟩
      unfold pathsL
      rw [if_neg (by rw [e1]; exact h1)]
      exact nil_trk _
  · have e1 : pathsE l p v t = flownE l p v t := if_neg h0
    refine ⟨_, h.1 h0, none, 0, 0, by rw [e1], ?_⟩
    unfold pathsL
    rw [if_neg (by rw [e1]; exact h0)]
    exact nil_trk _
theorem ref_fl {l : List Bell.Pt} {p : List Bell.Sp} {v t : Int} {e : Ending} {w' : World} (h0 : flownE l p v t = 0) (h : RefFlown l p v t e w') : ∃ A m c, e = .returned (.tuple #[.slice A m c, .int .i64 (pathsE l p v t)]) ∧ TrAt w' A m (pathsL l p v t) := by
  have e1 : pathsE l p v t = flownF l p v t := if_pos h0
  by_cases h1 : flownF l p v t = 0
  · obtain ⟨A, c, he, hf⟩ := h.2 h1
    refine ⟨A, l.length, c, by rw [he, e1, h1], ?_⟩
    unfold pathsL
    rw [if_pos (by rw [e1, h1])]
    exact hf
  · refine ⟨none, 0, 0, by rw [h.1 h1, e1], ?_⟩
    unfold pathsL
    rw [if_neg (by rw [e1]; exact h1)]
    exact nil_trk _
theorem refSpeed_st (x : Int) (w : World) : Calls Tryz.prog 40 #[.int .i64 x] w fun e w' => e = .returned (.int .i64 (withinE x 1 1000)) ∧ w' = w := by
  go_enter Tryz.func40, Tryz.ntmps40
  go_wp2_with fail
  refine (refCheckRange_st _ _ _ _).mono ?_
  rintro e w' ⟨rfl, rfl⟩
  go_wp2
  go_ret
  exact ⟨rfl, rfl⟩
theorem lawFirst4 (g c : Nat) (x y z u : Int) (w : World) (h0 : w.cell? ⟨g, 0, none⟩ = some (.int .i64 x)) (h1 : w.cell? ⟨g, 1, none⟩ = some (.int .i64 y)) (h2 : w.cell? ⟨g, 2, none⟩ = some (.int .i64 z)) (h3 : w.cell? ⟨g, 3, none⟩ = some (.int .i64 u)) :
    Calls Tryz.prog 21 #[.slice (some ⟨g, 0, none⟩) 4 c] w fun e w' => e = .returned (.int .i64 (firstE [x, y, z, u])) ∧ w = w' := by
  have H := Lib.hid (refFirst4 g c x y z u w h0 h1 h2 h3)
  clear h0 h1 h2 h3
  go_enter Tryz.func21, Tryz.ntmps21
  go_wp2_with fail
  refine H.out.mono ?_
  rintro e w' ⟨rfl, rfl⟩
  go_wp2
  go_ret
  exact ⟨rfl, rfl⟩
def GR.row (n : Nat) (T : TypeId) (cs : Array Value) : GR := ⟨fun v W => ∃ g, v = .slice (some ⟨g, 0, none⟩) n n ∧ Blk W g T cs, fun ⟨g, e, h⟩ hE => ⟨g, e, h.below hE⟩⟩
set_option maxHeartbeats 4000000 in
set_option maxRecDepth 100000 in
theorem paths_walk (A B : Option Addr) (n c pn pc : Nat) (l : List Bell.Pt) (p : List Bell.Sp) (v t : Int) (w : World) (hl : PtsAt w A n l) (hp : SpsAt w B pn p) (hu : Turned w) (hf : FirstWords w) (ht : Tab w) :
    Calls Tryz.prog 5 #[.slice A n c, .slice B pn pc, .agg #[.int .i64 v, .int .i64 t]] w fun e w' => e = .returned (.bool true) ∧ Below w.heap.size w w' := by
  have U := Lib.hid hu
  have F := Lib.hid hf
  have TB := Lib.hid ht
  have HL := Lib.hid hl
  have HP := Lib.hid hp
  clear hu hf ht hl hp
  go_enter Tryz.func5, Tryz.ntmps5
  go_upto_region 1 with fail
  obtain ⟨w1, hw1⟩ : ∃ W, W = (w.alloc (.cells #[.int .i64 v, .int .i64 t] 63)) := ⟨_, rfl⟩
  rw [← hw1]
  have NN : Hid (Blk w1 (w.heap.size) 63 #[.int .i64 v, .int .i64 t]) := by show Blk _ _ _ _; rw [hw1]; exact Blk.new _ _ _
  have hb : Below w.heap.size w w1 := by rw [hw1]; exact ((Below.refl _ _).alloc (Nat.le_refl _) _)
  obtain ⟨g5, hg5⟩ : ∃ g, g = w.heap.size := ⟨_, rfl⟩
  have HGw1 : Hid (g5 = w.heap.size) := hg5
  rw [← hg5] at NN
  try rw [← hg5]
  clear hw1 hg5
  have HB := Lib.hid hb
  replace U := Lib.hid (U.out.keep hb)
  replace F := Lib.hid (F.out.keep hb)
  replace TB := Lib.hid (TB.out.keep hb)
  replace HL := Lib.hid (HL.out.keep hb)
  replace HP := Lib.hid (HP.out.keep hb)
  clear hb HGw1
  by_cases h17 : 17 < n
  · have h18 : (17 : Int) < (n : Int) := by omega
    go_wp2_with fail
    refine (awake2_any w1 U.out F.out TB.out).mono ?_
    rintro e wZ ⟨rfl, hb⟩
    replace HB := Lib.hid (HB.out.trans (hb.mono HB.out.size))
    clear hb
    go_wp2
    go_ret
    exact ⟨rfl, HB.out⟩
  have h18 : ¬ (17 : Int) < (n : Int) := by omega
  by_cases h9 : 9 < pn
  · have h10 : (9 : Int) < (pn : Int) := by omega
    go_wp2_with fail
    refine (awake2_any w1 U.out F.out TB.out).mono ?_
    rintro e wZ ⟨rfl, hb⟩
    replace HB := Lib.hid (HB.out.trans (hb.mono HB.out.size))
    clear hb
    go_wp2
    go_ret
    exact ⟨rfl, HB.out⟩
  have h10 : ¬ (9 : Int) < (pn : Int) := by omega
  have hn : n ≤ 140737488351232 := by omega
  have hpn : pn ≤ 140737488351232 := by omega
  go_upto_region 3 with fail
  clear h18 h10
  refine wp_region_allN 15 rfl (by kernel_rfl) (by kernel_rfl) [GR.bare, GR.eq (.slice A n c), GR.pts n l, GR.eq (.slice B pn pc), GR.sps pn p, GR.eq (.pointer (some ⟨g5, 0, none⟩)), GR.eq (.int .i64 v), GR.eq (.pointer (some ⟨g5, 1, none⟩)), GR.eq (.int .i64 t), GR.fl (pathsE l p v t) (pathsL l p v t), GR.fl (pathsE l p v t) (pathsL l p v t), GR.fls (pathsL l p v t), GR.eq (.int .i64 (pathsE l p v t)), GR.fls (pathsL l p v t), GR.eq (.int .i64 (pathsE l p v t))] 77 rfl (by kernel_rfl) ?_ ?_
  · refine ⟨?_, ?_, ?_, ?_, ?_, ?_, ?_, ?_, ?_, ?_, ?_, ?_, ?_, ?_, ?_, trivial⟩
    · intro a W hE hd ho
      refine gs_val (v := .slice (some ⟨W.heap.size, 0, none⟩) 0 0) (W' := W.alloc (.cells #[] 30)) (by go_simp) ((Below.refl _ _).alloc (Nat.le_refl _) _) ⟨_, rfl⟩
    · intro a W hE hd ho
      have e0 : a.tmps[0]?.getD undef = .slice A n c := ho 0 (by kernel_rfl)
      exact gs_same (v := .slice A n c) (by go_simp) rfl
    · intro a W hE hd ho
      have e22 : a.tmps[22]?.getD undef = .slice A n c := hd 1 22 (by kernel_rfl) (by kernel_rfl)
      have es : ∃ g, a.tmps[21]?.getD undef = .slice (some ⟨g, 0, none⟩) 0 0 := hd 0 21 (by kernel_rfl) (by kernel_rfl)
      exact gs_points (.tmp 21) (.tmp 22) rfl (by rw [eval_getD]; exact es) ((eval_getD _ _).trans e22) (HL.out.keep hE) (by omega)
    · intro a W hE hd ho
      have e1 : a.tmps[1]?.getD undef = .slice B pn pc := ho 1 (by kernel_rfl)
      exact gs_same (v := .slice B pn pc) (by go_simp) rfl
    · intro a W hE hd ho
      have e24 : a.tmps[24]?.getD undef = .slice B pn pc := hd 3 24 (by kernel_rfl) (by kernel_rfl)
      refine gs_call (f := 49) (args := #[.slice B pn pc]) (by go_simp) ?_
      refine (steps_any B pn pc p W (HP.out.keep hE) (by omega)).mono ?_
      rintro e w9 ⟨A', c', rfl, h1, h2⟩
      exact ⟨_, rfl, h2, A', c', rfl, h1⟩
    · intro a W hE hd ho
      have e5 : a.tmps[5]?.getD undef = .pointer (some ⟨g5, 0, none⟩) := ho 5 (by kernel_rfl)
      exact gs_same (v := .pointer (some ⟨g5, 0, none⟩)) (by go_simp) rfl
    · intro a W hE hd ho
      have e26 : a.tmps[26]?.getD undef = .pointer (some ⟨g5, 0, none⟩) := hd 5 26 (by kernel_rfl) (by kernel_rfl)
      have c0 := (NN.out.below hE).cell 0
      simp only [List.getElem?_toArray, List.getElem?_cons_zero, List.getElem?_cons_succ] at c0
      exact gs_same (v := .int .i64 v) (by go_simp) rfl
    · intro a W hE hd ho
      have e5 : a.tmps[5]?.getD undef = .pointer (some ⟨g5, 0, none⟩) := ho 5 (by kernel_rfl)
      exact gs_same (v := .pointer (some ⟨g5, 1, none⟩)) (by go_simp) rfl
    · intro a W hE hd ho
      have e28 : a.tmps[28]?.getD undef = .pointer (some ⟨g5, 1, none⟩) := hd 7 28 (by kernel_rfl) (by kernel_rfl)
      have c1 := (NN.out.below hE).cell 1
      simp only [List.getElem?_toArray, List.getElem?_cons_zero, List.getElem?_cons_succ] at c1
      exact gs_same (v := .int .i64 t) (by go_simp) rfl
    · intro a W hE hd ho
      have e27 : a.tmps[27]?.getD undef = .int .i64 v := hd 6 27 (by kernel_rfl) (by kernel_rfl)
      have e29 : a.tmps[29]?.getD undef = .int .i64 t := hd 8 29 (by kernel_rfl) (by kernel_rfl)
      obtain ⟨gq, cq, e23, k1, k2, k3⟩ : ∃ g c, a.tmps[23]?.getD undef = .slice (some ⟨g, 0, none⟩) n c ∧ PtsAt W (some ⟨g, 0, none⟩) n l ∧ n ≤ c ∧ c ≤ 9223372036854775807 := hd 2 23 (by kernel_rfl) (by kernel_rfl)
      obtain ⟨A2, c2, e25, k4⟩ : ∃ A c, a.tmps[25]?.getD undef = .slice A pn c ∧ SpsAt W A pn p := hd 4 25 (by kernel_rfl) (by kernel_rfl)
      refine gs_call (f := 48) (args := #[.slice (some ⟨gq, 0, none⟩) n cq, .slice A2 pn c2, .int .i64 v, .int .i64 t]) (by go_simp) ?_
      refine (Flown_any gq 0 n cq A2 pn c2 l p v t W k1 k4 k2 k3 hpn hn).mono ?_
      rintro e w9 ⟨h1, h2⟩
      obtain ⟨x, he, hx⟩ := flown_fl h1
      exact ⟨x, he, h2, hx⟩
    · intro a W hE hd ho
      obtain ⟨A1, m1, c1, e30, h1⟩ : ∃ A m c, a.tmps[30]?.getD undef = .tuple #[.slice A m c, .int .i64 (pathsE l p v t)] ∧ TrAt W A m (pathsL l p v t) := hd 9 30 (by kernel_rfl) (by kernel_rfl)
      exact gs_same (v := .tuple #[.slice A1 m1 c1, .int .i64 (pathsE l p v t)]) (by go_simp) ⟨A1, m1, c1, rfl, h1⟩
    · intro a W hE hd ho
      obtain ⟨A1, m1, c1, e20, h1⟩ : ∃ A m c, a.tmps[20]?.getD undef = .tuple #[.slice A m c, .int .i64 (pathsE l p v t)] ∧ TrAt W A m (pathsL l p v t) := hd 10 20 (by kernel_rfl) (by kernel_rfl)
      exact gs_same (v := .slice A1 m1 c1) (by go_simp) ⟨A1, m1, c1, rfl, h1⟩
    · intro a W hE hd ho
      obtain ⟨A1, m1, c1, e20, h1⟩ : ∃ A m c, a.tmps[20]?.getD undef = .tuple #[.slice A m c, .int .i64 (pathsE l p v t)] ∧ TrAt W A m (pathsL l p v t) := hd 10 20 (by kernel_rfl) (by kernel_rfl)
      exact gs_same (v := .int .i64 (pathsE l p v t)) (by go_simp) rfl
    · intro a W hE hd ho
      obtain ⟨A1, m1, c1, e31, h1⟩ : ∃ A m c, a.tmps[31]?.getD undef = .slice A m c ∧ TrAt W A m (pathsL l p v t) := hd 11 31 (by kernel_rfl) (by kernel_rfl)
      exact gs_same (v := .slice A1 m1 c1) (by go_simp) ⟨A1, m1, c1, rfl, h1⟩
    · intro a W hE hd ho
      have e32 : a.tmps[32]?.getD undef = .int .i64 (pathsE l p v t) := hd 12 32 (by kernel_rfl) (by kernel_rfl)
      exact gs_same (v := .int .i64 (pathsE l p v t)) (by go_simp) rfl
  intro vs w2 hE hR
  obtain ⟨y0v, y0⟩ : ∃ v, vs 0 = v := ⟨_, rfl⟩
  have y1 : vs 1 = .slice A n c := hR 1 (by omega)
  obtain ⟨y2v, y2⟩ : ∃ v, vs 2 = v := ⟨_, rfl⟩
  have y3 : vs 3 = .slice B pn pc := hR 3 (by omega)
  obtain ⟨y4v, y4⟩ : ∃ v, vs 4 = v := ⟨_, rfl⟩
  have y5 : vs 5 = .pointer (some ⟨g5, 0, none⟩) := hR 5 (by omega)
  have y6 : vs 6 = .int .i64 v := hR 6 (by omega)
  have y7 : vs 7 = .pointer (some ⟨g5, 1, none⟩) := hR 7 (by omega)
  have y8 : vs 8 = .int .i64 t := hR 8 (by omega)
  obtain ⟨y9v, y9⟩ : ∃ v, vs 9 = v := ⟨_, rfl⟩
  obtain ⟨y10v, y10⟩ : ∃ v, vs 10 = v := ⟨_, rfl⟩
  obtain ⟨y11v, y11⟩ : ∃ v, vs 11 = v := ⟨_, rfl⟩
  have y12 : vs 12 = .int .i64 (pathsE l p v t) := hR 12 (by omega)
  obtain ⟨A1, m1, c1, y13, htr⟩ : ∃ A m c, vs 13 = .slice A m c ∧ TrAt w2 A m (pathsL l p v t) := hR 13 (by omega)
  have y14 : vs 14 = .int .i64 (pathsE l p v t) := hR 14 (by omega)
  simp only [List.range, List.range.loop, List.foldl_cons, List.foldl_nil, y0, y1, y2, y3, y4, y5, y6, y7, y8, y9, y10, y11, y12, y13, y14, List.drop_succ_cons, List.drop_zero]
  simp only [dstAt, List.getElem?_toArray, List.getElem?_cons_zero, List.getElem?_cons_succ, Option.bind_some, Act.put, List.setIfInBounds_toArray, List.set_cons_zero, List.set_cons_succ]
  clear y0 y1 y2 y3 y4 y5 y6 y7 y8 y9 y10 y11 y12 y13 y14 hR
  have hb := hE.below
  have HT := Lib.hid htr
  replace HB := Lib.hid (HB.out.trans (hb.mono HB.out.size))
  replace U := Lib.hid (U.out.keep hb)
  replace F := Lib.hid (F.out.keep hb)
  replace TB := Lib.hid (TB.out.keep hb)
  replace HL := Lib.hid (HL.out.keep hb)
  replace HP := Lib.hid (HP.out.keep hb)
  replace NN := Lib.hid (NN.out.below hb)
  clear hb
  clear hE htr
  go_upto_region 4 with fail
  refine wp_region_allN 13 rfl (by kernel_rfl) (by kernel_rfl) [GR.eq (.slice A n c), GR.eq (.int .i64 (pathE l)), GR.eq (.slice B pn pc), GR.eq (.int .i64 (procE p)), GR.eq (.pointer (some ⟨g5, 0, none⟩)), GR.eq (.int .i64 v), GR.eq (.int .i64 (withinE v 1 1000)), GR.eq (.pointer (some ⟨g5, 1, none⟩)), GR.eq (.int .i64 t), GR.eq (.int .i64 (withinE t 0 100000000)), GR.row 4 3 #[.int .i64 (pathE l), .int .i64 (procE p), .int .i64 (withinE v 1 1000), .int .i64 (withinE t 0 100000000)], GR.eq (.int .i64 (flownE l p v t)), GR.eq (.int .i64 (flownE l p v t))] 77 rfl (by kernel_rfl) ?_ ?_
  · refine ⟨?_, ?_, ?_, ?_, ?_, ?_, ?_, ?_, ?_, ?_, ?_, ?_, ?_, trivial⟩
    · intro a W hE hd ho
      have e0 : a.tmps[0]?.getD undef = .slice A n c := ho 0 (by kernel_rfl)
      exact gs_same (v := .slice A n c) (by go_simp) rfl
    · intro a W hE hd ho
      have e33 : a.tmps[33]?.getD undef = .slice A n c := hd 0 33 (by kernel_rfl) (by kernel_rfl)
      refine gs_call (f := 50) (args := #[.slice A n c]) (by go_simp) ?_
      refine (refPath_full A n c l W (HL.out.keep hE) hn).mono ?_
      rintro e w' ⟨rfl, hb⟩
      exact ⟨_, rfl, hb, rfl⟩
    · intro a W hE hd ho
      have e1 : a.tmps[1]?.getD undef = .slice B pn pc := ho 1 (by kernel_rfl)
      exact gs_same (v := .slice B pn pc) (by go_simp) rfl
    · intro a W hE hd ho
      have e35 : a.tmps[35]?.getD undef = .slice B pn pc := hd 2 35 (by kernel_rfl) (by kernel_rfl)
      refine gs_call (f := 51) (args := #[.slice B pn pc]) (by go_simp) ?_
      refine (refProc_full B pn pc p W (HP.out.keep hE) hpn).mono ?_
      rintro e w' ⟨rfl, hb⟩
      exact ⟨_, rfl, hb, rfl⟩
    · intro a W hE hd ho
      have e5 : a.tmps[5]?.getD undef = .pointer (some ⟨g5, 0, none⟩) := ho 5 (by kernel_rfl)
      exact gs_same (v := .pointer (some ⟨g5, 0, none⟩)) (by go_simp) rfl
    · intro a W hE hd ho
      have e37 : a.tmps[37]?.getD undef = .pointer (some ⟨g5, 0, none⟩) := hd 4 37 (by kernel_rfl) (by kernel_rfl)
      have c0 := (NN.out.below hE).cell 0
      simp only [List.getElem?_toArray, List.getElem?_cons_zero, List.getElem?_cons_succ] at c0
      exact gs_same (v := .int .i64 v) (by go_simp) rfl
    · intro a W hE hd ho
      have e38 : a.tmps[38]?.getD undef = .int .i64 v := hd 5 38 (by kernel_rfl) (by kernel_rfl)
      refine gs_call (f := 40) (args := #[.int .i64 v]) (by go_simp) ?_
      refine (refSpeed_st v W).mono ?_
      rintro e w' ⟨rfl, rfl⟩
      exact ⟨_, rfl, Ext.refl _, rfl⟩
    · intro a W hE hd ho
      have e5 : a.tmps[5]?.getD undef = .pointer (some ⟨g5, 0, none⟩) := ho 5 (by kernel_rfl)
      exact gs_same (v := .pointer (some ⟨g5, 1, none⟩)) (by go_simp) rfl
    · intro a W hE hd ho
      have e40 : a.tmps[40]?.getD undef = .pointer (some ⟨g5, 1, none⟩) := hd 7 40 (by kernel_rfl) (by kernel_rfl)
      have c1 := (NN.out.below hE).cell 1
      simp only [List.getElem?_toArray, List.getElem?_cons_zero, List.getElem?_cons_succ] at c1
      exact gs_same (v := .int .i64 t) (by go_simp) rfl
    · intro a W hE hd ho
      have e41 : a.tmps[41]?.getD undef = .int .i64 t := hd 8 41 (by kernel_rfl) (by kernel_rfl)
      refine gs_call (f := 52) (args := #[.int .i64 t]) (by go_simp) ?_
      refine (refTick_st t W).mono ?_
      rintro e w' ⟨rfl, rfl⟩
      exact ⟨_, rfl, Ext.refl _, rfl⟩
    · intro a W hE hd ho
      have e34 : a.tmps[34]?.getD undef = .int .i64 (pathE l) := hd 1 34 (by kernel_rfl) (by kernel_rfl)
      have e36 : a.tmps[36]?.getD undef = .int .i64 (procE p) := hd 3 36 (by kernel_rfl) (by kernel_rfl)
      have e39 : a.tmps[39]?.getD undef = .int .i64 (withinE v 1 1000) := hd 6 39 (by kernel_rfl) (by kernel_rfl)
      have e42 : a.tmps[42]?.getD undef = .int .i64 (withinE t 0 100000000) := hd 9 42 (by kernel_rfl) (by kernel_rfl)
      exact gs_val (v := .slice (some ⟨W.heap.size, 0, none⟩) 4 4) (W' := W.alloc (.cells #[.int .i64 (pathE l), .int .i64 (procE p), .int .i64 (withinE v 1 1000), .int .i64 (withinE t 0 100000000)] 3)) (by go_simp) ((Below.refl _ _).alloc (Nat.le_refl _) _) ⟨_, rfl, Blk.new _ _ _⟩
    · intro a W hE hd ho
      obtain ⟨gr, e43, hr⟩ : ∃ g, a.tmps[43]?.getD undef = .slice (some ⟨g, 0, none⟩) 4 4 ∧ Blk W g 3 #[.int .i64 (pathE l), .int .i64 (procE p), .int .i64 (withinE v 1 1000), .int .i64 (withinE t 0 100000000)] := hd 10 43 (by kernel_rfl) (by kernel_rfl)
      refine gs_call (f := 21) (args := #[.slice (some ⟨gr, 0, none⟩) 4 4]) (by go_simp) ?_
      refine (lawFirst4 _ _ (pathE l) (procE p) (withinE v 1 1000) (withinE t 0 100000000) _ (hr.cell 0) (hr.cell 1) (hr.cell 2) (hr.cell 3)).mono ?_
      rintro e w' ⟨rfl, rfl⟩
      exact ⟨_, rfl, Ext.refl _, rfl⟩
    · intro a W hE hd ho
      have e44 : a.tmps[44]?.getD undef = .int .i64 (flownE l p v t) := hd 11 44 (by kernel_rfl) (by kernel_rfl)
      exact gs_same (v := .int .i64 (flownE l p v t)) (by go_simp) rfl
  intro vs w3 hE hR
  have y0 : vs 0 = .slice A n c := hR 0 (by omega)
  have y1 : vs 1 = .int .i64 (pathE l) := hR 1 (by omega)
  have y2 : vs 2 = .slice B pn pc := hR 2 (by omega)
  have y3 : vs 3 = .int .i64 (procE p) := hR 3 (by omega)
  have y4 : vs 4 = .pointer (some ⟨g5, 0, none⟩) := hR 4 (by omega)
  have y5 : vs 5 = .int .i64 v := hR 5 (by omega)
  have y6 : vs 6 = .int .i64 (withinE v 1 1000) := hR 6 (by omega)
  have y7 : vs 7 = .pointer (some ⟨g5, 1, none⟩) := hR 7 (by omega)
  have y8 : vs 8 = .int .i64 t := hR 8 (by omega)
  have y9 : vs 9 = .int .i64 (withinE t 0 100000000) := hR 9 (by omega)
  obtain ⟨y10v, y10⟩ : ∃ v, vs 10 = v := ⟨_, rfl⟩
  have y11 : vs 11 = .int .i64 (flownE l p v t) := hR 11 (by omega)
  have y12 : vs 12 = .int .i64 (flownE l p v t) := hR 12 (by omega)
  simp only [List.range, List.range.loop, List.foldl_cons, List.foldl_nil, y0, y1, y2, y3, y4, y5, y6, y7, y8, y9, y10, y11, y12, List.drop_succ_cons, List.drop_zero]
  simp only [dstAt, List.getElem?_toArray, List.getElem?_cons_zero, List.getElem?_cons_succ, Option.bind_some, Act.put, List.setIfInBounds_toArray, List.set_cons_zero, List.set_cons_succ]
  clear y0 y1 y2 y3 y4 y5 y6 y7 y8 y9 y10 y11 y12 hR
  have hb := hE.below
  replace HB := Lib.hid (HB.out.trans (hb.mono HB.out.size))
  replace U := Lib.hid (U.out.keep hb)
  replace F := Lib.hid (F.out.keep hb)
  replace TB := Lib.hid (TB.out.keep hb)
  replace HL := Lib.hid (HL.out.keep hb)
  replace HP := Lib.hid (HP.out.keep hb)
  replace NN := Lib.hid (NN.out.below hb)
  replace HT := Lib.hid (HT.out.keep hb)
  clear hb
  clear hE
  obtain ⟨E, hE⟩ : ∃ E, E = flownE l p v t := ⟨_, rfl⟩
  obtain ⟨G, hG⟩ : ∃ G, G = pathsE l p v t := ⟨_, rfl⟩
  rw [← hE, ← hG]
  have HE := Lib.hid hE
  have HG := Lib.hid hG
  clear hE hG
  have HML : Hid (m1 ≤ 100000) := by
    show m1 ≤ _
    rw [← HT.out.1]
    unfold pathsL
    split
    · rw [Bell.flown_len, HL.out.1]; omega
    · simp
  by_cases h0 : E = 0
  · have h1 : (E == 0) = true := by simp [h0]
    subst h0
    have c0 := NN.out.cell 0
    have c1 := NN.out.cell 1
    simp only [List.getElem?_toArray, List.getElem?_cons_zero, List.getElem?_cons_succ] at c0 c1
    go_wp2_with fail
    clear c0 c1
    refine (refFlown_any A B n c pn pc l p v t w3 HL.out HP.out HE.out.symm).mono ?_
    rintro e w4 ⟨hrf, hb⟩
    obtain ⟨A2, m2, c2, he, htr⟩ := ref_fl HE.out.symm hrf
    rw [← HG.out] at he
    subst he
    have HR := Lib.hid htr
    clear hrf htr
    replace HB := Lib.hid (HB.out.trans (hb.mono HB.out.size))
    replace U := Lib.hid (U.out.keep hb)
    replace F := Lib.hid (F.out.keep hb)
    replace TB := Lib.hid (TB.out.keep hb)
    replace HL := Lib.hid (HL.out.keep hb)
    replace HP := Lib.hid (HP.out.keep hb)
    replace NN := Lib.hid (NN.out.below hb)
    replace HT := Lib.hid (HT.out.keep hb)
    clear hb
    go_wp2_with fail
    refine (steps_any B pn pc p w4 HP.out (by omega)).mono ?_
    rintro e wa ⟨As, cs, rfl, hs, hb⟩
    replace HB := Lib.hid (HB.out.trans (hb.mono HB.out.size))
    replace U := Lib.hid (U.out.keep hb)
    replace F := Lib.hid (F.out.keep hb)
    replace TB := Lib.hid (TB.out.keep hb)
    replace HL := Lib.hid (HL.out.keep hb)
    replace HP := Lib.hid (HP.out.keep hb)
    replace NN := Lib.hid (NN.out.below hb)
    replace HT := Lib.hid (HT.out.keep hb)
    replace HR := Lib.hid (HR.out.keep hb)
    clear hb
    go_wp2_with fail
    refine (CheckProcedure_any As pn cs p wa hs hpn).mono ?_
    rintro e wb ⟨rfl, hb⟩
    clear hs
    replace HB := Lib.hid (HB.out.trans (hb.mono HB.out.size))
    replace U := Lib.hid (U.out.keep hb)
    replace F := Lib.hid (F.out.keep hb)
    replace TB := Lib.hid (TB.out.keep hb)
    replace HL := Lib.hid (HL.out.keep hb)
    replace HP := Lib.hid (HP.out.keep hb)
    replace NN := Lib.hid (NN.out.below hb)
    replace HT := Lib.hid (HT.out.keep hb)
    replace HR := Lib.hid (HR.out.keep hb)
    clear hb
    go_wp2_with fail
    refine (refProc_full B pn pc p wb HP.out hpn).mono ?_
    rintro e wc ⟨rfl, hb⟩
    replace HB := Lib.hid (HB.out.trans (hb.mono HB.out.size))
    replace U := Lib.hid (U.out.keep hb)
    replace F := Lib.hid (F.out.keep hb)
    replace TB := Lib.hid (TB.out.keep hb)
    replace HL := Lib.hid (HL.out.keep hb)
    replace HP := Lib.hid (HP.out.keep hb)
    replace NN := Lib.hid (NN.out.below hb)
    replace HT := Lib.hid (HT.out.keep hb)
    replace HR := Lib.hid (HR.out.keep hb)
    clear hb
    go_wp2_with fail
    refine (back_any A1 m1 c1 (pathsL l p v t) wc HT.out HML.out).mono ?_
    rintro e wd ⟨Ab, cb, rfl, hbk, _, hb⟩
    replace HB := Lib.hid (HB.out.trans (hb.mono HB.out.size))
    replace U := Lib.hid (U.out.keep hb)
    replace F := Lib.hid (F.out.keep hb)
    replace TB := Lib.hid (TB.out.keep hb)
    replace HL := Lib.hid (HL.out.keep hb)
    replace HP := Lib.hid (HP.out.keep hb)
    replace NN := Lib.hid (NN.out.below hb)
    replace HT := Lib.hid (HT.out.keep hb)
    replace HR := Lib.hid (HR.out.keep hb)
    clear hb
    go_wp2_with fail
    refine (refSameTrack_any Ab A2 m1 m2 cb c2 (pathsL l p v t) (pathsL l p v t) wd hbk HR.out HML.out).mono ?_
    rintro e we ⟨⟨b, rfl, hbb⟩, hb⟩
    have hbt : b = true := hbb.2 rfl
    subst hbt
    clear hbb hbk
    replace HB := Lib.hid (HB.out.trans (hb.mono HB.out.size))
    replace U := Lib.hid (U.out.keep hb)
    replace F := Lib.hid (F.out.keep hb)
    replace TB := Lib.hid (TB.out.keep hb)
    clear hb
    go_wp2_with fail
    refine (awake2_any we U.out F.out TB.out).mono ?_
    rintro e wZ ⟨rfl, hb⟩
    replace HB := Lib.hid (HB.out.trans (hb.mono HB.out.size))
    clear hb
    go_wp2
    go_ret
    exact ⟨rfl, HB.out⟩
  · have h1 : (E == 0) = false := by simp [h0]
    have hGE : G = E := by rw [HG.out]; unfold pathsE; rw [if_neg (by rw [← HE.out]; exact h0), HE.out]
    have hnil : pathsL l p v t = [] := by unfold pathsL; rw [if_neg (by rw [← HG.out, hGE]; exact h0)]
    have HR : Hid (TrAt w3 none 0 (pathsL l p v t)) := by show TrAt _ _ _ _; rw [hnil]; exact nil_trk _
    subst hGE
    clear hnil
    go_wp2_with fail
    refine (steps_any B pn pc p w3 HP.out (by omega)).mono ?_
    rintro e wa ⟨As, cs, rfl, hs, hb⟩
    replace HB := Lib.hid (HB.out.trans (hb.mono HB.out.size))
    replace U := Lib.hid (U.out.keep hb)
    replace F := Lib.hid (F.out.keep hb)
    replace TB := Lib.hid (TB.out.keep hb)
    replace HL := Lib.hid (HL.out.keep hb)
    replace HP := Lib.hid (HP.out.keep hb)
    replace NN := Lib.hid (NN.out.below hb)
    replace HT := Lib.hid (HT.out.keep hb)
    replace HR := Lib.hid (HR.out.keep hb)
    clear hb
    go_wp2_with fail
    refine (CheckProcedure_any As pn cs p wa hs hpn).mono ?_
    rintro e wb ⟨rfl, hb⟩
    clear hs
    replace HB := Lib.hid (HB.out.trans (hb.mono HB.out.size))
    replace U := Lib.hid (U.out.keep hb)
    replace F := Lib.hid (F.out.keep hb)
    replace TB := Lib.hid (TB.out.keep hb)
    replace HL := Lib.hid (HL.out.keep hb)
    replace HP := Lib.hid (HP.out.keep hb)
    replace NN := Lib.hid (NN.out.below hb)
    replace HT := Lib.hid (HT.out.keep hb)
    replace HR := Lib.hid (HR.out.keep hb)
    clear hb
    go_wp2_with fail
    refine (refProc_full B pn pc p wb HP.out hpn).mono ?_
    rintro e wc ⟨rfl, hb⟩
    replace HB := Lib.hid (HB.out.trans (hb.mono HB.out.size))
    replace U := Lib.hid (U.out.keep hb)
    replace F := Lib.hid (F.out.keep hb)
    replace TB := Lib.hid (TB.out.keep hb)
    replace HL := Lib.hid (HL.out.keep hb)
    replace HP := Lib.hid (HP.out.keep hb)
    replace NN := Lib.hid (NN.out.below hb)
    replace HT := Lib.hid (HT.out.keep hb)
    replace HR := Lib.hid (HR.out.keep hb)
    clear hb
    go_wp2_with fail
    refine (back_any A1 m1 c1 (pathsL l p v t) wc HT.out HML.out).mono ?_
    rintro e wd ⟨Ab, cb, rfl, hbk, _, hb⟩
    replace HB := Lib.hid (HB.out.trans (hb.mono HB.out.size))
    replace U := Lib.hid (U.out.keep hb)
    replace F := Lib.hid (F.out.keep hb)
    replace TB := Lib.hid (TB.out.keep hb)
    replace HL := Lib.hid (HL.out.keep hb)
    replace HP := Lib.hid (HP.out.keep hb)
    replace NN := Lib.hid (NN.out.below hb)
    replace HT := Lib.hid (HT.out.keep hb)
    replace HR := Lib.hid (HR.out.keep hb)
    clear hb
    go_wp2_with fail
    refine (refSameTrack_any Ab none m1 0 cb 0 (pathsL l p v t) (pathsL l p v t) wd hbk HR.out HML.out).mono ?_
    rintro e we ⟨⟨b, rfl, hbb⟩, hb⟩
    have hbt : b = true := hbb.2 rfl
    subst hbt
    clear hbb hbk
    replace HB := Lib.hid (HB.out.trans (hb.mono HB.out.size))
    replace U := Lib.hid (U.out.keep hb)
    replace F := Lib.hid (F.out.keep hb)
    replace TB := Lib.hid (TB.out.keep hb)
    clear hb
    go_wp2_with fail
    refine (awake2_any we U.out F.out TB.out).mono ?_
    rintro e wZ ⟨rfl, hb⟩
    replace HB := Lib.hid (HB.out.trans (hb.mono HB.out.size))
    clear hb
    go_wp2
    go_ret
    exact ⟨rfl, HB.out⟩
end Go.Proofs.YtmafmebcgmegeaaGreatDoor
