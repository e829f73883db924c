/- Part. -/
import Derived.Test.YtmafmebcgmegeaaGreatDoorGz1
import Derived.Test.YtmafmebcgmegeaaGreatDoorGz29
import Derived.Test.YtmafmebcgmegeaaGreatDoorGz30
import Derived.Test.YtmafmebcgmegeaaGreatDoorGz26
namespace Go.Proofs.YtmafmebcgmegeaaGreatDoor
open Go.RowKit Go.Sort
theorem app_noneW {P : Program} (W : World) (t ty e : TypeId) (i : TypeInfo) (hi : P.info? e = some i) (ht : P.underlying t = some (.slice e)) (b0 : Addr) (p : Option Addr) (c : Nat) :
  (Builtin.append_ #[t, t] ty #[.slice (some b0) 0 0, .slice p 0 c]).run P W = .ok (.slice (some b0) 0 0) W := by
 cases p <;> simp [Builtin.append_, run_underlying ht, sizeOf, typeInfo, hi, Builtin.lenOf, Builtin.firstCells, loadCells, loadCellsFrom, storeCells]
def OwnI0 (w : World) (base : Nat) (v : Value) (n : Nat) (zs : List Int) : Prop := ∃ A c, v = .slice A n c /\ zs.length = n /\ (0 < n -> OwnI w base v zs) /\ n <= c /\ c <= 9223372036854775807
theorem OwnI0.imp {w w' : World} {base n : Nat} {v : Value} {zs : List Int} (h : OwnI0 w base v n zs) (k : OwnI w base v zs -> OwnI w' base v zs) : OwnI0 w' base v n zs := by
 obtain ⟨A, c, h1, h2, h3, h4⟩ := h; exact ⟨A, c, h1, h2, fun h => k (h3 h), h4⟩
theorem OwnI0.sl {w : World} {base n : Nat} {v : Value} {zs : List Int} (h : OwnI0 w base v n zs) : ∃ A c, v = .slice A n c := by
 obtain ⟨A, c, h1, _⟩ := h; exact ⟨A, c, h1⟩
theorem OwnI0.at_ {w : World} {base n c : Nat} {A : Option Addr} {zs : List Int} (h : OwnI0 w base (.slice A n c) n zs) : IntsAt w A n zs := by
 obtain ⟨_, _, _, h2, h3, _⟩ := h; rcases Nat.eq_zero_or_pos n with rfl | hn
 ·exact ⟨h2, fun h => by omega⟩
 ·exact (h3 hn).at_
theorem OwnI0.cap {w : World} {base n c : Nat} {A : Option Addr} {zs : List Int} (h : OwnI0 w base (.slice A n c) n zs) : n <= c /\ c <= 9223372036854775807 := by
 obtain ⟨_, _, h1, _, _, h4⟩ := h
 injection h1 with _ _ e
 subst e; exact h4
def GR.ints0 (B n : Nat) (zs : List Int) : GR := ⟨fun v W => OwnI0 W B v n zs, fun h hE => h.imp fun k => k.below hE⟩
def GR.set0 (B : Nat) (p : Int) (n : Nat) (zs : List Int) : GR := ⟨fun v W => ∃ A c, v = .agg #[.int .i64 p, .slice A n c] /\ OwnI0 W B (.slice A n c) n zs, fun ⟨A, c, e, h⟩ hE => ⟨A, c, e, h.imp fun k => k.below hE⟩⟩
def GR.oneR0 (B : Nat) (p : Int) (n : Nat) (zs : List Int) : GR := ⟨fun v W => ∃ g A c, v = .slice (some ⟨g, 0, none⟩) 1 1 /\ Blk W g 145 #[.int .i64 p, .slice A n c] /\ OwnI0 W B (.slice A n c) n zs, fun ⟨g, A, c, e, h1, h2⟩ hE => ⟨g, A, c, e, h1.below hE, h2.imp fun k => k.below hE⟩⟩
theorem gs_copy0 {o : Oper} {a : Act} {W : World} {Q : Exit -> Act -> World -> Prop} {B n c : Nat} {A : Option Addr} {zs : List Int} (s x : Operand) (ho : o.op = .call { callee := .builtin .append, args := #[s, x], argTypes := #[22, 22] })
  (hs : ∃ g, a.eval s = .slice (some ⟨g, 0, none⟩) 0 0) (hx : a.eval x = .slice A n c) (hz : IntsAt W A n zs) (hn2 : n <= 100000) (hB : B <= W.heap.size) :
  Oper.wp Tryz.prog o a W (fun a' W' => ∃ v, a' = a.put o.dst v /\ Ext W W' /\ (GR.ints0 B n zs).r v W') Q := by
 rcases Nat.eq_zero_or_pos n with rfl | hn
 ·obtain ⟨i0, hi, hz0, hz1, hz2⟩ := info_parts infoInt; obtain ⟨g, hg⟩ := hs; refine gs_val (v := .slice (some ⟨g, 0, none⟩) 0 0) (W' := W) ?_ (Ext.refl _) ⟨_, 0, rfl, hz.1, fun h => by omega, by omega, by omega⟩
  simp [execOp, ho, resolve, invoke, builtin, hg, hx, app_noneW W 22 o.type 3 i0 hi Tryz.underlying22, Result.andThen]
 ·obtain ⟨b, off, rfl, _⟩ := hz.2 hn; refine Oper.wp_mono ?_ (gs_copy s x ho hs hx hz hn hn2 hB); rintro a' W' ⟨v, rfl, hE, hr⟩; have ho : OwnI W' B v zs := hr
  obtain ⟨g, cp, hv, _⟩ : ∃ g cp, v = .slice (some ⟨g, 0, none⟩) n cp /\ True := by
   rcases ho.form with ⟨h1, h2⟩ | ⟨g, cap, h1, _⟩
   ·rw [h2] at hz; have := hz.1; simp at this; omega
   ·exact ⟨g, cap, by rw [h1, hz.1], trivial⟩
  subst hv; obtain ⟨_, m1, m2⟩ := ho.room hn; exact ⟨_, rfl, hE, _, cp, rfl, hz.1, fun _ => ho, m1, m2⟩
structure OwnTG (w : World) (base : Nat) (sh : List Int) (T : Bell.Ty) (A1 : Option Addr) (sn c1 : Nat) (A2 : Option Addr) (qn c2 : Nat) (A3 : Option Addr) (gn c3 : Nat) (P : List (Int × Value)) : Prop where
 sh : OwnI0 w base (.slice A1 sn c1) sn sh
 sq : OwnI0 w base (.slice A2 qn c2) qn T.squares
 row : w.ownsRow base 145 2 (.slice A3 gn c3) gn (stCells P)
 len : P.length = gn
 each : ∀ j, j < gn -> (P.getD j (0, undef)).1 = Bell.ePow T.sets j /\ OwnI0 w base (P.getD j (0, undef)).2 ((T.sets.getD j (0, [])).2).length ((T.sets.getD j (0, [])).2)
theorem OwnTG.high {w W : World} {base : Nat} {sh : List Int} {T : Bell.Ty} {A1 : Option Addr} {sn c1 : Nat} {A2 : Option Addr} {qn c2 : Nat} {A3 : Option Addr} {gn c3 : Nat} {P : List (Int × Value)} (h : OwnTG w base sh T A1 sn c1 A2 qn c2 A3 gn c3 P) (k : ∀ b, base <= b -> b < w.heap.size -> W.heap[b]? = w.heap[b]?) : OwnTG W base sh T A1 sn c1 A2 qn c2 A3 gn c3 P :=
 ⟨h.sh.imp fun h => row_high h k, h.sq.imp fun h => row_high h k, row_high h.row k, h.len, fun j hj => ⟨(h.each j hj).1, (h.each j hj).2.imp fun h => row_high h k⟩⟩
set_option maxHeartbeats 1000000 in
set_option maxRecDepth 100000 in
theorem refOwned_gen {nm : ByteArray} {sh : List Int} {T : Bell.Ty} {sa qa ga : Option Addr} {sn sc qn qc gn gc : Nat} {cs : Array Value} (w : World) (hT : RTy w cs nm sh T sa sn sc qa qn qc ga gn gc) (hsn : sn <= 100000) (hqn : qn <= 100000) (hgn : gn <= 100000) (hen : ∀ k, k < gn -> ((T.sets.getD k (0, [])).2).length <= 100000) :
  Calls Tryz.prog 81 #[.agg cs] w fun e w' => ∃ (base : Nat) (A1 A2 A3 : Option Addr) (c1 c2 c3 : Nat) (P : List (Int × Value)), e = .returned (.agg (tyW nm (.slice A1 sn c1) T (.slice A2 qn c2) (.slice A3 gn c3))) /\ w.heap.size <= base /\ OwnTG w' base sh T A1 sn c1 A2 qn c2 A3 gn c3 P /\ Below w.heap.size w w' := by
 obtain ⟨i0, hi, hz0, hz1, hz2⟩ := info_parts infoInt; have q1 := hT.c1; have q11 := hT.c11; have q12 := hT.c12; have HL := lh hT.sets; have HEN := lh hen; have HSh := lh hT.shares; have HSq := lh hT.squares; have HCS : Hid (cs = tyV nm sa sn sc T qa qn qc ga gn gc) := hT.cells; have IT : Hid ((Tryz.prog.info? 26).map (·.size) = some cs.size) := by show _ = _; rw [hT.cells]; kernel_rfl
 have TS : Hid (13 = cs.size) := by show _ = _; rw [hT.cells]; rfl
 have TO : Hid (cs.all (fun u => u.oneCell') = true) := by show _ = _; rw [hT.cells]; simp [tyV, Value.oneCell']
 clear hT hen
 go_enter Tryz.func81, Tryz.ntmps81
 go_upto_region 1 with fail
 obtain ⟨w1, hw1⟩ : ∃ W, W = (w.alloc (.cells cs 26)).alloc (.cells #[.string ⟨#[]⟩, .slice none 0 0, .int .i64 0, .int .i64 0, .int .i64 0, .int .i64 0, .int .i64 0, .int .i64 0, .int .i64 0, .int .i64 0, .int .i64 0, .slice none 0 0, .slice none 0 0] 26) := ⟨_, rfl⟩; rw [<- hw1]; have T1 : Hid (Blk w1 w.heap.size 26 cs) := by show Blk _ _ _ _; rw [hw1]; exact (Blk.new _ _ _).alloc _
 have O1 : Hid (Blk w1 (w.heap.size + 1) 26 #[.string ⟨#[]⟩, .slice none 0 0, .int .i64 0, .int .i64 0, .int .i64 0, .int .i64 0, .int .i64 0, .int .i64 0, .int .i64 0, .int .i64 0, .int .i64 0, .slice none 0 0, .slice none 0 0]) := by show Blk _ _ _ _; rw [hw1]; exact Blk.at_size _ _ (by simp)
 have HB1 : Hid (Below w.heap.size w w1) := by show Below _ _ _; rw [hw1]; exact ((Below.refl _ _).alloc (Nat.le_refl _) _).alloc (by simp) _
 obtain ⟨g, hg⟩ : ∃ g, g = w.heap.size := ⟨_, rfl⟩; obtain ⟨g2, hg2⟩ : ∃ g2, g2 = w.heap.size + 1 := ⟨_, rfl⟩; rw [<- hg2] at O1 ⊢; rw [<- hg] at T1 ⊢; have HG2 : Hid (w.heap.size <= g2) := by show _ <= _; omega
 clear hw1 hg hg2; obtain ⟨g3, hg3⟩ : ∃ x, x = w1.heap.size := ⟨_, rfl⟩
 go_upto_region 2 with (first | (refine wpList_load_row rfl 26 _ rfl g rfl 26 cs (0, 0) _ T1.out Tryz.underlying26 rfl IT.out ?_) | (refine wpList_store_row rfl 26 _ _ rfl w1.heap.size cs rfl rfl 26 _ (Blk.new w1 26 #[.string ⟨#[]⟩, .slice none 0 0, .int .i64 0, .int .i64 0, .int .i64 0, .int .i64 0, .int .i64 0, .int .i64 0, .int .i64 0, .int .i64 0, .int .i64 0, .slice none 0 0, .slice none 0 0]) (by exact IT.out) TS.out TO.out ?_))
 obtain ⟨w2, hw2⟩ : ∃ W, W = (w1.alloc (.cells #[.string ⟨#[]⟩, .slice none 0 0, .int .i64 0, .int .i64 0, .int .i64 0, .int .i64 0, .int .i64 0, .int .i64 0, .int .i64 0, .int .i64 0, .int .i64 0, .slice none 0 0, .slice none 0 0] 26)).setRow w1.heap.size cs := ⟨_, rfl⟩; rw [<- hw2]; have hb2 : Below w1.heap.size w1 w2 := by rw [hw2]; exact ((Below.refl _ _).alloc (Nat.le_refl _) _).setRow' (Nat.le_refl _) _
 have C2 : Hid (Blk w2 g3 26 cs) := by show Blk _ _ _ _; rw [hw2, hg3]; exact (Blk.new w1 26 #[.string ⟨#[]⟩, .slice none 0 0, .int .i64 0, .int .i64 0, .int .i64 0, .int .i64 0, .int .i64 0, .int .i64 0, .int .i64 0, .int .i64 0, .int .i64 0, .slice none 0 0, .slice none 0 0]).setRow _
 have T2 := lh (T1.out.below hb2); have O2 := lh (O1.out.below hb2); have HB2 := lh (HB1.out.trans (hb2.mono HB1.out.size)); have HG3 : Hid (w.heap.size <= g3) := by show _ <= _; rw [hg3]; exact HB1.out.size
 rw [<- hg3]; have hne1 : g ≠ g3 := by have := lt_of_block T1.out; omega
 have hne2 : g2 ≠ g3 := by have := lt_of_block O1.out; omega
 have HW2 : Hid (w.heap.size <= w2.heap.size) := HB2.out.size; clear hw2 hb2 hg3 T1 O1 HB1; refine wp_region_grow 9 (by kernel_rfl) (by kernel_rfl) [GR.bare, GR.eq (.pointer (some ⟨g, 1, none⟩)), GR.eq (.slice sa sn sc), GR.ints0 w2.heap.size sn sh, GR.bare, GR.eq (.pointer (some ⟨g, 11, none⟩)), GR.eq (.slice qa qn qc), GR.ints0 w2.heap.size qn T.squares, GR.eq (.pointer (some ⟨g3, 1, none⟩))] 45 rfl (by kernel_rfl) ?_ ?_
 ·refine ⟨?_, ?_, ?_, ?_, ?_, ?_, ?_, ?_, ?_, trivial⟩
  ·intro a W hE hd ho; refine gs_val (v := .slice (some ⟨W.heap.size, 0, none⟩) 0 0) (W' := W.alloc (.cells #[] 3)) (by go_simp) ((Below.refl _ _).alloc (Nat.le_refl _) _) ⟨_, rfl⟩
  ·intro a W hE hd ho; have e1 : a.tmps[1]?.getD undef = .pointer (some ⟨g, 0, none⟩) := ho 1 (by kernel_rfl); exact gs_same (v := .pointer (some ⟨g, 1, none⟩)) (by go_simp) rfl
  ·intro a W hE hd ho; have e7 : a.tmps[7]?.getD undef = .pointer (some ⟨g, 1, none⟩) := hd 1 7 (by kernel_rfl) (by kernel_rfl); have c1 := ((T2.out.below hE).cell 1).trans q1; exact gs_same (v := .slice sa sn sc) (by go_simp) rfl
  ·intro a W hE hd ho; have e8 : a.tmps[8]?.getD undef = .slice sa sn sc := hd 2 8 (by kernel_rfl) (by kernel_rfl); have es : ∃ g, a.tmps[6]?.getD undef = .slice (some ⟨g, 0, none⟩) 0 0 := hd 0 6 (by kernel_rfl) (by kernel_rfl); exact gs_copy0 (.tmp 6) (.tmp 8) rfl (by rw [eval_getD]; exact es) ((eval_getD _ _).trans e8) (HSh.out.keep (HB2.out.trans (hE.below.mono HB2.out.size))) (by omega) hE.below.size
  ·intro a W hE hd ho; refine gs_val (v := .slice (some ⟨W.heap.size, 0, none⟩) 0 0) (W' := W.alloc (.cells #[] 3)) (by go_simp) ((Below.refl _ _).alloc (Nat.le_refl _) _) ⟨_, rfl⟩
  ·intro a W hE hd ho; have e1 : a.tmps[1]?.getD undef = .pointer (some ⟨g, 0, none⟩) := ho 1 (by kernel_rfl); exact gs_same (v := .pointer (some ⟨g, 11, none⟩)) (by go_simp) rfl
  ·intro a W hE hd ho; have e11 : a.tmps[11]?.getD undef = .pointer (some ⟨g, 11, none⟩) := hd 5 11 (by kernel_rfl) (by kernel_rfl); have c11 := ((T2.out.below hE).cell 11).trans q11; exact gs_same (v := .slice qa qn qc) (by go_simp) rfl
  ·intro a W hE hd ho; have e12 : a.tmps[12]?.getD undef = .slice qa qn qc := hd 6 12 (by kernel_rfl) (by kernel_rfl); have es : ∃ g, a.tmps[10]?.getD undef = .slice (some ⟨g, 0, none⟩) 0 0 := hd 4 10 (by kernel_rfl) (by kernel_rfl); exact gs_copy0 (.tmp 10) (.tmp 12) rfl (by rw [eval_getD]; exact es) ((eval_getD _ _).trans e12) (HSq.out.keep (HB2.out.trans (hE.below.mono HB2.out.size))) (by omega) hE.below.size
  ·intro a W hE hd ho; have e3 : a.tmps[3]?.getD undef = .pointer (some ⟨g3, 0, none⟩) := ho 3 (by kernel_rfl); exact gs_same (v := .pointer (some ⟨g3, 1, none⟩)) (by go_simp) rfl
 intro vs w3 hE hR; obtain ⟨b0, y0⟩ : ∃ g, vs 0 = .slice (some ⟨g, 0, none⟩) 0 0 := hR 0 (by omega); have y1 : vs 1 = .pointer (some ⟨g, 1, none⟩) := hR 1 (by omega); have y2 : vs 2 = .slice sa sn sc := hR 2 (by omega); have o1 : OwnI0 w3 w2.heap.size (vs 3) sn sh := hR 3 (by omega); obtain ⟨A1, c1, y3⟩ : ∃ A c, vs 3 = .slice A sn c := o1.sl; rw [y3] at o1; obtain ⟨b4, y4⟩ : ∃ g, vs 4 = .slice (some ⟨g, 0, none⟩) 0 0 := hR 4 (by omega); have y5 : vs 5 = .pointer (some ⟨g, 11, none⟩) := hR 5 (by omega); have y6 : vs 6 = .slice qa qn qc := hR 6 (by omega); have o2 : OwnI0 w3 w2.heap.size (vs 7) qn T.squares := hR 7 (by omega); obtain ⟨A2, c2, y7⟩ : ∃ A c, vs 7 = .slice A qn c := o2.sl; rw [y7] at o2; have y8 : vs 8 = .pointer (some ⟨g3, 1, none⟩) := hR 8 (by omega); simp only [List.range, List.range.loop, List.foldl_cons, List.foldl_nil, y0, y1, y2, y3, y4, y5, y6, y7, y8, List.drop_succ_cons, List.drop_zero]
 simp only [dstAt, List.getElem?_toArray, List.getElem?_cons_zero, List.getElem?_cons_succ, Option.bind_some, Act.put, List.setIfInBounds_toArray, List.set_cons_zero, List.set_cons_succ]; clear y0 y1 y2 y3 y4 y5 y6 y7 y8 hR; have hb3 := hE.below; have HP3 := lh (C2.out.below hb3); have OA := lh o1; have OB := lh o2; have T3 := lh (T2.out.below hb3); have O3 := lh (O2.out.below hb3); have HB3 := lh (HB2.out.trans (hb3.mono HB2.out.size)); have HB23 : Hid (Below w2.heap.size w2 w3) := hb3; have d1 := HP3.out.cell 1; have d11 := HP3.out.cell 11; have d12 := HP3.out.cell 12; have f1 := HP3.out.frozen 1; have f11 := HP3.out.frozen 11; have f12 := HP3.out.frozen 12; rw [q1] at d1; rw [q11] at d11; rw [q12] at d12; clear hE hb3 o1 o2 C2 O2 HB2
 go_wp2_with fail
 obtain ⟨w4, hw4⟩ : ∃ W, W = ((w3.setCell ⟨g3, 1, none⟩ (.slice A1 sn c1)).setCell ⟨g3, 11, none⟩ (.slice A2 qn c2)).setCell ⟨g3, 12, none⟩ (.slice none 0 0) := ⟨_, rfl⟩; rw [<- hw4]; have HG3' : Hid (w2.heap.size <= w2.heap.size) := Nat.le_refl _
 have P4 : Hid (Blk w4 g3 26 (tyW nm (.slice A1 sn c1) T (.slice A2 qn c2) (.slice none 0 0))) := by
  show Blk _ _ _ _
  rw [hw4]; have h := ((HP3.out.set_ 1 (.slice A1 sn c1)).set_ 11 (.slice A2 qn c2)).set_ 12 (.slice none 0 0); rw [HCS.out] at h; exact h
 have OA4 : Hid (OwnI0 w4 w2.heap.size (.slice A1 sn c1) sn sh) := by
  show OwnI0 _ _ _ _ _
  rw [hw4]; exact OA.out.imp fun h => row_cell (row_cell (row_cell h HP3.out (by decide) 1 _) (HP3.out.set_ 1 _) (by decide) 11 _) ((HP3.out.set_ 1 _).set_ 11 _) (by decide) 12 _
 have OB4 : Hid (OwnI0 w4 w2.heap.size (.slice A2 qn c2) qn T.squares) := by
  show OwnI0 _ _ _ _ _
  rw [hw4]; exact OB.out.imp fun h => row_cell (row_cell (row_cell h HP3.out (by decide) 1 _) (HP3.out.set_ 1 _) (by decide) 11 _) ((HP3.out.set_ 1 _).set_ 11 _) (by decide) 12 _
 have HB4 : Hid (Below w.heap.size w w4) := by
  show Below _ _ _
  rw [hw4]; exact ((HB3.out.setCell HG3.out _).setCell HG3.out _).setCell HG3.out _
 have T4 : Hid (Blk w4 g 26 cs) := by
  show Blk _ _ _ _
  rw [hw4]; exact ((T3.out.cell_far hne1 _).cell_far hne1 _).cell_far hne1 _
 have O4 : Hid (Blk w4 g2 26 #[.string ⟨#[]⟩, .slice none 0 0, .int .i64 0, .int .i64 0, .int .i64 0, .int .i64 0, .int .i64 0, .int .i64 0, .int .i64 0, .int .i64 0, .int .i64 0, .slice none 0 0, .slice none 0 0]) := by
  show Blk _ _ _ _
  rw [hw4]; exact ((O3.out.cell_far hne2 _).cell_far hne2 _).cell_far hne2 _
 have HB4s : Hid (w2.heap.size <= w4.heap.size) := by
  show _ <= _
  rw [hw4]; have := HB23.out.size
  simpa using this
 clear hw4 d1 d11 d12 f1 f11 f12 HP3 OA OB T3 O3 HB3 HB23 HG3'; go_wp2
 go_loopw [4] (fun i wr => ∃ (k : Nat) (P : List (Int × Value)) (vs : Value), k <= gn /\ i = .int .i64 k /\ P.length = k /\ Hid (Blk wr g3 26 (tyW nm (.slice A1 sn c1) T (.slice A2 qn c2) vs)) /\ Hid (wr.ownsRow w2.heap.size 145 2 vs k (stCells P)) /\ Hid (∀ j, j < k -> (P.getD j (0, undef)).1 = Bell.ePow T.sets j /\ OwnI0 wr w2.heap.size (P.getD j (0, undef)).2 ((T.sets.getD j (0, [])).2).length ((T.sets.getD j (0, [])).2)) /\ Hid (OwnI0 wr w2.heap.size (.slice A1 sn c1) sn sh) /\ Hid (OwnI0 wr w2.heap.size (.slice A2 qn c2) qn T.squares) /\ Hid (w2.heap.size <= wr.heap.size) /\ Hid (Blk wr g 26 cs) /\ Hid (Blk wr g2 26 #[.string ⟨#[]⟩, .slice none 0 0, .int .i64 0, .int .i64 0, .int .i64 0, .int .i64 0, .int .i64 0, .int .i64 0, .int .i64 0, .int .i64 0, .int .i64 0, .slice none 0 0, .slice none 0 0]) /\ Hid (Below w.heap.size w wr)) (fun i _ => gn - (intOf i).toNat)
 case atStart => exact ⟨0, [], .slice none 0 0, Nat.zero_le _, rfl, rfl, P4.out, World.ownsRow_nil _ _ _ _, (fun j hj => by omega), OA4.out, OB4.out, HB4s.out, T4.out, O4.out, HB4.out⟩
 case round =>
  clear OA4 OB4 HB4s P4 T4 O4 HB4; obtain ⟨k, P, vs, hk, rfl, hPk, hP3, hrow, heach, hA, hB, hS, hT, hO, hbw⟩ := hrel; have HB := hbw; have tg := (hT.out.cell 12).trans q12
  by_cases hlt : k < gn
  ·obtain ⟨gb, go, rfl, hsets⟩ := (HL.out.keep HB.out).2 (by omega); obtain ⟨ea, en, ec, a1, a2, a3⟩ := hsets.2 k hlt; clear hsets; have hen5 : en <= 100000 := by have h1 := HEN.out k hlt; rw [a3.1] at h1; exact h1
   have hel : ((T.sets.getD k (0, [])).2).length = en := a3.1; have HLE := lh hel; clear hel; obtain ⟨p, hp⟩ : ∃ p, p = Bell.ePow T.sets k := ⟨_, rfl⟩; rw [<- hp] at a1; have HPP := lh hp; have A1' := lh a1; have A2' := lh a2; have A3 := lh a3; have hlti : (k : Int) < (gn : Int) := by omega
   clear hp a1 a2 a3
   go_upto_region 6 with fail
   refine wp_region_grow 18 (by kernel_rfl) (by kernel_rfl) [GR.eq (.pointer (some ⟨g3, 12, none⟩)), GR.eq (vs), GR.eq (.pointer (some ⟨g, 12, none⟩)), GR.eq (.slice (some ⟨gb, go, none⟩) gn gc), GR.eq (.int .i64 k), GR.eq (.pointer (some ⟨gb, go + k * 2, none⟩)), GR.eq (.pointer (some ⟨gb, go + k * 2, none⟩)), GR.eq (.int .i64 p), GR.bare, GR.eq (.pointer (some ⟨g, 12, none⟩)), GR.eq (.slice (some ⟨gb, go, none⟩) gn gc), GR.eq (.int .i64 k), GR.eq (.pointer (some ⟨gb, go + k * 2, none⟩)), GR.eq (.pointer (some ⟨gb, go + k * 2 + 1, none⟩)), GR.eq (.slice ea en ec), GR.ints0 w2.heap.size en ((T.sets.getD k (0, [])).2), GR.set0 w2.heap.size p en ((T.sets.getD k (0, [])).2), GR.oneR0 w2.heap.size p en ((T.sets.getD k (0, [])).2)] 45 rfl (by kernel_rfl) ?_ ?_
   ·refine ⟨?_, ?_, ?_, ?_, ?_, ?_, ?_, ?_, ?_, ?_, ?_, ?_, ?_, ?_, ?_, ?_, ?_, ?_, trivial⟩
    ·intro a W hE hd ho; have e3 : a.tmps[3]?.getD undef = .pointer (some ⟨g3, 0, none⟩) := ho 3 (by kernel_rfl); exact gs_same (v := .pointer (some ⟨g3, 12, none⟩)) (by go_simp) rfl
    ·intro a W hE hd ho; have e24 : a.tmps[24]?.getD undef = .pointer (some ⟨g3, 12, none⟩) := hd 0 24 (by kernel_rfl) (by kernel_rfl); have c12 : W.cell? ⟨g3, 12, none⟩ = some vs := (hP3.out.below hE).cell 12; exact gs_same (v := vs) (by go_simp) rfl
    ·intro a W hE hd ho; have e1 : a.tmps[1]?.getD undef = .pointer (some ⟨g, 0, none⟩) := ho 1 (by kernel_rfl); exact gs_same (v := .pointer (some ⟨g, 12, none⟩)) (by go_simp) rfl
    ·intro a W hE hd ho; have e26 : a.tmps[26]?.getD undef = .pointer (some ⟨g, 12, none⟩) := hd 2 26 (by kernel_rfl) (by kernel_rfl); have c12 := ((hT.out.below hE).cell 12).trans q12; exact gs_same (v := .slice (some ⟨gb, go, none⟩) gn gc) (by go_simp) rfl
    ·intro a W hE hd ho; have e4 : a.tmps[4]?.getD undef = .int .i64 k := ho 4 (by kernel_rfl); exact gs_same (v := .int .i64 k) (by go_simp) rfl
    ·intro a W hE hd ho; have e27 : a.tmps[27]?.getD undef = .slice (some ⟨gb, go, none⟩) gn gc := hd 3 27 (by kernel_rfl) (by kernel_rfl); have e28 : a.tmps[28]?.getD undef = .int .i64 k := hd 4 28 (by kernel_rfl) (by kernel_rfl); exact gs_same (v := .pointer (some ⟨gb, go + k * 2, none⟩)) (by go_simp) rfl
    ·intro a W hE hd ho; have e29 : a.tmps[29]?.getD undef = .pointer (some ⟨gb, go + k * 2, none⟩) := hd 5 29 (by kernel_rfl) (by kernel_rfl); exact gs_same (v := .pointer (some ⟨gb, go + k * 2, none⟩)) (by go_simp) rfl
    ·intro a W hE hd ho; have e30 : a.tmps[30]?.getD undef = .pointer (some ⟨gb, go + k * 2, none⟩) := hd 6 30 (by kernel_rfl) (by kernel_rfl); have ca := cell_kept hE A1'.out; exact gs_same (v := .int .i64 p) (by go_simp) rfl
    ·intro a W hE hd ho; refine gs_val (v := .slice (some ⟨W.heap.size, 0, none⟩) 0 0) (W' := W.alloc (.cells #[] 3)) (by go_simp) ((Below.refl _ _).alloc (Nat.le_refl _) _) ⟨_, rfl⟩
    ·intro a W hE hd ho; have e1 : a.tmps[1]?.getD undef = .pointer (some ⟨g, 0, none⟩) := ho 1 (by kernel_rfl); exact gs_same (v := .pointer (some ⟨g, 12, none⟩)) (by go_simp) rfl
    ·intro a W hE hd ho; have e33 : a.tmps[33]?.getD undef = .pointer (some ⟨g, 12, none⟩) := hd 9 33 (by kernel_rfl) (by kernel_rfl); have c12 := ((hT.out.below hE).cell 12).trans q12; exact gs_same (v := .slice (some ⟨gb, go, none⟩) gn gc) (by go_simp) rfl
    ·intro a W hE hd ho; have e4 : a.tmps[4]?.getD undef = .int .i64 k := ho 4 (by kernel_rfl); exact gs_same (v := .int .i64 k) (by go_simp) rfl
    ·intro a W hE hd ho; have e34 : a.tmps[34]?.getD undef = .slice (some ⟨gb, go, none⟩) gn gc := hd 10 34 (by kernel_rfl) (by kernel_rfl); have e35 : a.tmps[35]?.getD undef = .int .i64 k := hd 11 35 (by kernel_rfl) (by kernel_rfl); exact gs_same (v := .pointer (some ⟨gb, go + k * 2, none⟩)) (by go_simp) rfl
    ·intro a W hE hd ho; have e36 : a.tmps[36]?.getD undef = .pointer (some ⟨gb, go + k * 2, none⟩) := hd 12 36 (by kernel_rfl) (by kernel_rfl); exact gs_same (v := .pointer (some ⟨gb, go + k * 2 + 1, none⟩)) (by go_simp) rfl
    ·intro a W hE hd ho; have e37 : a.tmps[37]?.getD undef = .pointer (some ⟨gb, go + k * 2 + 1, none⟩) := hd 13 37 (by kernel_rfl) (by kernel_rfl); have cb := cell_kept hE A2'.out; exact gs_same (v := .slice ea en ec) (by go_simp) rfl
    ·intro a W hE hd ho; have e38 : a.tmps[38]?.getD undef = .slice ea en ec := hd 14 38 (by kernel_rfl) (by kernel_rfl); have es : ∃ g, a.tmps[32]?.getD undef = .slice (some ⟨g, 0, none⟩) 0 0 := hd 8 32 (by kernel_rfl) (by kernel_rfl); exact gs_copy0 (.tmp 32) (.tmp 38) rfl (by rw [eval_getD]; exact es) ((eval_getD _ _).trans e38) (A3.out.keep hE.below) (by omega) (Nat.le_trans hS.out hE.below.size)
    ·intro a W hE hd ho; have e31 : a.tmps[31]?.getD undef = .int .i64 p := hd 7 31 (by kernel_rfl) (by kernel_rfl); have o1 : OwnI0 W w2.heap.size (a.tmps[39]?.getD undef) en ((T.sets.getD k (0, [])).2) := hd 15 39 (by kernel_rfl) (by kernel_rfl); obtain ⟨vE, hvE⟩ : ∃ v, v = a.tmps[39]?.getD undef := ⟨_, rfl⟩; rw [<- hvE] at o1; have e39 := hvE.symm; clear hvE; obtain ⟨A5, c5, rfl⟩ : ∃ A c, vE = .slice A en c := o1.sl; exact gs_same (v := .agg #[.int .i64 p, .slice A5 en c5]) (by go_simp) ⟨A5, c5, rfl, o1⟩
    ·intro a W hE hd ho; obtain ⟨A5, c5, e40, o1⟩ : ∃ A c, a.tmps[40]?.getD undef = .agg #[.int .i64 p, .slice A en c] /\ OwnI0 W w2.heap.size (.slice A en c) en ((T.sets.getD k (0, [])).2) := hd 16 40 (by kernel_rfl) (by kernel_rfl); refine gs_val (v := .slice (some ⟨W.heap.size, 0, none⟩) 1 1) (W' := W.alloc (.cells #[.int .i64 p, .slice A5 en c5] 145)) (by go_simp) ((Below.refl _ _).alloc (Nat.le_refl _) _) ⟨W.heap.size, A5, c5, rfl, Blk.new _ _ _, o1.imp fun h => h.alloc _⟩
   intro vv w5 hE hR; have y0 : vv 0 = .pointer (some ⟨g3, 12, none⟩) := hR 0 (by omega); have y1 : vv 1 = vs := hR 1 (by omega); have y2 : vv 2 = .pointer (some ⟨g, 12, none⟩) := hR 2 (by omega); have y3 : vv 3 = .slice (some ⟨gb, go, none⟩) gn gc := hR 3 (by omega); have y4 : vv 4 = .int .i64 k := hR 4 (by omega); have y5 : vv 5 = .pointer (some ⟨gb, go + k * 2, none⟩) := hR 5 (by omega); have y6 : vv 6 = .pointer (some ⟨gb, go + k * 2, none⟩) := hR 6 (by omega); have y7 : vv 7 = .int .i64 p := hR 7 (by omega); obtain ⟨b8, y8⟩ : ∃ g, vv 8 = .slice (some ⟨g, 0, none⟩) 0 0 := hR 8 (by omega); have y9 : vv 9 = .pointer (some ⟨g, 12, none⟩) := hR 9 (by omega); have y10 : vv 10 = .slice (some ⟨gb, go, none⟩) gn gc := hR 10 (by omega); have y11 : vv 11 = .int .i64 k := hR 11 (by omega); have y12 : vv 12 = .pointer (some ⟨gb, go + k * 2, none⟩) := hR 12 (by omega); have y13 : vv 13 = .pointer (some ⟨gb, go + k * 2 + 1, none⟩) := hR 13 (by omega)
   have y14 : vv 14 = .slice ea en ec := hR 14 (by omega); obtain ⟨x15, y15⟩ : ∃ v, vv 15 = v := ⟨_, rfl⟩; obtain ⟨x16, y16⟩ : ∃ v, vv 16 = v := ⟨_, rfl⟩; obtain ⟨gN, A5, c5, y17, BN, o5⟩ : ∃ g A c, vv 17 = .slice (some ⟨g, 0, none⟩) 1 1 /\ Blk w5 g 145 #[.int .i64 p, .slice A en c] /\ OwnI0 w5 w2.heap.size (.slice A en c) en ((T.sets.getD k (0, [])).2) := hR 17 (by omega); simp only [List.range, List.range.loop, List.foldl_cons, List.foldl_nil, y0, y1, y2, y3, y4, y5, y6, y7, y8, y9, y10, y11, y12, y13, y14, y15, y16, y17, List.drop_succ_cons, List.drop_zero]; simp only [dstAt, List.getElem?_toArray, List.getElem?_cons_zero, List.getElem?_cons_succ, Option.bind_some, Act.put, List.setIfInBounds_toArray, List.set_cons_zero, List.set_cons_succ]; clear y0 y1 y2 y3 y4 y5 y6 y7 y8 y9 y10 y11 y12 y13 y14 y15 y16 y17 hR; have hE5 : Ext wr w5 := hE; have row5 := row_ext hrow.out hE5; have P5 := hP3.out.below hE5
   have hs5 : w2.heap.size <= w5.heap.size := Nat.le_trans hS.out hE.below.size; have HE5 := lh hE5; have HO5 := lh o5
   have HBN : Hid (∀ (j : Nat) (u : Value), ([.int .i64 p, .slice A5 en c5] : List Value)[j]? = some u -> w5.cell? ((⟨gN, 0, none⟩ : Addr).add j) = some u) := fun j u hu => by
    rw [addAddr, Nat.zero_add, BN.cell j]
    simpa using hu
   obtain ⟨iS, hiS, hzS, hsS, hbS⟩ := info_parts infoSetR; clear hE hE5 o5 BN; refine wpList_append_own _ rfl _ _ 24 rfl w2.heap.size 145 iS (.agg #[.int .i64 0, .slice none 0 0]) 2 32 Tryz.underlying24 hiS hzS hsS hbS rfl (by decide) vs k (stCells P) rfl row5 ⟨gN, 0, none⟩ 1 1 [.int .i64 p, .slice A5 en c5] rfl rfl HBN.out (by simp [Value.oneCell']) (by unfold maxLen; omega) (by omega) hs5 ?_; intro v' w6 hown' hgrow _
   obtain ⟨g6, c6, rfl⟩ : ∃ g c, v' = .slice (some ⟨g, 0, none⟩) (k + 1) c := by
    rcases hown'.2 with ⟨_, h0⟩ | ⟨g, cap, cur, h1, _⟩
    ·omega
    ·exact ⟨g, cap, h1⟩
   have P6 := row_blk row5 hgrow P5 (by decide); have ROW6 := lh hown'; have A6 : Hid (OwnI0 w6 w2.heap.size (.slice A1 sn c1) sn sh) := hA.out.imp fun h => row_row row5 hgrow (h.below HE5.out) (by decide)
   have B6 : Hid (OwnI0 w6 w2.heap.size (.slice A2 qn c2) qn T.squares) := hB.out.imp fun h => row_row row5 hgrow (h.below HE5.out) (by decide)
   have E6 : Hid (∀ j, j < k -> (P.getD j (0, undef)).1 = Bell.ePow T.sets j /\ OwnI0 w6 w2.heap.size (P.getD j (0, undef)).2 ((T.sets.getD j (0, [])).2).length ((T.sets.getD j (0, [])).2)) := fun j hj => ⟨(heach.out j hj).1, (heach.out j hj).2.imp fun h => row_row row5 hgrow (h.below HE5.out) (by decide)⟩
   have V6 : Hid (OwnI0 w6 w2.heap.size (.slice A5 en c5) en ((T.sets.getD k (0, [])).2)) := HO5.out.imp fun h => row_row row5 hgrow h (by decide)
   have HB6 : Hid (Below w.heap.size w w6) := Below.grown (hbw.out.trans (HE5.out.below.mono hbw.out.size)) hgrow (Nat.le_trans HB.out.size HE5.out.below.size) (fun j hj => Nat.le_trans HW2.out (row5.lt j hj).1); have T6 := lh (row_blk row5 hgrow (hT.out.below HE5.out) (by decide)); have O6 := lh (row_blk row5 hgrow (hO.out.below HE5.out) (by decide)); have hsz6 : Hid (w2.heap.size <= w6.heap.size) := Nat.le_trans hs5 hgrow.size; have c12 : w6.cell? ⟨g3, 12, none⟩ = some vs := P6.cell 12; have f12 : w6.frozen? ⟨g3, 12, none⟩ = false := P6.frozen 12; have P6' := lh P6; clear hown' hgrow row5 P5 P6 hA hB heach hrow hP3 hbw hS hT hO HB; simp only [Act.put, List.setIfInBounds_toArray, List.set_cons_zero, List.set_cons_succ]; go_wp2; go_roundw
   case rel =>
    refine ⟨k + 1, P ++ [(p, .slice A5 en c5)], .slice (some ⟨g6, 0, none⟩) (k + 1) c6, by omega, by go_num, by simp [hPk], P6'.out.set_ 12 _, ?_, fun j hj => ?_, A6.out.imp (fun h => row_cell h P6'.out (by decide) 12 _), B6.out.imp (fun h => row_cell h P6'.out (by decide) 12 _), (by show _ <= _; simpa using hsz6.out), T6.out.cell_far hne1 _, O6.out.cell_far hne2 _, HB6.out.setCell HG3.out _⟩
    ·rw [stCells_snoc]; exact row_cell ROW6.out P6'.out (by decide) 12 _
    ·by_cases hjk : j < k
     ·have e : (P ++ [(p, Value.slice A5 en c5)]).getD j (0, undef) = P.getD j (0, undef) := by
       simp [List.getD_eq_getElem?_getD, List.getElem?_append_left (show j < P.length by omega)]
      rw [e]; exact ⟨(E6.out j hjk).1, (E6.out j hjk).2.imp fun h => row_cell h P6'.out (by decide) 12 _⟩
     ·obtain rfl : j = k := by omega
      have e : (P ++ [(p, Value.slice A5 en c5)]).getD j (0, undef) = (p, Value.slice A5 en c5) := by
       simp [List.getD_eq_getElem?_getD, <- hPk]
      rw [e]; exact ⟨HPP.out, by rw [HLE.out]; exact V6.out.imp fun h => row_cell h P6'.out (by decide) 12 _⟩
   case measure => simp [intOf]; omega
  ·obtain rfl : k = gn := by omega
   clear hlt hk; have OW := hO; obtain ⟨tw, htw⟩ : ∃ tw, tw = tyW nm (.slice A1 sn c1) T (.slice A2 qn c2) vs := ⟨_, rfl⟩; rw [<- htw] at hP3
   obtain ⟨A3', cS, rfl⟩ : ∃ A c, vs = .slice A k c := by
    rcases hrow.out.2 with ⟨h1, h0⟩ | ⟨g, cap, cur, h1, _⟩
    ·exact ⟨none, 0, by rw [h1, h0]⟩
    ·exact ⟨_, cap, h1⟩
   have HTW := lh htw; have HTS : Hid (13 = tw.size) := by show _ = _; rw [htw]; rfl
   have tin : Hid ((Tryz.prog.info? 26).map (·.size) = some tw.size) := by show _ = _; rw [htw]; kernel_rfl
   have tone : Hid (tw.all (fun u => u.oneCell') = true) := by show _ = _; rw [htw]; simp [tyW, Value.oneCell']
   clear htw
   go_wp2_with (first | (refine wpList_load_row rfl 26 _ rfl g3 rfl 26 tw (0, 0) _ hP3.out Tryz.underlying26 rfl tin.out ?_) | (refine wpList_store_row rfl 26 _ _ rfl g2 tw rfl rfl 26 _ OW.out tin.out HTS.out tone.out ?_))
   obtain ⟨wf, hwf⟩ : ∃ W, W = wr.setRow g2 tw := ⟨_, rfl⟩; rw [<- hwf]; have RF : Blk wf g2 26 tw := by rw [hwf]; exact OW.out.setRow _
   have rowF : wf.ownsRow w2.heap.size 145 2 (.slice A3' k cS) k (stCells P) := by rw [hwf]; exact row_in_row hrow.out OW.out (by decide) _
   have AF : OwnI0 wf w2.heap.size (.slice A1 sn c1) sn sh := by rw [hwf]; exact hA.out.imp fun h => row_in_row h OW.out (by decide) _
   have BF : OwnI0 wf w2.heap.size (.slice A2 qn c2) qn T.squares := by rw [hwf]; exact hB.out.imp fun h => row_in_row h OW.out (by decide) _
   have EF : ∀ j, j < k -> (P.getD j (0, undef)).1 = Bell.ePow T.sets j /\ OwnI0 wf w2.heap.size (P.getD j (0, undef)).2 ((T.sets.getD j (0, [])).2).length ((T.sets.getD j (0, [])).2) := fun j hj => ⟨(heach.out j hj).1, by rw [hwf]; exact (heach.out j hj).2.imp fun h => row_in_row h OW.out (by decide) _⟩
   have BW : Below w.heap.size w wf := by rw [hwf]; exact HB.out.setRow' (HG2.out) _
   have r0 : wf.cell? ⟨g2, 0, none⟩ = some (.string nm) := (RF.cell 0).trans (by rw [HTW.out]; rfl); have r1 : wf.cell? ⟨g2, 1, none⟩ = some (.slice A1 sn c1) := (RF.cell 1).trans (by rw [HTW.out]; rfl); have r2 : wf.cell? ⟨g2, 2, none⟩ = some (.int .i64 (T.direct.getD 0 0)) := (RF.cell 2).trans (by rw [HTW.out]; rfl); have r3 : wf.cell? ⟨g2, 3, none⟩ = some (.int .i64 (T.direct.getD 1 0)) := (RF.cell 3).trans (by rw [HTW.out]; rfl); have r4 : wf.cell? ⟨g2, 4, none⟩ = some (.int .i64 (T.direct.getD 2 0)) := (RF.cell 4).trans (by rw [HTW.out]; rfl); have r5 : wf.cell? ⟨g2, 5, none⟩ = some (.int .i64 (T.direct.getD 3 0)) := (RF.cell 5).trans (by rw [HTW.out]; rfl); have r6 : wf.cell? ⟨g2, 6, none⟩ = some (.int .i64 (T.direct.getD 4 0)) := (RF.cell 6).trans (by rw [HTW.out]; rfl); have r7 : wf.cell? ⟨g2, 7, none⟩ = some (.int .i64 (T.direct.getD 5 0)) := (RF.cell 7).trans (by rw [HTW.out]; rfl)
   have r8 : wf.cell? ⟨g2, 8, none⟩ = some (.int .i64 (T.direct.getD 6 0)) := (RF.cell 8).trans (by rw [HTW.out]; rfl); have r9 : wf.cell? ⟨g2, 9, none⟩ = some (.int .i64 (T.direct.getD 7 0)) := (RF.cell 9).trans (by rw [HTW.out]; rfl); have r10 : wf.cell? ⟨g2, 10, none⟩ = some (.int .i64 T.side) := (RF.cell 10).trans (by rw [HTW.out]; rfl); have r11 : wf.cell? ⟨g2, 11, none⟩ = some (.slice A2 qn c2) := (RF.cell 11).trans (by rw [HTW.out]; rfl); have r12 : wf.cell? ⟨g2, 12, none⟩ = some (.slice A3' k cS) := (RF.cell 12).trans (by rw [HTW.out]; rfl); have EQ : Value.agg #[.string nm, .slice A1 sn c1, .int .i64 (T.direct.getD 0 0), .int .i64 (T.direct.getD 1 0), .int .i64 (T.direct.getD 2 0), .int .i64 (T.direct.getD 3 0), .int .i64 (T.direct.getD 4 0), .int .i64 (T.direct.getD 5 0), .int .i64 (T.direct.getD 6 0), .int .i64 (T.direct.getD 7 0), .int .i64 T.side, .slice A2 qn c2, .slice A3' k cS] = .agg tw := by rw [HTW.out]; rfl
   (try simp only [Exit.inBlock, Exit.then])
   refine bodyPost_ret (v := .agg #[.string nm, .slice A1 sn c1, .int .i64 (T.direct.getD 0 0), .int .i64 (T.direct.getD 1 0), .int .i64 (T.direct.getD 2 0), .int .i64 (T.direct.getD 3 0), .int .i64 (T.direct.getD 4 0), .int .i64 (T.direct.getD 5 0), .int .i64 (T.direct.getD 6 0), .int .i64 (T.direct.getD 7 0), .int .i64 T.side, .slice A2 qn c2, .slice A3' k cS]) (by simp [results, Tryz.results81, go_sem, asAddr, r0, r1, r2, r3, r4, r5, r6, r7, r8, r9, r10, r11, r12]) rfl ?_; rw [EQ]; exact ⟨w2.heap.size, A1, A2, A3', c1, c2, cS, P, by rw [HTW.out], HW2.out, ⟨AF, BF, rowF, hPk, EF⟩, BW⟩
theorem set_cells_at (w : World) (t : TypeId) (a b : Value) : ∀ (j : Nat) (u : Value), [a, b][j]? = some u -> (w.alloc (.cells #[a, b] t)).cell? ((⟨w.heap.size, 0, none⟩ : Addr).add j) = some u := fun j u h => by
 rw [addAddr, Nat.zero_add, (Blk.new w t #[a, b]).cell j]
 simpa using h
theorem own_shapeG {w : World} {base size n : Nat} {e : TypeId} {v : Value} {xs : List Value} (h : w.ownsRow base e size v (n + 1) xs) : ∃ g c, v = .slice (some ⟨g, 0, none⟩) (n + 1) c := by
 rcases h.2 with ⟨_, h0⟩ | ⟨g, cap, cur, h1, _⟩
 ·omega
 ·exact ⟨g, cap, h1⟩
theorem take_one (P : List (Int × Value)) {k : Nat} (hk : k < P.length) : P.take (k + 1) = P.take k ++ [P.getD k (0, undef)] := by
 rw [List.take_succ_eq_append_getElem hk, List.getD_eq_getElem?_getD, List.getElem?_eq_getElem hk]
 rfl
end Go.Proofs.YtmafmebcgmegeaaGreatDoor
