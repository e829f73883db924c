/- Texts Qf of the proof. -/
import Derived.Test.YtmafmebcgmegeaaGreatDoorW49
import Derived.Test.YtmafmebcgmegeaaGreatDoorW51
import Derived.Test.YtmafmebcgmegeaaGreatDoorW45
namespace Go.Proofs.YtmafmebcgmegeaaGreatDoor
open Go.RowKit Go.Sort
theorem max8_run (P : Program) (a b c d e f g h : Int) (ts : Array TypeId) (t : TypeId) (W : World) : (Builtin.max_ ts t #[.int .i64 a, .int .i64 b, .int .i64 c, .int .i64 d, .int .i64 e, .int .i64 f, .int .i64 g, .int .i64 h]).run P W = .ok (.int .i64 (max (max (max (max (max (max (max a b) c) d) e) f) g) h)) W := by
  have k : ∀ x y : Int, (if y > x then y else x) = max x y := fun x y => by split <;> omega
  simp [Builtin.max_, Builtin.max2, k]
theorem enters_quarter (args : Array Value) (W : World) : (callFunc 82 args).run Tryz.prog W = .ok (.enter 82 args) W := by kernel_rfl
set_option maxHeartbeats 400000 in
set_option maxRecDepth 100000 in
theorem quarter_any (x y : Int) (w : World) (hy : -200000 ≤ y ∧ y ≤ 200000) : Calls Tryz.prog 82 #[.agg #[.int .i64 x, .int .i64 y]] w fun e w' => e = .returned (.agg #[.int .i64 (-y), .int .i64 x]) ∧ Below w.heap.size w w' := by
  have hw : IntKind.i64.wrap (-y) = -y := IntWalk.i64_in _ (by omega)
  clear hy
  go_enter Tryz.func82, Tryz.ntmps82
  go_upto_region 1 with fail
  obtain ⟨w1, hw1⟩ : ∃ W, W = ((w.alloc (.cells #[.int .i64 x, .int .i64 y] 30)).alloc (.cells #[.int .i64 0, .int .i64 0] 30)) := ⟨_, rfl⟩
  rw [← hw1]
  have B : Hid (Blk w1 (w.heap.size) 30 #[.int .i64 x, .int .i64 y]) := by show Blk _ _ _ _; rw [hw1]; exact (Blk.new _ _ _).alloc _
  have R : Hid (Blk w1 (w.heap.size + 1) 30 #[.int .i64 0, .int .i64 0]) := by show Blk _ _ _ _; rw [hw1]; exact Blk.at_size _ _ (by simp)
  have hb : Below w.heap.size w w1 := by rw [hw1]; exact (((Below.refl _ _).alloc (Nat.le_refl _) _).alloc (by simp) _)
  obtain ⟨g, hg⟩ : ∃ g, g = w.heap.size := ⟨_, rfl⟩
  obtain ⟨g2, hg2⟩ : ∃ g, g = w.heap.size + 1 := ⟨_, rfl⟩
  have HGw1 : Hid (g = w.heap.size ∧ g2 = w.heap.size + 1) := ⟨hg, hg2⟩
  rw [← hg2] at R
  try rw [← hg2]
  rw [← hg] at B
  try rw [← hg]
  clear hw1 hg hg2
  have BB := B.out
  have RR := R.out
  have bc0 := BB.cell 0; have bf0 := BB.frozen 0; have bc1 := BB.cell 1; have bf1 := BB.frozen 1
  simp only [List.getElem?_toArray, List.getElem?_cons_zero, List.getElem?_cons_succ] at bc0 bc1
  clear BB
  have rc0 := RR.cell 0; have rf0 := RR.frozen 0; have rc1 := RR.cell 1; have rf1 := RR.frozen 1
  simp only [List.getElem?_toArray, List.getElem?_cons_zero, List.getElem?_cons_succ] at rc0 rc1
  clear RR
  have HB := Lib.hid hb
  have HN := Lib.hid HGw1.out.2
  have hlv := ((R.out.set_ 0 (.int .i64 (-y))).set_ 1 (.int .i64 x)).lv Tryz.prog (T := 30) Tryz.underlying30 rfl (by kernel_rfl)
  have HLV := Lib.hid hlv
  clear hb B R hlv
  go_wp2
  refine bodyPost_ret (v := .agg #[.int .i64 (-y), .int .i64 x]) (by simp [results, Tryz.results82, asAddr]; exact HLV.out) rfl ?_
  exact ⟨rfl, (HB.out.setCell (by rw [HN.out]; exact Nat.le_succ _) _).setCell (by rw [HN.out]; exact Nat.le_succ _) _⟩
theorem pt_00 (W : World) : (Op.equalIn 10000 30 (.agg #[.int .i64 0, .int .i64 0]) (.agg #[.int .i64 0, .int .i64 0])).run Tryz.prog W = .ok true W := by kernel_rfl
set_option maxRecDepth 100000 in
theorem pt_ne (a b : Int) (h : ¬ (a = 0 ∧ b = 0)) (W : World) : (Op.equalIn 10000 30 (.agg #[.int .i64 a, .int .i64 b]) (.agg #[.int .i64 0, .int .i64 0])).run Tryz.prog W = .ok false W := by
  by_cases h1 : a = 0
  · have h2 : ¬ b = 0 := fun h2 => h ⟨h1, h2⟩
    subst h1
    go_simp
  · go_simp
def GR.gv (nm : ByteArray) (sh : List Int) (T : Bell.Ty) (sn qn gn : Nat) : GR :=
  ⟨fun v W => ∃ cs sa sc qb qo qc gb go gc, v = .agg cs ∧ TyOk W cs nm sh T sa sn sc qb qo qn qc gb go gn gc, fun ⟨cs, sa, sc, qb, qo, qc, gb, go, gc, e, h⟩ hE => ⟨cs, sa, sc, qb, qo, qc, gb, go, gc, e, h.keep hE⟩⟩
def GR.bands (sh : List Int) (en : Int) (sn : Nat) : GR :=
  ⟨fun v W => ∃ g, v = .tuple #[.slice (some ⟨g, 0, none⟩) sn sn, .int .i64 0] ∧ ∀ i, i < sn → W.cell? ⟨g, i, none⟩ = some (.int .i64 (bandAt sh en sn i)), fun ⟨g, e, h⟩ hE => ⟨g, e, fun i hi => cell_kept hE (h i hi)⟩⟩
def GR.bandS (sh : List Int) (en : Int) (sn : Nat) : GR :=
  ⟨fun v W => ∃ g, v = .slice (some ⟨g, 0, none⟩) sn sn ∧ ∀ i, i < sn → W.cell? ⟨g, i, none⟩ = some (.int .i64 (bandAt sh en sn i)), fun ⟨g, e, h⟩ hE => ⟨g, e, fun i hi => cell_kept hE (h i hi)⟩⟩
/-- What the checks of SourceTurned leave. -/
structure AskG (pw sq ax ay az hx hy sp dx dy en : Int) : Prop where
  pw : 1 ≤ pw ∧ pw ≤ 100
  sq : 0 ≤ sq ∧ sq ≤ 100000000000
  ax : -100000 ≤ ax ∧ ax ≤ 100000
  ay : -100000 ≤ ay ∧ ay ≤ 100000
  az : 0 ≤ az ∧ az ≤ 20000
  hx : -1000 ≤ hx ∧ hx ≤ 1000
  hy : -1000 ≤ hy ∧ hy ≤ 1000
  sp : 1 ≤ sp ∧ sp ≤ 100
  dx : -1000 ≤ dx ∧ dx ≤ 1000
  dy : -1000 ≤ dy ∧ dy ≤ 1000
  en : 0 ≤ en ∧ en ≤ 10000000000000
theorem ask_of {pw sq ax ay az hx hy sp dx dy en M n1 n2 n3 n4 : Int} (h1 : IntKind.i64.wrap (-hx) = n1) (h2 : IntKind.i64.wrap (-hy) = n2) (h3 : IntKind.i64.wrap (-dx) = n3) (h4 : IntKind.i64.wrap (-dy) = n4) (hM : M = max (max (max (max (max (max (max hx n1) hy) n2) dx) n3) dy) n4) (hM1 : ¬ 1000 < M)
    (hs : stE ax ay az hx hy sp = 0) (hd : dirE dx dy = 0) (hp : withinE pw 1 100 = 0) (hq : withinE sq 0 100000000000 = 0) (he : checkEnergyE en = 0) : AskG pw sq ax ay az hx hy sp dx dy en := by
  obtain ⟨s1, s2, s3⟩ := stE_zero hs
  obtain ⟨a1, a2, a3⟩ := placeE_zero s1
  obtain ⟨b1, b2⟩ := dirE_zero s2
  obtain ⟨c1, c2⟩ := dirE_zero hd
  have p := withinE_zero s3
  rw [IntWalk.i64_in _ (by omega)] at h1 h2 h3 h4
  subst h1 h2 h3 h4 hM
  exact ⟨withinE_zero hp, withinE_zero hq, a1, a2, a3, by omega, by omega, p, by omega, by omega, withinE_zero he⟩
theorem wpList_load_row_g {P : Program} {ops : Array Oper} {rest : List Oper} {o : Oper} {a : Act} {w : World} {Q : Exit → Act → World → Prop} (hwt : Region.wanted o (yielded ops a.tmps) = true) (ty : TypeId) (x : Operand) (ho : o.op = .load ty x)
    (g : Nat) (hx : a.eval x = .pointer (some ⟨g, 0, none⟩)) (t : TypeId) (cs : Array Value) (fr : Nat × Nat) (d : TypeDesc) (hg : w.heap[g]? = some (.cells cs t fr))
    (hu : P.underlying ty = some d) (hd : (match d with | .struct _ | .array _ _ => true | _ => false) = true) (hi : (P.info? ty).map (·.size) = some cs.size)
    (h : wpList P ops Q rest (a.put o.dst (.agg cs)) w) : wpList P ops Q (o :: rest) a w :=
  wpList_step fun K hK => by
    rw [if_pos hwt]
    exact wp_load_row ty x ho g hx t cs fr d hg hu hd hi (hK _ _ h)
attribute [local go_sem] enters_quarter
set_option maxHeartbeats 4000000 in
set_option maxRecDepth 100000 in
theorem turned_walk {nm : ByteArray} {sh : List Int} {T : Bell.Ty} {sa : Option Addr} {sn sc : Nat} {qa : Option Addr} {qn qc : Nat} {ga : Option Addr} {gn gc : Nat} {cs : Array Value} (pw sq ax ay az hx hy sp rx ry rz dx dy en : Int) (w : World) (hT : RTy w cs nm sh T sa sn sc qa qn qc ga gn gc) (hd8 : T.direct.length = 8) (hm : gn ≤ 140737488351232) (hu : Turned w) (hf : FirstWords w) (ht : Tab w) :
    Calls Tryz.prog 10 #[.agg cs, .agg #[.int .i64 pw, .int .i64 sq, .int .i64 ax, .int .i64 ay, .int .i64 az, .int .i64 hx, .int .i64 hy, .int .i64 sp, .int .i64 rx, .int .i64 ry, .int .i64 rz, .int .i64 dx, .int .i64 dy, .int .i64 en]] w fun e w' => e = .returned (.bool true) ∧ Below w.heap.size w w' := by
  have U := Lib.hid hu
  have F := Lib.hid hf
  have TB := Lib.hid ht
  have HT := Lib.hid hT
  have HD8 := Lib.hid hd8
  have IT : Hid ((Tryz.prog.info? 26).map (·.size) = some cs.size) := by show _ = _; rw [hT.cells]; kernel_rfl
  clear hu hf ht hT hd8
  go_enter Tryz.func10, Tryz.ntmps10
  go_upto_region 1 with fail
  obtain ⟨w1, hw1⟩ : ∃ W, W = ((w.alloc (.cells cs 26)).alloc (.cells #[.int .i64 pw, .int .i64 sq, .int .i64 ax, .int .i64 ay, .int .i64 az, .int .i64 hx, .int .i64 hy, .int .i64 sp, .int .i64 rx, .int .i64 ry, .int .i64 rz, .int .i64 dx, .int .i64 dy, .int .i64 en] 34)) := ⟨_, rfl⟩
  rw [← hw1]
  have TT : Hid (Blk w1 (w.heap.size) 26 cs) := by show Blk _ _ _ _; rw [hw1]; exact (Blk.new _ _ _).alloc _
  have X : Hid (Blk w1 (w.heap.size + 1) 34 #[.int .i64 pw, .int .i64 sq, .int .i64 ax, .int .i64 ay, .int .i64 az, .int .i64 hx, .int .i64 hy, .int .i64 sp, .int .i64 rx, .int .i64 ry, .int .i64 rz, .int .i64 dx, .int .i64 dy, .int .i64 en]) := by show Blk _ _ _ _; rw [hw1]; exact Blk.at_size _ _ (by simp)
  have hb : Below w.heap.size w w1 := by rw [hw1]; exact (((Below.refl _ _).alloc (Nat.le_refl _) _).alloc (by simp) _)
  obtain ⟨g2, hg2⟩ : ∃ g, g = w.heap.size := ⟨_, rfl⟩
  obtain ⟨g3, hg3⟩ : ∃ g, g = w.heap.size + 1 := ⟨_, rfl⟩
  have HGw1 : Hid (g2 = w.heap.size ∧ g3 = w.heap.size + 1) := ⟨hg2, hg3⟩
  rw [← hg3] at X
  try rw [← hg3]
  rw [← hg2] at TT
  try rw [← hg2]
  clear hw1 hg2 hg3
  have HB := Lib.hid hb
  replace U := Lib.hid (U.out.keep hb)
  replace F := Lib.hid (F.out.keep hb)
  replace TB := Lib.hid (TB.out.keep hb)
  replace HT := Lib.hid (HT.out.keep hb)
  have XX := X.out
  have xc0 := XX.cell 0; have xf0 := XX.frozen 0; have xc1 := XX.cell 1; have xf1 := XX.frozen 1; have xc2 := XX.cell 2; have xf2 := XX.frozen 2; have xc3 := XX.cell 3; have xf3 := XX.frozen 3; have xc4 := XX.cell 4; have xf4 := XX.frozen 4; have xc5 := XX.cell 5; have xf5 := XX.frozen 5; have xc6 := XX.cell 6; have xf6 := XX.frozen 6; have xc7 := XX.cell 7; have xf7 := XX.frozen 7; have xc8 := XX.cell 8; have xf8 := XX.frozen 8; have xc9 := XX.cell 9; have xf9 := XX.frozen 9; have xc10 := XX.cell 10; have xf10 := XX.frozen 10; have xc11 := XX.cell 11; have xf11 := XX.frozen 11; have xc12 := XX.cell 12; have xf12 := XX.frozen 12; have xc13 := XX.cell 13; have xf13 := XX.frozen 13
  simp only [List.getElem?_toArray, List.getElem?_cons_zero, List.getElem?_cons_succ] at xc0 xc1 xc2 xc3 xc4 xc5 xc6 xc7 xc8 xc9 xc10 xc11 xc12 xc13
  clear XX
  have hgl2 := lt_of_block TT.out
  have hgl3 := lt_of_block X.out
  have e1 : (g2 = w1.heap.size) = False := by simp; omega
  have e2 : (g2 = w1.heap.size + 1) = False := by simp; omega
  have e3 : (g3 = w1.heap.size) = False := by simp; omega
  have e4 : (g3 = w1.heap.size + 1) = False := by simp; omega
  clear hb HGw1
  apply via3 (A := fun (W : World) (a : Nat) => Hid (Blk W a 30 #[.int .i64 hx, .int .i64 hy])) (B := fun (W : World) (a : Nat) => Hid (Blk W a 30 #[.int .i64 dx, .int .i64 dy])) (C := fun W => Hid (Below w1.heap.size w1 W))
  · intro key
    go_region
    · obtain ⟨w2, hw2⟩ : ∃ W, W = ((w1.alloc (.cells #[.int .i64 hx, .int .i64 hy] 30)).alloc (.cells #[.int .i64 dx, .int .i64 dy] 30)).drew := ⟨_, rfl⟩
      rw [← hw2]
      have P2 : Hid (Blk w2 (w1.heap.size) 30 #[.int .i64 hx, .int .i64 hy]) := by show Blk _ _ _ _; rw [hw2]; exact ((Blk.new _ _ _).alloc _).drew
      have F2 : Hid (Blk w2 (w1.heap.size + 1) 30 #[.int .i64 dx, .int .i64 dy]) := by show Blk _ _ _ _; rw [hw2]; exact (Blk.at_size _ _ (by simp)).drew
      have hb2 : Hid (Below w1.heap.size w1 w2) := by show Below _ _ _; rw [hw2]; exact (((Below.refl _ _).alloc (Nat.le_refl _) _).alloc (by simp) _).drew
      obtain ⟨gP, hgP⟩ : ∃ x, x = w1.heap.size := ⟨_, rfl⟩
      obtain ⟨gF, hgF⟩ : ∃ x, x = w1.heap.size + 1 := ⟨_, rfl⟩
      rw [← hgP] at P2
      rw [← hgF] at F2
      rw [← hgF, ← hgP]
      exact key w2 gP gF P2 F2 hb2
    · obtain ⟨w2, hw2⟩ : ∃ W, W = ((w1.alloc (.cells #[.int .i64 dx, .int .i64 dy] 30)).alloc (.cells #[.int .i64 hx, .int .i64 hy] 30)).drew := ⟨_, rfl⟩
      rw [← hw2]
      have P2 : Hid (Blk w2 (w1.heap.size + 1) 30 #[.int .i64 hx, .int .i64 hy]) := by show Blk _ _ _ _; rw [hw2]; exact (Blk.at_size _ _ (by simp)).drew
      have F2 : Hid (Blk w2 (w1.heap.size) 30 #[.int .i64 dx, .int .i64 dy]) := by show Blk _ _ _ _; rw [hw2]; exact ((Blk.new _ _ _).alloc _).drew
      have hb2 : Hid (Below w1.heap.size w1 w2) := by show Below _ _ _; rw [hw2]; exact (((Below.refl _ _).alloc (Nat.le_refl _) _).alloc (by simp) _).drew
      obtain ⟨gP, hgP⟩ : ∃ x, x = w1.heap.size + 1 := ⟨_, rfl⟩
      obtain ⟨gF, hgF⟩ : ∃ x, x = w1.heap.size := ⟨_, rfl⟩
      rw [← hgP] at P2
      rw [← hgF] at F2
      rw [← hgP, ← hgF]
      exact key w2 gP gF P2 F2 hb2
  intro w2 g5 g6 H D HC
  have hb := HC.out
  clear HC e1 e2 e3 e4 hgl2 hgl3 xc0 xc1 xc2 xc3 xc4 xc5 xc6 xc7 xc8 xc9 xc10 xc11 xc12 xc13 xf0 xf1 xf2 xf3 xf4 xf5 xf6 xf7 xf8 xf9 xf10 xf11 xf12 xf13
  replace HB := Lib.hid (HB.out.trans (hb.mono HB.out.size))
  replace U := Lib.hid (U.out.keep hb)
  replace F := Lib.hid (F.out.keep hb)
  replace TB := Lib.hid (TB.out.keep hb)
  replace HT := Lib.hid (HT.out.keep hb)
  replace TT := Lib.hid (TT.out.below hb)
  replace X := Lib.hid (X.out.below hb)
  clear hb
  go_upto_region 2 with fail
  refine wp_region_lit ?_
  simp only [List.append_eq, List.cons_append, List.nil_append]
  refine wpList_load_row rfl 26 _ rfl g2 rfl 26 cs (0, 0) _ TT.out Tryz.underlying26 rfl IT.out ?_
  go_wp2_with fail
  refine (refShortTy_any w2 HT.out hm).mono ?_
  rintro e w3 ⟨⟨b, rfl, hsh⟩, hb⟩
  replace HB := Lib.hid (HB.out.trans (hb.mono HB.out.size))
  replace U := Lib.hid (U.out.keep hb)
  replace F := Lib.hid (F.out.keep hb)
  replace TB := Lib.hid (TB.out.keep hb)
  replace HT := Lib.hid (HT.out.keep hb)
  replace TT := Lib.hid (TT.out.below hb)
  replace X := Lib.hid (X.out.below hb)
  replace H := Lib.hid (H.out.below hb)
  replace D := Lib.hid (D.out.below hb)
  clear hb
  cases b
  case false =>
    go_wp2_with fail
    refine (awake2_any w3 U.out F.out TB.out).mono ?_
    rintro e wZ ⟨rfl, hb⟩
    replace HB := Lib.hid (HB.out.trans (hb.mono HB.out.size))
    clear hb
    go_wp2
    go_ret
    exact ⟨rfl, HB.out⟩
  have hS := Lib.hid (hsh rfl)
  clear hsh
  go_wp2_with (refine wpList_load_row_g (by rfl) 26 _ rfl g2 rfl 26 cs (0, 0) _ TT.out Tryz.underlying26 rfl IT.out ?_)
  refine (refType_any w3 HT.out HD8.out hS.out).mono ?_
  rintro e w4 ⟨E, rfl, hE, hb⟩
  replace HB := Lib.hid (HB.out.trans (hb.mono HB.out.size))
  replace U := Lib.hid (U.out.keep hb)
  replace F := Lib.hid (F.out.keep hb)
  replace TB := Lib.hid (TB.out.keep hb)
  replace HT := Lib.hid (HT.out.keep hb)
  replace TT := Lib.hid (TT.out.below hb)
  replace X := Lib.hid (X.out.below hb)
  replace H := Lib.hid (H.out.below hb)
  replace D := Lib.hid (D.out.below hb)
  clear hb
  by_cases h0 : ¬ E = 0
  · go_wp2_with fail
    refine (awake2_any w4 U.out F.out TB.out).mono ?_
    rintro e wZ ⟨rfl, hb⟩
    replace HB := Lib.hid (HB.out.trans (hb.mono HB.out.size))
    clear hb
    go_wp2
    go_ret
    exact ⟨rfl, HB.out⟩
  replace h0 : E = 0 := Classical.not_not.1 h0
  have HNG := Lib.hid (hE.out h0)
  subst h0
  clear hE
  have h0 := H.out.cell 0
  have h1 := H.out.cell 1
  simp only [List.getElem?_toArray, List.getElem?_cons_zero, List.getElem?_cons_succ] at h0 h1
  have d0 := D.out.cell 0
  have d1 := D.out.cell 1
  simp only [List.getElem?_toArray, List.getElem?_cons_zero, List.getElem?_cons_succ] at d0 d1
  obtain ⟨n1, hn1⟩ : ∃ x, IntKind.i64.wrap (-hx) = x := ⟨_, rfl⟩
  obtain ⟨n2, hn2⟩ : ∃ x, IntKind.i64.wrap (-hy) = x := ⟨_, rfl⟩
  obtain ⟨n3, hn3⟩ : ∃ x, IntKind.i64.wrap (-dx) = x := ⟨_, rfl⟩
  obtain ⟨n4, hn4⟩ : ∃ x, IntKind.i64.wrap (-dy) = x := ⟨_, rfl⟩
  obtain ⟨M, hM⟩ : ∃ x, x = max (max (max (max (max (max (max hx n1) hy) n2) dx) n3) dy) n4 := ⟨_, rfl⟩
  have r8 : ∀ ts t W, (Builtin.max_ ts t #[.int .i64 hx, .int .i64 n1, .int .i64 hy, .int .i64 n2, .int .i64 dx, .int .i64 n3, .int .i64 dy, .int .i64 n4]).run Tryz.prog W = .ok (.int .i64 M) W := fun ts t W => by rw [hM]; exact max8_run _ _ _ _ _ _ _ _ _ _ _ _
  have HM := Lib.hid hM
  clear hM
  by_cases hM1 : 1000 < M
  · go_wp2_with fail
    refine (awake2_any w4 U.out F.out TB.out).mono ?_
    rintro e wZ ⟨rfl, hb⟩
    replace HB := Lib.hid (HB.out.trans (hb.mono HB.out.size))
    clear hb
    go_wp2
    go_ret
    exact ⟨rfl, HB.out⟩
  by_cases hz : hx = 0 ∧ hy = 0
  · have r9 : ∀ W, (Op.equalIn 10000 30 (.agg #[.int .i64 hx, .int .i64 hy]) (.agg #[.int .i64 0, .int .i64 0])).run Tryz.prog W = .ok true W := fun W => by rw [hz.1, hz.2]; exact pt_00 W
    clear hz
    go_wp2_with fail
    refine (awake2_any w4 U.out F.out TB.out).mono ?_
    rintro e wZ ⟨rfl, hb⟩
    replace HB := Lib.hid (HB.out.trans (hb.mono HB.out.size))
    clear hb
    go_wp2
    go_ret
    exact ⟨rfl, HB.out⟩
  have r9 : ∀ W, (Op.equalIn 10000 30 (.agg #[.int .i64 hx, .int .i64 hy]) (.agg #[.int .i64 0, .int .i64 0])).run Tryz.prog W = .ok false W := fun W => pt_ne _ _ hz W
  by_cases hz2 : dx = 0 ∧ dy = 0
  · have r10 : ∀ W, (Op.equalIn 10000 30 (.agg #[.int .i64 dx, .int .i64 dy]) (.agg #[.int .i64 0, .int .i64 0])).run Tryz.prog W = .ok true W := fun W => by rw [hz2.1, hz2.2]; exact pt_00 W
    clear hz2
    go_wp2_with fail
    refine (awake2_any w4 U.out F.out TB.out).mono ?_
    rintro e wZ ⟨rfl, hb⟩
    replace HB := Lib.hid (HB.out.trans (hb.mono HB.out.size))
    clear hb
    go_wp2
    go_ret
    exact ⟨rfl, HB.out⟩
  have r10 : ∀ W, (Op.equalIn 10000 30 (.agg #[.int .i64 dx, .int .i64 dy]) (.agg #[.int .i64 0, .int .i64 0])).run Tryz.prog W = .ok false W := fun W => pt_ne _ _ hz2 W
  have HZ := Lib.hid hz
  have HZ2 := Lib.hid hz2
  clear hz hz2
  have x2 := X.out.cell 2
  have x3 := X.out.cell 3
  have x4 := X.out.cell 4
  have x5 := X.out.cell 5
  have x6 := X.out.cell 6
  have x7 := X.out.cell 7
  simp only [List.getElem?_toArray, List.getElem?_cons_zero, List.getElem?_cons_succ] at x2 x3 x4 x5 x6 x7
  go_wp2_with fail
  refine (refState_any ax ay az hx hy sp w4).mono ?_
  rintro e w5 ⟨rfl, hb⟩
  clear x2 x3 x4 x5 x6 x7
  clear h0 h1
  clear d0 d1
  clear r8 r9 r10
  replace HB := Lib.hid (HB.out.trans (hb.mono HB.out.size))
  replace U := Lib.hid (U.out.keep hb)
  replace F := Lib.hid (F.out.keep hb)
  replace TB := Lib.hid (TB.out.keep hb)
  replace HT := Lib.hid (HT.out.keep hb)
  replace TT := Lib.hid (TT.out.below hb)
  replace X := Lib.hid (X.out.below hb)
  replace H := Lib.hid (H.out.below hb)
  replace D := Lib.hid (D.out.below hb)
  clear hb
  obtain ⟨E, hE⟩ : ∃ E, E = stE ax ay az hx hy sp := ⟨_, rfl⟩
  rw [← hE]
  have KE := Lib.hid hE
  clear hE
  by_cases h0 : ¬ E = 0
  · go_wp2_with fail
    refine (awake2_any w5 U.out F.out TB.out).mono ?_
    rintro e wZ ⟨rfl, hb⟩
    replace HB := Lib.hid (HB.out.trans (hb.mono HB.out.size))
    clear hb
    go_wp2
    go_ret
    exact ⟨rfl, HB.out⟩
  replace h0 : E = 0 := Classical.not_not.1 h0
  have K1 := Lib.hid (KE.out.symm.trans h0)
  clear KE
  subst h0
  have d0 := D.out.cell 0
  have d1 := D.out.cell 1
  simp only [List.getElem?_toArray, List.getElem?_cons_zero, List.getElem?_cons_succ] at d0 d1
  go_wp2_with fail
  refine (refDirection_any dx dy w5).mono ?_
  rintro e w6 ⟨rfl, hb⟩
  clear d0 d1
  replace HB := Lib.hid (HB.out.trans (hb.mono HB.out.size))
  replace U := Lib.hid (U.out.keep hb)
  replace F := Lib.hid (F.out.keep hb)
  replace TB := Lib.hid (TB.out.keep hb)
  replace HT := Lib.hid (HT.out.keep hb)
  replace TT := Lib.hid (TT.out.below hb)
  replace X := Lib.hid (X.out.below hb)
  replace H := Lib.hid (H.out.below hb)
  replace D := Lib.hid (D.out.below hb)
  clear hb
  obtain ⟨E, hE⟩ : ∃ E, E = dirE dx dy := ⟨_, rfl⟩
  rw [← hE]
  have KE := Lib.hid hE
  clear hE
  by_cases h0 : ¬ E = 0
  · go_wp2_with fail
    refine (awake2_any w6 U.out F.out TB.out).mono ?_
    rintro e wZ ⟨rfl, hb⟩
    replace HB := Lib.hid (HB.out.trans (hb.mono HB.out.size))
    clear hb
    go_wp2
    go_ret
    exact ⟨rfl, HB.out⟩
  replace h0 : E = 0 := Classical.not_not.1 h0
  have K2 := Lib.hid (KE.out.symm.trans h0)
  clear KE
  subst h0
  have x0 := X.out.cell 0
  simp only [List.getElem?_toArray, List.getElem?_cons_zero, List.getElem?_cons_succ] at x0
  go_wp2_with fail
  refine (refPower_st pw w6).mono ?_
  rintro e wA ⟨rfl, hw⟩
  obtain rfl := hw.symm
  clear x0
  obtain ⟨E, hE⟩ : ∃ E, E = withinE pw 1 100 := ⟨_, rfl⟩
  rw [← hE]
  have KE := Lib.hid hE
  clear hE
  by_cases h0 : ¬ E = 0
  · go_wp2_with fail
    refine (awake2_any w6 U.out F.out TB.out).mono ?_
    rintro e wZ ⟨rfl, hb⟩
    replace HB := Lib.hid (HB.out.trans (hb.mono HB.out.size))
    clear hb
    go_wp2
    go_ret
    exact ⟨rfl, HB.out⟩
  replace h0 : E = 0 := Classical.not_not.1 h0
  have K3 := Lib.hid (KE.out.symm.trans h0)
  clear KE
  subst h0
  have x1 := X.out.cell 1
  simp only [List.getElem?_toArray, List.getElem?_cons_zero, List.getElem?_cons_succ] at x1
  go_wp2_with fail
  refine (refSquare_st sq w6).mono ?_
  rintro e wA ⟨rfl, hw⟩
  obtain rfl := hw.symm
  clear x1
  obtain ⟨E, hE⟩ : ∃ E, E = withinE sq 0 100000000000 := ⟨_, rfl⟩
  rw [← hE]
  have KE := Lib.hid hE
  clear hE
  by_cases h0 : ¬ E = 0
  · go_wp2_with fail
    refine (awake2_any w6 U.out F.out TB.out).mono ?_
    rintro e wZ ⟨rfl, hb⟩
    replace HB := Lib.hid (HB.out.trans (hb.mono HB.out.size))
    clear hb
    go_wp2
    go_ret
    exact ⟨rfl, HB.out⟩
  replace h0 : E = 0 := Classical.not_not.1 h0
  have K4 := Lib.hid (KE.out.symm.trans h0)
  clear KE
  subst h0
  have x13 := X.out.cell 13
  simp only [List.getElem?_toArray, List.getElem?_cons_zero, List.getElem?_cons_succ] at x13
  go_wp2_with fail
  refine (refCheckEnergy_any en w6).mono ?_
  rintro e wA ⟨rfl, hw⟩
  obtain rfl := hw
  clear x13
  obtain ⟨E, hE⟩ : ∃ E, E = checkEnergyE en := ⟨_, rfl⟩
  rw [← hE]
  have KE := Lib.hid hE
  clear hE
  by_cases h0 : ¬ E = 0
  · have h9 : (E != 0) = true := by simpa using h0
    have h8 : decide (E = 0) = false := decide_eq_false h0
    have h7 : (E == 0) = false := by simpa using h0
    go_wp2_with fail
    refine (awake2_any w6 U.out F.out TB.out).mono ?_
    rintro e wZ ⟨rfl, hb⟩
    replace HB := Lib.hid (HB.out.trans (hb.mono HB.out.size))
    clear hb
    go_wp2
    go_ret
    exact ⟨rfl, HB.out⟩
  replace h0 : E = 0 := Classical.not_not.1 h0
  have K5 := Lib.hid (KE.out.symm.trans h0)
  clear KE
  subst h0
  have HA := Lib.hid (ask_of hn1 hn2 hn3 hn4 HM.out (Int.not_lt.2 hM1) K1.out K2.out K3.out K4.out K5.out)
  clear hn1 hn2 hn3 hn4 HM K1 K2 K3 K4 K5
  go_upto_region 5 with fail
  clear hM1
  obtain ⟨A, hAd⟩ : ∃ A : Int, A = (Bell.sectorOf hx hy dx dy : Nat) := ⟨_, rfl⟩
  obtain ⟨C, hCd⟩ : ∃ C : Int, C = (((Bell.sectorOf hx hy dx dy + 2) % 8 : Nat) : Int) := ⟨_, rfl⟩
  obtain ⟨B, hBd⟩ : ∃ B : Int, B = (((Bell.sectorOf hx hy dx dy + 1) % 8 : Nat) : Int) := ⟨_, rfl⟩
  have hlt8 := Bell.sector_lt hx hy dx dy
  have hnz : hx ≠ 0 ∨ hy ≠ 0 := by have := HZ.out; omega
  have hnz2 : dx ≠ 0 ∨ dy ≠ 0 := by have := HZ2.out; omega
  have RA : Hid (0 ≤ A ∧ A ≤ 7 ∧ (A + 2).tmod 8 = C ∧ (A + 1).tmod 8 = B) := by
    show _ ∧ _ ∧ _ ∧ _
    rw [Int.tmod_eq_emod_of_nonneg (by omega), Int.tmod_eq_emod_of_nonneg (by omega)]
    omega
  have S1 : Hid (∀ W, Calls Tryz.prog 17 #[.agg #[.int .i64 hx, .int .i64 hy], .agg #[.int .i64 dx, .int .i64 dy]] W fun e w' => e = .returned (.tuple #[.int .i64 A, .int .i64 0]) ∧ Below W.heap.size W w') := fun W => by
    have g := HA.out
    have g1 := g.hx; have g2 := g.hy; have g3 := g.dx; have g4 := g.dy
    have h := Sector_ok hx hy dx dy W (by omega) (by omega) (by omega) (by omega)
    rwa [← hAd] at h
  have S2 : Hid (∀ W, Calls Tryz.prog 17 #[.agg #[.int .i64 (-hy), .int .i64 hx], .agg #[.int .i64 (-dy), .int .i64 dx]] W fun e w' => e = .returned (.tuple #[.int .i64 A, .int .i64 0]) ∧ Below W.heap.size W w') := fun W => by
    have g := HA.out
    have g1 := g.hx; have g2 := g.hy; have g3 := g.dx; have g4 := g.dy
    have h := Sector_ok (-hy) hx (-dy) dx W (by omega) (by omega) (by omega) (by omega)
    rwa [Bell.sector_both, ← hAd] at h
  have S3 : Hid (∀ W, Calls Tryz.prog 17 #[.agg #[.int .i64 hx, .int .i64 hy], .agg #[.int .i64 (-dy), .int .i64 dx]] W fun e w' => e = .returned (.tuple #[.int .i64 C, .int .i64 0]) ∧ Below W.heap.size W w') := fun W => by
    have g := HA.out
    have g1 := g.hx; have g2 := g.hy; have g3 := g.dx; have g4 := g.dy
    have h := Sector_ok hx hy (-dy) dx W (by omega) (by omega) (by omega) (by omega)
    rwa [Bell.sector_quarter hnz hnz2, ← hCd] at h
  have S4 : Hid (∀ W, Calls Tryz.prog 17 #[.agg #[.int .i64 hx, .int .i64 hy], .agg #[.int .i64 (dx - dy), .int .i64 (dx + dy)]] W fun e w' => e = .returned (.tuple #[.int .i64 B, .int .i64 0]) ∧ Below W.heap.size W w') := fun W => by
    have g := HA.out
    have g1 := g.hx; have g2 := g.hy; have g3 := g.dx; have g4 := g.dy
    have h := Sector_ok hx hy (dx - dy) (dx + dy) W (by omega) (by omega) (by omega) (by omega)
    rwa [Bell.sector_eighth hnz hnz2, ← hBd] at h
  have S5 : Hid (∀ W, Calls Tryz.prog 17 #[.agg #[.int .i64 hx, .int .i64 hy], .agg #[.int .i64 (3 * dx), .int .i64 (3 * dy)]] W fun e w' => e = .returned (.tuple #[.int .i64 A, .int .i64 0]) ∧ Below W.heap.size W w') := fun W => by
    have g := HA.out
    have g1 := g.hx; have g2 := g.hy; have g3 := g.dx; have g4 := g.dy
    have h := Sector_ok hx hy (3 * dx) (3 * dy) W (by omega) (by omega) (by omega) (by omega)
    rwa [Bell.sector_long, ← hAd] at h
  clear hAd hCd hBd hlt8 hnz hnz2 HZ HZ2
  have h0 := H.out.cell 0
  have h1 := H.out.cell 1
  simp only [List.getElem?_toArray, List.getElem?_cons_zero, List.getElem?_cons_succ] at h0 h1
  have d0 := D.out.cell 0
  have d1 := D.out.cell 1
  simp only [List.getElem?_toArray, List.getElem?_cons_zero, List.getElem?_cons_succ] at d0 d1
  go_wp2_with fail
  refine (S1.out w6).mono ?_
  rintro e w7 ⟨rfl, hb⟩
  clear h0 h1
  clear d0 d1
  replace HB := Lib.hid (HB.out.trans (hb.mono HB.out.size))
  replace U := Lib.hid (U.out.keep hb)
  replace F := Lib.hid (F.out.keep hb)
  replace TB := Lib.hid (TB.out.keep hb)
  replace HT := Lib.hid (HT.out.keep hb)
  replace TT := Lib.hid (TT.out.below hb)
  replace X := Lib.hid (X.out.below hb)
  replace H := Lib.hid (H.out.below hb)
  replace D := Lib.hid (D.out.below hb)
  clear hb
  go_upto_region 6 with fail
  refine wp_region_allN 12 rfl (by kernel_rfl) (by kernel_rfl) [GR.eq (.func (.func 82) #[] #[]), GR.eq (.agg #[.int .i64 hx, .int .i64 hy]), GR.eq (.agg #[.int .i64 (-hy), .int .i64 hx]), GR.eq (.func (.func 82) #[] #[]), GR.eq (.agg #[.int .i64 dx, .int .i64 dy]), GR.eq (.agg #[.int .i64 (-dy), .int .i64 dx]), GR.eq (.tuple #[.int .i64 A, .int .i64 0]), GR.eq (.tuple #[.int .i64 A, .int .i64 0]), GR.eq (.int .i64 A), GR.eq (.int .i64 0), GR.eq (.int .i64 A), GR.eq (.int .i64 0)] 393 rfl (by kernel_rfl) ?_ ?_
  · refine ⟨?_, ?_, ?_, ?_, ?_, ?_, ?_, ?_, ?_, ?_, ?_, ?_, trivial⟩
    · intro a W hE hd ho
      have e7 : a.tmps[7]?.getD undef = .func (.func 82) #[] #[] := ho 7 (by kernel_rfl)
      exact gs_same (v := .func (.func 82) #[] #[]) (by go_simp) rfl
    · intro a W hE hd ho
      have e5 : a.tmps[5]?.getD undef = .pointer (some ⟨g5, 0, none⟩) := ho 5 (by kernel_rfl)
      have c0 := (H.out.below hE).cell 0
      have c1 := (H.out.below hE).cell 1
      simp only [List.getElem?_toArray, List.getElem?_cons_zero, List.getElem?_cons_succ] at c0 c1
      exact gs_same (v := .agg #[.int .i64 hx, .int .i64 hy]) (by go_simp) rfl
    · intro a W hE hd ho
      have e121 : a.tmps[121]?.getD undef = .func (.func 82) #[] #[] := hd 0 121 (by kernel_rfl) (by kernel_rfl)
      have e122 : a.tmps[122]?.getD undef = .agg #[.int .i64 hx, .int .i64 hy] := hd 1 122 (by kernel_rfl) (by kernel_rfl)
      refine gs_call (f := 82) (args := #[.agg #[.int .i64 hx, .int .i64 hy]]) (by go_simp) ?_
      refine (quarter_any _ _ W (by have g := HA.out.hy; omega)).mono ?_
      rintro e w' ⟨rfl, hb⟩
      exact ⟨_, rfl, hb, rfl⟩
    · intro a W hE hd ho
      have e7 : a.tmps[7]?.getD undef = .func (.func 82) #[] #[] := ho 7 (by kernel_rfl)
      exact gs_same (v := .func (.func 82) #[] #[]) (by go_simp) rfl
    · intro a W hE hd ho
      have e6 : a.tmps[6]?.getD undef = .pointer (some ⟨g6, 0, none⟩) := ho 6 (by kernel_rfl)
      have c0 := (D.out.below hE).cell 0
      have c1 := (D.out.below hE).cell 1
      simp only [List.getElem?_toArray, List.getElem?_cons_zero, List.getElem?_cons_succ] at c0 c1
      exact gs_same (v := .agg #[.int .i64 dx, .int .i64 dy]) (by go_simp) rfl
    · intro a W hE hd ho
      have e124 : a.tmps[124]?.getD undef = .func (.func 82) #[] #[] := hd 3 124 (by kernel_rfl) (by kernel_rfl)
      have e125 : a.tmps[125]?.getD undef = .agg #[.int .i64 dx, .int .i64 dy] := hd 4 125 (by kernel_rfl) (by kernel_rfl)
      refine gs_call (f := 82) (args := #[.agg #[.int .i64 dx, .int .i64 dy]]) (by go_simp) ?_
      refine (quarter_any _ _ W (by have g := HA.out.dy; omega)).mono ?_
      rintro e w' ⟨rfl, hb⟩
      exact ⟨_, rfl, hb, rfl⟩
    · intro a W hE hd ho
      have e123 : a.tmps[123]?.getD undef = .agg #[.int .i64 (-hy), .int .i64 hx] := hd 2 123 (by kernel_rfl) (by kernel_rfl)
      have e126 : a.tmps[126]?.getD undef = .agg #[.int .i64 (-dy), .int .i64 dx] := hd 5 126 (by kernel_rfl) (by kernel_rfl)
      refine gs_call (f := 17) (args := #[.agg #[.int .i64 (-hy), .int .i64 hx], .agg #[.int .i64 (-dy), .int .i64 dx]]) (by go_simp) ?_
      refine (S2.out W).mono ?_
      rintro e w' ⟨rfl, hb⟩
      exact ⟨_, rfl, hb, rfl⟩
    · intro a W hE hd ho
      have e127 : a.tmps[127]?.getD undef = .tuple #[.int .i64 A, .int .i64 0] := hd 6 127 (by kernel_rfl) (by kernel_rfl)
      exact gs_same (v := .tuple #[.int .i64 A, .int .i64 0]) (by go_simp) rfl
    · intro a W hE hd ho
      have e120 : a.tmps[120]?.getD undef = .tuple #[.int .i64 A, .int .i64 0] := hd 7 120 (by kernel_rfl) (by kernel_rfl)
      exact gs_same (v := .int .i64 A) (by go_simp) rfl
    · intro a W hE hd ho
      have e120 : a.tmps[120]?.getD undef = .tuple #[.int .i64 A, .int .i64 0] := hd 7 120 (by kernel_rfl) (by kernel_rfl)
      exact gs_same (v := .int .i64 0) (by go_simp) rfl
    · intro a W hE hd ho
      have e128 : a.tmps[128]?.getD undef = .int .i64 A := hd 8 128 (by kernel_rfl) (by kernel_rfl)
      exact gs_same (v := .int .i64 A) (by go_simp) rfl
    · intro a W hE hd ho
      have e129 : a.tmps[129]?.getD undef = .int .i64 0 := hd 9 129 (by kernel_rfl) (by kernel_rfl)
      exact gs_same (v := .int .i64 0) (by go_simp) rfl
  intro vs w8 hE hR
  have y0 : vs 0 = .func (.func 82) #[] #[] := hR 0 (by omega)
  have y1 : vs 1 = .agg #[.int .i64 hx, .int .i64 hy] := hR 1 (by omega)
  have y2 : vs 2 = .agg #[.int .i64 (-hy), .int .i64 hx] := hR 2 (by omega)
  have y3 : vs 3 = .func (.func 82) #[] #[] := hR 3 (by omega)
  have y4 : vs 4 = .agg #[.int .i64 dx, .int .i64 dy] := hR 4 (by omega)
  have y5 : vs 5 = .agg #[.int .i64 (-dy), .int .i64 dx] := hR 5 (by omega)
  have y6 : vs 6 = .tuple #[.int .i64 A, .int .i64 0] := hR 6 (by omega)
  have y7 : vs 7 = .tuple #[.int .i64 A, .int .i64 0] := hR 7 (by omega)
  have y8 : vs 8 = .int .i64 A := hR 8 (by omega)
  have y9 : vs 9 = .int .i64 0 := hR 9 (by omega)
  have y10 : vs 10 = .int .i64 A := hR 10 (by omega)
  have y11 : vs 11 = .int .i64 0 := hR 11 (by omega)
  simp only [List.range, List.range.loop, List.foldl_cons, List.foldl_nil, y0, y1, y2, y3, y4, y5, y6, y7, y8, y9, y10, y11, List.drop_succ_cons, List.drop_zero]
  simp only [dstAt, List.getElem?_toArray, List.getElem?_cons_zero, List.getElem?_cons_succ, Option.bind_some, Act.put, List.setIfInBounds_toArray, List.set_cons_zero, List.set_cons_succ]
  clear y0 y1 y2 y3 y4 y5 y6 y7 y8 y9 y10 y11 hR
  have hb := hE.below
  replace HB := Lib.hid (HB.out.trans (hb.mono HB.out.size))
  replace U := Lib.hid (U.out.keep hb)
  replace F := Lib.hid (F.out.keep hb)
  replace TB := Lib.hid (TB.out.keep hb)
  replace HT := Lib.hid (HT.out.keep hb)
  replace TT := Lib.hid (TT.out.below hb)
  replace X := Lib.hid (X.out.below hb)
  replace H := Lib.hid (H.out.below hb)
  replace D := Lib.hid (D.out.below hb)
  clear hb
  clear hE
  go_upto_region 7 with fail
  refine wp_region_allN 10 rfl (by kernel_rfl) (by kernel_rfl) [GR.eq (.agg #[.int .i64 hx, .int .i64 hy]), GR.eq (.func (.func 82) #[] #[]), GR.eq (.agg #[.int .i64 dx, .int .i64 dy]), GR.eq (.agg #[.int .i64 (-dy), .int .i64 dx]), GR.eq (.tuple #[.int .i64 C, .int .i64 0]), GR.eq (.tuple #[.int .i64 C, .int .i64 0]), GR.eq (.int .i64 C), GR.eq (.int .i64 0), GR.eq (.int .i64 C), GR.eq (.int .i64 0)] 393 rfl (by kernel_rfl) ?_ ?_
  · refine ⟨?_, ?_, ?_, ?_, ?_, ?_, ?_, ?_, ?_, ?_, trivial⟩
    · intro a W hE hd ho
      have e5 : a.tmps[5]?.getD undef = .pointer (some ⟨g5, 0, none⟩) := ho 5 (by kernel_rfl)
      have c0 := (H.out.below hE).cell 0
      have c1 := (H.out.below hE).cell 1
      simp only [List.getElem?_toArray, List.getElem?_cons_zero, List.getElem?_cons_succ] at c0 c1
      exact gs_same (v := .agg #[.int .i64 hx, .int .i64 hy]) (by go_simp) rfl
    · intro a W hE hd ho
      have e7 : a.tmps[7]?.getD undef = .func (.func 82) #[] #[] := ho 7 (by kernel_rfl)
      exact gs_same (v := .func (.func 82) #[] #[]) (by go_simp) rfl
    · intro a W hE hd ho
      have e6 : a.tmps[6]?.getD undef = .pointer (some ⟨g6, 0, none⟩) := ho 6 (by kernel_rfl)
      have c0 := (D.out.below hE).cell 0
      have c1 := (D.out.below hE).cell 1
      simp only [List.getElem?_toArray, List.getElem?_cons_zero, List.getElem?_cons_succ] at c0 c1
      exact gs_same (v := .agg #[.int .i64 dx, .int .i64 dy]) (by go_simp) rfl
    · intro a W hE hd ho
      have e132 : a.tmps[132]?.getD undef = .func (.func 82) #[] #[] := hd 1 132 (by kernel_rfl) (by kernel_rfl)
      have e133 : a.tmps[133]?.getD undef = .agg #[.int .i64 dx, .int .i64 dy] := hd 2 133 (by kernel_rfl) (by kernel_rfl)
      refine gs_call (f := 82) (args := #[.agg #[.int .i64 dx, .int .i64 dy]]) (by go_simp) ?_
      refine (quarter_any _ _ W (by have g := HA.out.dy; omega)).mono ?_
      rintro e w' ⟨rfl, hb⟩
      exact ⟨_, rfl, hb, rfl⟩
    · intro a W hE hd ho
      have e131 : a.tmps[131]?.getD undef = .agg #[.int .i64 hx, .int .i64 hy] := hd 0 131 (by kernel_rfl) (by kernel_rfl)
      have e134 : a.tmps[134]?.getD undef = .agg #[.int .i64 (-dy), .int .i64 dx] := hd 3 134 (by kernel_rfl) (by kernel_rfl)
      refine gs_call (f := 17) (args := #[.agg #[.int .i64 hx, .int .i64 hy], .agg #[.int .i64 (-dy), .int .i64 dx]]) (by go_simp) ?_
      refine (S3.out W).mono ?_
      rintro e w' ⟨rfl, hb⟩
      exact ⟨_, rfl, hb, rfl⟩
    · intro a W hE hd ho
      have e135 : a.tmps[135]?.getD undef = .tuple #[.int .i64 C, .int .i64 0] := hd 4 135 (by kernel_rfl) (by kernel_rfl)
      exact gs_same (v := .tuple #[.int .i64 C, .int .i64 0]) (by go_simp) rfl
    · intro a W hE hd ho
      have e130 : a.tmps[130]?.getD undef = .tuple #[.int .i64 C, .int .i64 0] := hd 5 130 (by kernel_rfl) (by kernel_rfl)
      exact gs_same (v := .int .i64 C) (by go_simp) rfl
    · intro a W hE hd ho
      have e130 : a.tmps[130]?.getD undef = .tuple #[.int .i64 C, .int .i64 0] := hd 5 130 (by kernel_rfl) (by kernel_rfl)
      exact gs_same (v := .int .i64 0) (by go_simp) rfl
    · intro a W hE hd ho
      have e136 : a.tmps[136]?.getD undef = .int .i64 C := hd 6 136 (by kernel_rfl) (by kernel_rfl)
      exact gs_same (v := .int .i64 C) (by go_simp) rfl
    · intro a W hE hd ho
      have e137 : a.tmps[137]?.getD undef = .int .i64 0 := hd 7 137 (by kernel_rfl) (by kernel_rfl)
      exact gs_same (v := .int .i64 0) (by go_simp) rfl
  intro vs w9 hE hR
  have y0 : vs 0 = .agg #[.int .i64 hx, .int .i64 hy] := hR 0 (by omega)
  have y1 : vs 1 = .func (.func 82) #[] #[] := hR 1 (by omega)
  have y2 : vs 2 = .agg #[.int .i64 dx, .int .i64 dy] := hR 2 (by omega)
  have y3 : vs 3 = .agg #[.int .i64 (-dy), .int .i64 dx] := hR 3 (by omega)
  have y4 : vs 4 = .tuple #[.int .i64 C, .int .i64 0] := hR 4 (by omega)
  have y5 : vs 5 = .tuple #[.int .i64 C, .int .i64 0] := hR 5 (by omega)
  have y6 : vs 6 = .int .i64 C := hR 6 (by omega)
  have y7 : vs 7 = .int .i64 0 := hR 7 (by omega)
  have y8 : vs 8 = .int .i64 C := hR 8 (by omega)
  have y9 : vs 9 = .int .i64 0 := hR 9 (by omega)
  simp only [List.range, List.range.loop, List.foldl_cons, List.foldl_nil, y0, y1, y2, y3, y4, y5, y6, y7, y8, y9, List.drop_succ_cons, List.drop_zero]
  simp only [dstAt, List.getElem?_toArray, List.getElem?_cons_zero, List.getElem?_cons_succ, Option.bind_some, Act.put, List.setIfInBounds_toArray, List.set_cons_zero, List.set_cons_succ]
  clear y0 y1 y2 y3 y4 y5 y6 y7 y8 y9 hR
  have hb := hE.below
  replace HB := Lib.hid (HB.out.trans (hb.mono HB.out.size))
  replace U := Lib.hid (U.out.keep hb)
  replace F := Lib.hid (F.out.keep hb)
  replace TB := Lib.hid (TB.out.keep hb)
  replace HT := Lib.hid (HT.out.keep hb)
  replace TT := Lib.hid (TT.out.below hb)
  replace X := Lib.hid (X.out.below hb)
  replace H := Lib.hid (H.out.below hb)
  replace D := Lib.hid (D.out.below hb)
  clear hb
  clear hE
  have v1 : IntKind.i64.wrap (dx - dy) = dx - dy := IntWalk.i64_in _ (by have g1 := HA.out.dx; have g2 := HA.out.dy; omega)
  have v2 : IntKind.i64.wrap (dx + dy) = dx + dy := IntWalk.i64_in _ (by have g1 := HA.out.dx; have g2 := HA.out.dy; omega)
  have h0 := H.out.cell 0
  have h1 := H.out.cell 1
  simp only [List.getElem?_toArray, List.getElem?_cons_zero, List.getElem?_cons_succ] at h0 h1
  have d0 := D.out.cell 0
  have d1 := D.out.cell 1
  simp only [List.getElem?_toArray, List.getElem?_cons_zero, List.getElem?_cons_succ] at d0 d1
  go_wp2_with fail
  refine (S4.out w9).mono ?_
  rintro e w10 ⟨rfl, hb⟩
  clear h0 h1
  clear d0 d1
  clear v1 v2
  replace HB := Lib.hid (HB.out.trans (hb.mono HB.out.size))
  replace U := Lib.hid (U.out.keep hb)
  replace F := Lib.hid (F.out.keep hb)
  replace TB := Lib.hid (TB.out.keep hb)
  replace HT := Lib.hid (HT.out.keep hb)
  replace TT := Lib.hid (TT.out.below hb)
  replace X := Lib.hid (X.out.below hb)
  replace H := Lib.hid (H.out.below hb)
  replace D := Lib.hid (D.out.below hb)
  clear hb
  have v1 : IntKind.i64.wrap (3 * dx) = 3 * dx := IntWalk.i64_in _ (by have g1 := HA.out.dx; have g2 := HA.out.dy; omega)
  have v2 : IntKind.i64.wrap (3 * dy) = 3 * dy := IntWalk.i64_in _ (by have g1 := HA.out.dx; have g2 := HA.out.dy; omega)
  have h0 := H.out.cell 0
  have h1 := H.out.cell 1
  simp only [List.getElem?_toArray, List.getElem?_cons_zero, List.getElem?_cons_succ] at h0 h1
  have d0 := D.out.cell 0
  have d1 := D.out.cell 1
  simp only [List.getElem?_toArray, List.getElem?_cons_zero, List.getElem?_cons_succ] at d0 d1
  go_wp2_with fail
  refine (S5.out w10).mono ?_
  rintro e w11 ⟨rfl, hb⟩
  clear h0 h1
  clear d0 d1
  clear v1 v2
  replace HB := Lib.hid (HB.out.trans (hb.mono HB.out.size))
  replace U := Lib.hid (U.out.keep hb)
  replace F := Lib.hid (F.out.keep hb)
  replace TB := Lib.hid (TB.out.keep hb)
  replace HT := Lib.hid (HT.out.keep hb)
  replace TT := Lib.hid (TT.out.below hb)
  replace X := Lib.hid (X.out.below hb)
  replace H := Lib.hid (H.out.below hb)
  replace D := Lib.hid (D.out.below hb)
  clear hb
  obtain ⟨ra0, ra7, rc, rb⟩ := RA.out
  have i0 : ¬ A < 0 := by omega
  have i7 : ¬ 7 < A := by omega
  have v1 : IntKind.i64.wrap (A + 2) = A + 2 := IntWalk.i64_in _ (by omega)
  have v2 : IntKind.i64.wrap (A + 1) = A + 1 := IntWalk.i64_in _ (by omega)
  clear ra0 ra7
  clear S1 S2 S3 S4 S5 RA
  go_upto_region 12 with fail
  clear i0 i7 v1 v2 rc rb
  obtain ⟨Z1, hZ1⟩ : ∃ z, z = min 20000 rz := ⟨_, rfl⟩
  obtain ⟨Z, hZ⟩ : ∃ z, z = max 0 Z1 := ⟨_, rfl⟩
  have r1 : ∀ ts t W, (Builtin.min_ ts t #[.int .i64 20000, .int .i64 rz]).run Tryz.prog W = .ok (.int .i64 Z1) W := fun ts t W => by rw [hZ1]; exact run_min2' _ _ _ _ _ _
  have r2 : ∀ ts t W, (Builtin.max_ ts t #[.int .i64 0, .int .i64 Z1]).run Tryz.prog W = .ok (.int .i64 Z) W := fun ts t W => by rw [hZ]; exact run_max2' _ _ _ _ _ _
  have v1 : IntKind.i64.wrap (ax + dx) = ax + dx := IntWalk.i64_in _ (by have g1 := HA.out.dx; have g2 := HA.out.ax; omega)
  have v2 : IntKind.i64.wrap (ay + dy) = ay + dy := IntWalk.i64_in _ (by have g1 := HA.out.dy; have g2 := HA.out.ay; omega)
  clear hZ hZ1
  have x2 := X.out.cell 2
  have x3 := X.out.cell 3
  have x10 := X.out.cell 10
  simp only [List.getElem?_toArray, List.getElem?_cons_zero, List.getElem?_cons_succ] at x2 x3 x10
  have d0 := D.out.cell 0
  have d1 := D.out.cell 1
  simp only [List.getElem?_toArray, List.getElem?_cons_zero, List.getElem?_cons_succ] at d0 d1
  go_upto_region 13 with fail
  obtain ⟨w12, hw12⟩ : ∃ W, W = (w11.alloc (.cells #[.int .i64 (ax + dx), .int .i64 (ay + dy), .int .i64 Z] 28)) := ⟨_, rfl⟩
  rw [← hw12]
  have R : Hid (Blk w12 (w11.heap.size) 28 #[.int .i64 (ax + dx), .int .i64 (ay + dy), .int .i64 Z]) := by show Blk _ _ _ _; rw [hw12]; exact Blk.new _ _ _
  have hb : Below w11.heap.size w11 w12 := by rw [hw12]; exact ((Below.refl _ _).alloc (Nat.le_refl _) _)
  obtain ⟨g18, hg18⟩ : ∃ g, g = w11.heap.size := ⟨_, rfl⟩
  have HGw12 : Hid (g18 = w11.heap.size) := hg18
  rw [← hg18] at R
  try rw [← hg18]
  clear hw12 hg18
  clear x2 x3 x10
  clear d0 d1
  clear r1 r2 v1 v2
  replace HB := Lib.hid (HB.out.trans (hb.mono HB.out.size))
  replace U := Lib.hid (U.out.keep hb)
  replace F := Lib.hid (F.out.keep hb)
  replace TB := Lib.hid (TB.out.keep hb)
  replace HT := Lib.hid (HT.out.keep hb)
  replace TT := Lib.hid (TT.out.below hb)
  replace X := Lib.hid (X.out.below hb)
  replace H := Lib.hid (H.out.below hb)
  replace D := Lib.hid (D.out.below hb)
  clear hb
  have x2 := X.out.cell 2
  have x3 := X.out.cell 3
  have x4 := X.out.cell 4
  have x5 := X.out.cell 5
  have x6 := X.out.cell 6
  have x7 := X.out.cell 7
  simp only [List.getElem?_toArray, List.getElem?_cons_zero, List.getElem?_cons_succ] at x2 x3 x4 x5 x6 x7
  go_upto_region 14 with fail
  obtain ⟨w13, hw13⟩ : ∃ W, W = (w12.alloc (.cells #[.int .i64 ax, .int .i64 ay, .int .i64 az, .int .i64 hx, .int .i64 hy, .int .i64 sp] 32)) := ⟨_, rfl⟩
  rw [← hw13]
  have S : Hid (Blk w13 (w12.heap.size) 32 #[.int .i64 ax, .int .i64 ay, .int .i64 az, .int .i64 hx, .int .i64 hy, .int .i64 sp]) := by show Blk _ _ _ _; rw [hw13]; exact Blk.new _ _ _
  have hb : Below w12.heap.size w12 w13 := by rw [hw13]; exact ((Below.refl _ _).alloc (Nat.le_refl _) _)
  obtain ⟨g19, hg19⟩ : ∃ g, g = w12.heap.size := ⟨_, rfl⟩
  have HGw13 : Hid (g19 = w12.heap.size) := hg19
  rw [← hg19] at S
  try rw [← hg19]
  clear hw13 hg19
  clear x2 x3 x4 x5 x6 x7
  have HC := Lib.hid hb
  have HG19 : Hid (w12.heap.size ≤ g19) := by show _ ≤ _; rw [HGw13.out]; exact Nat.le_refl _
  clear hb
  have h0 := (H.out.below HC.out).cell 0
  have h1 := (H.out.below HC.out).cell 1
  simp only [List.getElem?_toArray, List.getElem?_cons_zero, List.getElem?_cons_succ] at h0 h1
  go_wp2_with fail
  refine (quarter_any hx hy w13 (by have g := HA.out.hy; omega)).mono ?_
  rintro e w14 ⟨rfl, hb⟩
  replace HC := Lib.hid (HC.out.trans (hb.mono HC.out.size))
  replace S := Lib.hid (S.out.below hb)
  clear hb h0 h1
  have s3 := S.out.cell 3
  have s4 := S.out.cell 4
  have f3 := S.out.frozen 3
  have f4 := S.out.frozen 4
  simp only [List.getElem?_toArray, List.getElem?_cons_zero, List.getElem?_cons_succ] at s3 s4
  go_upto_region 15 with fail
  obtain ⟨w15, hw15⟩ : ∃ W, W = (w14.setCell ⟨g19, 3, none⟩ (.int .i64 (-hy))).setCell ⟨g19, 4, none⟩ (.int .i64 hx) := ⟨_, rfl⟩
  rw [← hw15]
  have hb : Below w12.heap.size w12 w15 := by rw [hw15]; exact (HC.out.setCell HG19.out _).setCell HG19.out _
  have SN : Hid (Blk w15 g19 32 #[.int .i64 ax, .int .i64 ay, .int .i64 az, .int .i64 (-hy), .int .i64 hx, .int .i64 sp]) := by show Blk _ _ _ _; rw [hw15]; exact (S.out.set_ 3 _).set_ 4 _
  clear hw15 S HC HG19 s3 s4 f3 f4
  replace HB := Lib.hid (HB.out.trans (hb.mono HB.out.size))
  replace U := Lib.hid (U.out.keep hb)
  replace F := Lib.hid (F.out.keep hb)
  replace TB := Lib.hid (TB.out.keep hb)
  replace HT := Lib.hid (HT.out.keep hb)
  replace TT := Lib.hid (TT.out.below hb)
  replace X := Lib.hid (X.out.below hb)
  replace H := Lib.hid (H.out.below hb)
  replace D := Lib.hid (D.out.below hb)
  replace R := Lib.hid (R.out.below hb)
  clear hb
  have d0 := D.out.cell 0
  have d1 := D.out.cell 1
  simp only [List.getElem?_toArray, List.getElem?_cons_zero, List.getElem?_cons_succ] at d0 d1
  go_wp2_with fail
  refine (quarter_any dx dy w15 (by have g := HA.out.dy; omega)).mono ?_
  rintro e w16 ⟨rfl, hb⟩
  clear d0 d1
  replace HB := Lib.hid (HB.out.trans (hb.mono HB.out.size))
  replace U := Lib.hid (U.out.keep hb)
  replace F := Lib.hid (F.out.keep hb)
  replace TB := Lib.hid (TB.out.keep hb)
  replace HT := Lib.hid (HT.out.keep hb)
  replace TT := Lib.hid (TT.out.below hb)
  replace X := Lib.hid (X.out.below hb)
  replace H := Lib.hid (H.out.below hb)
  replace D := Lib.hid (D.out.below hb)
  replace R := Lib.hid (R.out.below hb)
  replace SN := Lib.hid (SN.out.below hb)
  clear hb
  go_upto_region 16 with fail
  obtain ⟨w17, hw17⟩ : ∃ W, W = (w16.alloc (.cells #[.int .i64 (-dy), .int .i64 dx] 30)) := ⟨_, rfl⟩
  rw [← hw17]
  have QQ : Hid (Blk w17 (w16.heap.size) 30 #[.int .i64 (-dy), .int .i64 dx]) := by show Blk _ _ _ _; rw [hw17]; exact Blk.new _ _ _
  have hb : Below w16.heap.size w16 w17 := by rw [hw17]; exact ((Below.refl _ _).alloc (Nat.le_refl _) _)
  obtain ⟨g20, hg20⟩ : ∃ g, g = w16.heap.size := ⟨_, rfl⟩
  have HGw17 : Hid (g20 = w16.heap.size) := hg20
  rw [← hg20] at QQ
  try rw [← hg20]
  clear hw17 hg20
  replace HB := Lib.hid (HB.out.trans (hb.mono HB.out.size))
  replace U := Lib.hid (U.out.keep hb)
  replace F := Lib.hid (F.out.keep hb)
  replace TB := Lib.hid (TB.out.keep hb)
  replace HT := Lib.hid (HT.out.keep hb)
  replace TT := Lib.hid (TT.out.below hb)
  replace X := Lib.hid (X.out.below hb)
  replace H := Lib.hid (H.out.below hb)
  replace D := Lib.hid (D.out.below hb)
  replace R := Lib.hid (R.out.below hb)
  replace SN := Lib.hid (SN.out.below hb)
  clear hb
  have v1 : IntKind.i64.wrap (ax + -dy) = ax - dy := by rw [IntWalk.i64_in _ (by have g1 := HA.out.dy; have g2 := HA.out.ax; omega)]; omega
  have v2 : IntKind.i64.wrap (ay + dx) = ay + dx := IntWalk.i64_in _ (by have g1 := HA.out.dx; have g2 := HA.out.ay; omega)
  have y0 := SN.out.cell 0
  have y1 := SN.out.cell 1
  simp only [List.getElem?_toArray, List.getElem?_cons_zero, List.getElem?_cons_succ] at y0 y1
  have z0 := QQ.out.cell 0
  have z1 := QQ.out.cell 1
  simp only [List.getElem?_toArray, List.getElem?_cons_zero, List.getElem?_cons_succ] at z0 z1
  have t2 := R.out.cell 2
  simp only [List.getElem?_toArray, List.getElem?_cons_zero, List.getElem?_cons_succ] at t2
  go_upto_region 17 with fail
  obtain ⟨w18, hw18⟩ : ∃ W, W = (w17.alloc (.cells #[.int .i64 (ax - dy), .int .i64 (ay + dx), .int .i64 Z] 28)) := ⟨_, rfl⟩
  rw [← hw18]
  have O : Hid (Blk w18 (w17.heap.size) 28 #[.int .i64 (ax - dy), .int .i64 (ay + dx), .int .i64 Z]) := by show Blk _ _ _ _; rw [hw18]; exact Blk.new _ _ _
  have hb : Below w17.heap.size w17 w18 := by rw [hw18]; exact ((Below.refl _ _).alloc (Nat.le_refl _) _)
  obtain ⟨g21, hg21⟩ : ∃ g, g = w17.heap.size := ⟨_, rfl⟩
  have HGw18 : Hid (g21 = w17.heap.size) := hg21
  rw [← hg21] at O
  try rw [← hg21]
  clear hw18 hg21
  clear y0 y1
  clear z0 z1
  clear t2
  clear v1 v2 QQ
  replace HB := Lib.hid (HB.out.trans (hb.mono HB.out.size))
  replace U := Lib.hid (U.out.keep hb)
  replace F := Lib.hid (F.out.keep hb)
  replace TB := Lib.hid (TB.out.keep hb)
  replace HT := Lib.hid (HT.out.keep hb)
  replace TT := Lib.hid (TT.out.below hb)
  replace X := Lib.hid (X.out.below hb)
  replace H := Lib.hid (H.out.below hb)
  replace D := Lib.hid (D.out.below hb)
  replace R := Lib.hid (R.out.below hb)
  replace SN := Lib.hid (SN.out.below hb)
  clear hb
  have hsn0 : 0 < sn := by have h1 := HNG.out.2.sh.cnt; rw [HT.out.shares.1] at h1; exact h1.1
  have t0 := R.out.cell 0
  have t1 := R.out.cell 1
  have t2 := R.out.cell 2
  simp only [List.getElem?_toArray, List.getElem?_cons_zero, List.getElem?_cons_succ] at t0 t1 t2
  go_wp2_with fail
  refine (refPlace_any (ax + dx) (ay + dy) Z w18).mono ?_
  rintro e w19 ⟨rfl, hb⟩
  clear t0 t1 t2
  replace HB := Lib.hid (HB.out.trans (hb.mono HB.out.size))
  replace U := Lib.hid (U.out.keep hb)
  replace F := Lib.hid (F.out.keep hb)
  replace TB := Lib.hid (TB.out.keep hb)
  replace HT := Lib.hid (HT.out.keep hb)
  replace TT := Lib.hid (TT.out.below hb)
  replace X := Lib.hid (X.out.below hb)
  replace H := Lib.hid (H.out.below hb)
  replace D := Lib.hid (D.out.below hb)
  replace R := Lib.hid (R.out.below hb)
  replace SN := Lib.hid (SN.out.below hb)
  replace O := Lib.hid (O.out.below hb)
  clear hb
  obtain ⟨E, hE⟩ : ∃ E, E = placeE (ax + dx) (ay + dy) Z := ⟨_, rfl⟩
  rw [← hE]
  by_cases h0 : ¬ E = 0
  · clear hE
    go_upto_region 22 with fail
    obtain ⟨Q2, hQ2⟩ : ∃ z, z = min 100000000000 (2 * sq) := ⟨_, rfl⟩
    obtain ⟨P2, hP2⟩ : ∃ z, z = min 100 (pw + 3) := ⟨_, rfl⟩
    obtain ⟨N, hN⟩ : ∃ z, z = Bell.emis T.sets (Bell.reachOf T.squares sq) pw := ⟨_, rfl⟩
    obtain ⟨FA, hFA⟩ : ∃ z, z = Bell.emis T.sets (Bell.reachOf T.squares Q2) pw := ⟨_, rfl⟩
    obtain ⟨MO, hMO⟩ : ∃ z, z = Bell.emis T.sets (Bell.reachOf T.squares sq) P2 := ⟨_, rfl⟩
    have r1 : ∀ ts t W, (Builtin.min_ ts t #[.int .i64 100000000000, .int .i64 (2 * sq)]).run Tryz.prog W = .ok (.int .i64 Q2) W := fun ts t W => by rw [hQ2]; exact run_min2' _ _ _ _ _ _
    have r2 : ∀ ts t W, (Builtin.min_ ts t #[.int .i64 100, .int .i64 (pw + 3)]).run Tryz.prog W = .ok (.int .i64 P2) W := fun ts t W => by rw [hP2]; exact run_min2' _ _ _ _ _ _
    have v1 : IntKind.i64.wrap (2 * sq) = 2 * sq := IntWalk.i64_in _ (by have g := HA.out.sq; omega)
    have v2 : IntKind.i64.wrap (pw + 3) = pw + 3 := IntWalk.i64_in _ (by have g := HA.out.pw; omega)
    have M1 : Hid (∀ (cs' : Array Value) (sa' : Option Addr) (sc' qb qo qc' gb go gc' : Nat) (W : World), TyOk W cs' nm sh T sa' sn sc' qb qo qn qc' gb go gn gc' → Calls Tryz.prog 15 #[.agg cs', .int .i64 pw, .int .i64 sq] W fun e w' => e = .returned (.tuple #[.int .i64 N, .int .i64 0]) ∧ Below W.heap.size W w') := fun cs' sa' sc' qb qo qc' gb go gc' W hk => by
      have h := Emission_ok pw sq W hk (by have g := HA.out.pw; omega) (by have g := HA.out.sq; omega)
      rwa [← hN] at h
    have M2 : Hid (∀ (cs' : Array Value) (sa' : Option Addr) (sc' qb qo qc' gb go gc' : Nat) (W : World), TyOk W cs' nm sh T sa' sn sc' qb qo qn qc' gb go gn gc' → Calls Tryz.prog 15 #[.agg cs', .int .i64 pw, .int .i64 Q2] W fun e w' => e = .returned (.tuple #[.int .i64 FA, .int .i64 0]) ∧ Below W.heap.size W w') := fun cs' sa' sc' qb qo qc' gb go gc' W hk => by
      have h := Emission_ok pw Q2 W hk (by have g := HA.out.pw; omega) (by have g := HA.out.sq; omega)
      rwa [← hFA] at h
    have M3 : Hid (∀ (cs' : Array Value) (sa' : Option Addr) (sc' qb qo qc' gb go gc' : Nat) (W : World), TyOk W cs' nm sh T sa' sn sc' qb qo qn qc' gb go gn gc' → Calls Tryz.prog 15 #[.agg cs', .int .i64 P2, .int .i64 sq] W fun e w' => e = .returned (.tuple #[.int .i64 MO, .int .i64 0]) ∧ Below W.heap.size W w') := fun cs' sa' sc' qb qo qc' gb go gc' W hk => by
      have h := Emission_ok P2 sq W hk (by have g := HA.out.pw; omega) (by have g := HA.out.sq; omega)
      rwa [← hMO] at h
    have HO : Hid (0 ≤ N ∧ FA ≤ N ∧ N ≤ MO) := by
      have gs := HNG.out.2.ty.sets
      have g0 := HNG.out.2.ty.sq
      have g := HA.out.sq
      have g2 := HA.out.pw
      show _ ∧ _ ∧ _
      rw [hN, hFA, hMO]
      exact ⟨(Bell.emis_range gs (Bell.reach_lt g0) pw).1, Bell.emis_far gs (Bell.reach_mono (by omega)) (Bell.reach_lt g0) pw, Bell.emis_power gs (Bell.reach_lt g0) (by omega)⟩
    have MB : Hid (∀ (cs' : Array Value) (sa' : Option Addr) (sc' qb qo qc' gb go gc' : Nat) (W : World), TyOk W cs' nm sh T sa' sn sc' qb qo qn qc' gb go gn gc' → Calls Tryz.prog 19 #[.agg cs', .int .i64 en] W fun x w' => ∃ g, x = .returned (.tuple #[.slice (some ⟨g, 0, none⟩) sn sn, .int .i64 0]) ∧ (∀ i, i < sn → w'.cell? ⟨g, i, none⟩ = some (.int .i64 (bandAt sh en sn i))) ∧ Below W.heap.size W w') := fun cs' sa' sc' qb qo qc' gb go gc' W hk => Banded_ok en W hk HA.out.en
    clear hQ2 hP2 hN hFA hMO
    refine wp_region_allN 12 rfl (by kernel_rfl) (by kernel_rfl) [GR.eq (.agg cs), GR.gv nm sh T sn qn gn, GR.eq (.pointer (some ⟨g3, 0, none⟩)), GR.eq (.int .i64 pw), GR.eq (.pointer (some ⟨g3, 1, none⟩)), GR.eq (.int .i64 sq), GR.eq (.tuple #[.int .i64 N, .int .i64 0]), GR.eq (.tuple #[.int .i64 N, .int .i64 0]), GR.eq (.int .i64 N), GR.eq (.int .i64 0), GR.eq (.int .i64 N), GR.eq (.int .i64 0)] 393 rfl (by kernel_rfl) ?_ ?_
    · refine ⟨?_, ?_, ?_, ?_, ?_, ?_, ?_, ?_, ?_, ?_, ?_, ?_, trivial⟩
      · intro a W hE hd ho
        have e2 : a.tmps[2]?.getD undef = .pointer (some ⟨g2, 0, none⟩) := ho 2 (by kernel_rfl)
        exact gs_load 26 (.tmp 2) rfl ⟨g2, 0, none⟩ (.agg cs) ((eval_getD _ _).trans e2) ((TT.out.below hE).lv Tryz.prog Tryz.underlying26 rfl IT.out) rfl
      · intro a W hE hd ho
        have e297 : a.tmps[297]?.getD undef = .agg cs := hd 0 297 (by kernel_rfl) (by kernel_rfl)
        refine gs_call (f := 16) (args := #[.agg cs]) (by go_simp) ?_
        refine (given_any W (HT.out.keep hE) HNG.out.2 HNG.out.1 hS.out.name).mono ?_
        rintro e w9 ⟨cs', sa', sc', qb, qo, qc', gb, go, gc', rfl, h1, h2⟩
        exact ⟨_, rfl, h2, cs', sa', sc', qb, qo, qc', gb, go, gc', rfl, h1⟩
      · intro a W hE hd ho
        have e3 : a.tmps[3]?.getD undef = .pointer (some ⟨g3, 0, none⟩) := ho 3 (by kernel_rfl)
        exact gs_same (v := .pointer (some ⟨g3, 0, none⟩)) (by go_simp) rfl
      · intro a W hE hd ho
        have e299 : a.tmps[299]?.getD undef = .pointer (some ⟨g3, 0, none⟩) := hd 2 299 (by kernel_rfl) (by kernel_rfl)
        have c0 := (X.out.below hE).cell 0
        simp only [List.getElem?_toArray, List.getElem?_cons_zero, List.getElem?_cons_succ] at c0
        exact gs_same (v := .int .i64 pw) (by go_simp) rfl
      · intro a W hE hd ho
        have e3 : a.tmps[3]?.getD undef = .pointer (some ⟨g3, 0, none⟩) := ho 3 (by kernel_rfl)
        exact gs_same (v := .pointer (some ⟨g3, 1, none⟩)) (by go_simp) rfl
      · intro a W hE hd ho
        have e301 : a.tmps[301]?.getD undef = .pointer (some ⟨g3, 1, none⟩) := hd 4 301 (by kernel_rfl) (by kernel_rfl)
        have c1 := (X.out.below hE).cell 1
        simp only [List.getElem?_toArray, List.getElem?_cons_zero, List.getElem?_cons_succ] at c1
        exact gs_same (v := .int .i64 sq) (by go_simp) rfl
      · intro a W hE hd ho
        have e300 : a.tmps[300]?.getD undef = .int .i64 pw := hd 3 300 (by kernel_rfl) (by kernel_rfl)
        have e302 : a.tmps[302]?.getD undef = .int .i64 sq := hd 5 302 (by kernel_rfl) (by kernel_rfl)
        obtain ⟨cs', sa', sc', qb, qo, qc', gb, go, gc', e298, hk⟩ : ∃ cs sa sc qb qo qc gb go gc, a.tmps[298]?.getD undef = .agg cs ∧ TyOk W cs nm sh T sa sn sc qb qo qn qc gb go gn gc := hd 1 298 (by kernel_rfl) (by kernel_rfl)
        refine gs_call (f := 15) (args := #[.agg cs', .int .i64 pw, .int .i64 sq]) (by go_simp) ?_
        refine (M1.out _ _ _ _ _ _ _ _ _ W hk).mono ?_
        rintro e w' ⟨rfl, hb⟩
        exact ⟨_, rfl, hb, rfl⟩
      · intro a W hE hd ho
        have e303 : a.tmps[303]?.getD undef = .tuple #[.int .i64 N, .int .i64 0] := hd 6 303 (by kernel_rfl) (by kernel_rfl)
        exact gs_same (v := .tuple #[.int .i64 N, .int .i64 0]) (by go_simp) rfl
      · intro a W hE hd ho
        have e296 : a.tmps[296]?.getD undef = .tuple #[.int .i64 N, .int .i64 0] := hd 7 296 (by kernel_rfl) (by kernel_rfl)
        exact gs_same (v := .int .i64 N) (by go_simp) rfl
      · intro a W hE hd ho
        have e296 : a.tmps[296]?.getD undef = .tuple #[.int .i64 N, .int .i64 0] := hd 7 296 (by kernel_rfl) (by kernel_rfl)
        exact gs_same (v := .int .i64 0) (by go_simp) rfl
      · intro a W hE hd ho
        have e304 : a.tmps[304]?.getD undef = .int .i64 N := hd 8 304 (by kernel_rfl) (by kernel_rfl)
        exact gs_same (v := .int .i64 N) (by go_simp) rfl
      · intro a W hE hd ho
        have e305 : a.tmps[305]?.getD undef = .int .i64 0 := hd 9 305 (by kernel_rfl) (by kernel_rfl)
        exact gs_same (v := .int .i64 0) (by go_simp) rfl
    intro vt k10 hE hR
    have y0 : vt 0 = .agg cs := hR 0 (by omega)
    obtain ⟨vgv, y1⟩ : ∃ v, vt 1 = v := ⟨_, rfl⟩
    have y2 : vt 2 = .pointer (some ⟨g3, 0, none⟩) := hR 2 (by omega)
    have y3 : vt 3 = .int .i64 pw := hR 3 (by omega)
    have y4 : vt 4 = .pointer (some ⟨g3, 1, none⟩) := hR 4 (by omega)
    have y5 : vt 5 = .int .i64 sq := hR 5 (by omega)
    have y6 : vt 6 = .tuple #[.int .i64 N, .int .i64 0] := hR 6 (by omega)
    have y7 : vt 7 = .tuple #[.int .i64 N, .int .i64 0] := hR 7 (by omega)
    have y8 : vt 8 = .int .i64 N := hR 8 (by omega)
    have y9 : vt 9 = .int .i64 0 := hR 9 (by omega)
    have y10 : vt 10 = .int .i64 N := hR 10 (by omega)
    have y11 : vt 11 = .int .i64 0 := hR 11 (by omega)
    simp only [List.range, List.range.loop, List.foldl_cons, List.foldl_nil, y0, y1, y2, y3, y4, y5, y6, y7, y8, y9, y10, y11, List.drop_succ_cons, List.drop_zero]
    simp only [dstAt, List.getElem?_toArray, List.getElem?_cons_zero, List.getElem?_cons_succ, Option.bind_some, Act.put, List.setIfInBounds_toArray, List.set_cons_zero, List.set_cons_succ]
    clear y0 y1 y2 y3 y4 y5 y6 y7 y8 y9 y10 y11 hR
    have hb := hE.below
    replace HB := Lib.hid (HB.out.trans (hb.mono HB.out.size))
    replace U := Lib.hid (U.out.keep hb)
    replace F := Lib.hid (F.out.keep hb)
    replace TB := Lib.hid (TB.out.keep hb)
    replace HT := Lib.hid (HT.out.keep hb)
    replace TT := Lib.hid (TT.out.below hb)
    replace X := Lib.hid (X.out.below hb)
    clear hb
    clear hE
    go_upto_region 23 with fail
    refine wp_region_allN 14 rfl (by kernel_rfl) (by kernel_rfl) [GR.eq (.agg cs), GR.gv nm sh T sn qn gn, GR.eq (.pointer (some ⟨g3, 0, none⟩)), GR.eq (.int .i64 pw), GR.eq (.pointer (some ⟨g3, 1, none⟩)), GR.eq (.int .i64 sq), GR.eq (.int .i64 (2 * sq)), GR.eq (.int .i64 Q2), GR.eq (.tuple #[.int .i64 FA, .int .i64 0]), GR.eq (.tuple #[.int .i64 FA, .int .i64 0]), GR.eq (.int .i64 FA), GR.eq (.int .i64 0), GR.eq (.int .i64 FA), GR.eq (.int .i64 0)] 393 rfl (by kernel_rfl) ?_ ?_
    · refine ⟨?_, ?_, ?_, ?_, ?_, ?_, ?_, ?_, ?_, ?_, ?_, ?_, ?_, ?_, trivial⟩
      · intro a W hE hd ho
        have e2 : a.tmps[2]?.getD undef = .pointer (some ⟨g2, 0, none⟩) := ho 2 (by kernel_rfl)
        exact gs_load 26 (.tmp 2) rfl ⟨g2, 0, none⟩ (.agg cs) ((eval_getD _ _).trans e2) ((TT.out.below hE).lv Tryz.prog Tryz.underlying26 rfl IT.out) rfl
      · intro a W hE hd ho
        have e307 : a.tmps[307]?.getD undef = .agg cs := hd 0 307 (by kernel_rfl) (by kernel_rfl)
        refine gs_call (f := 16) (args := #[.agg cs]) (by go_simp) ?_
        refine (given_any W (HT.out.keep hE) HNG.out.2 HNG.out.1 hS.out.name).mono ?_
        rintro e w9 ⟨cs', sa', sc', qb, qo, qc', gb, go, gc', rfl, h1, h2⟩
        exact ⟨_, rfl, h2, cs', sa', sc', qb, qo, qc', gb, go, gc', rfl, h1⟩
      · intro a W hE hd ho
        have e3 : a.tmps[3]?.getD undef = .pointer (some ⟨g3, 0, none⟩) := ho 3 (by kernel_rfl)
        exact gs_same (v := .pointer (some ⟨g3, 0, none⟩)) (by go_simp) rfl
      · intro a W hE hd ho
        have e309 : a.tmps[309]?.getD undef = .pointer (some ⟨g3, 0, none⟩) := hd 2 309 (by kernel_rfl) (by kernel_rfl)
        have c0 := (X.out.below hE).cell 0
        simp only [List.getElem?_toArray, List.getElem?_cons_zero, List.getElem?_cons_succ] at c0
        exact gs_same (v := .int .i64 pw) (by go_simp) rfl
      · intro a W hE hd ho
        have e3 : a.tmps[3]?.getD undef = .pointer (some ⟨g3, 0, none⟩) := ho 3 (by kernel_rfl)
        exact gs_same (v := .pointer (some ⟨g3, 1, none⟩)) (by go_simp) rfl
      · intro a W hE hd ho
        have e311 : a.tmps[311]?.getD undef = .pointer (some ⟨g3, 1, none⟩) := hd 4 311 (by kernel_rfl) (by kernel_rfl)
        have c1 := (X.out.below hE).cell 1
        simp only [List.getElem?_toArray, List.getElem?_cons_zero, List.getElem?_cons_succ] at c1
        exact gs_same (v := .int .i64 sq) (by go_simp) rfl
      · intro a W hE hd ho
        have e312 : a.tmps[312]?.getD undef = .int .i64 sq := hd 5 312 (by kernel_rfl) (by kernel_rfl)
        exact gs_same (v := .int .i64 (2 * sq)) (by go_simp) rfl
      · intro a W hE hd ho
        have e313 : a.tmps[313]?.getD undef = .int .i64 (2 * sq) := hd 6 313 (by kernel_rfl) (by kernel_rfl)
        exact gs_same (v := .int .i64 Q2) (by go_simp) rfl
      · intro a W hE hd ho
        have e310 : a.tmps[310]?.getD undef = .int .i64 pw := hd 3 310 (by kernel_rfl) (by kernel_rfl)
        have e314 : a.tmps[314]?.getD undef = .int .i64 Q2 := hd 7 314 (by kernel_rfl) (by kernel_rfl)
        obtain ⟨cs', sa', sc', qb, qo, qc', gb, go, gc', e308, hk⟩ : ∃ cs sa sc qb qo qc gb go gc, a.tmps[308]?.getD undef = .agg cs ∧ TyOk W cs nm sh T sa sn sc qb qo qn qc gb go gn gc := hd 1 308 (by kernel_rfl) (by kernel_rfl)
        refine gs_call (f := 15) (args := #[.agg cs', .int .i64 pw, .int .i64 Q2]) (by go_simp) ?_
        refine (M2.out _ _ _ _ _ _ _ _ _ W hk).mono ?_
        rintro e w' ⟨rfl, hb⟩
        exact ⟨_, rfl, hb, rfl⟩
      · intro a W hE hd ho
        have e315 : a.tmps[315]?.getD undef = .tuple #[.int .i64 FA, .int .i64 0] := hd 8 315 (by kernel_rfl) (by kernel_rfl)
        exact gs_same (v := .tuple #[.int .i64 FA, .int .i64 0]) (by go_simp) rfl
      · intro a W hE hd ho
        have e306 : a.tmps[306]?.getD undef = .tuple #[.int .i64 FA, .int .i64 0] := hd 9 306 (by kernel_rfl) (by kernel_rfl)
        exact gs_same (v := .int .i64 FA) (by go_simp) rfl
      · intro a W hE hd ho
        have e306 : a.tmps[306]?.getD undef = .tuple #[.int .i64 FA, .int .i64 0] := hd 9 306 (by kernel_rfl) (by kernel_rfl)
        exact gs_same (v := .int .i64 0) (by go_simp) rfl
      · intro a W hE hd ho
        have e316 : a.tmps[316]?.getD undef = .int .i64 FA := hd 10 316 (by kernel_rfl) (by kernel_rfl)
        exact gs_same (v := .int .i64 FA) (by go_simp) rfl
      · intro a W hE hd ho
        have e317 : a.tmps[317]?.getD undef = .int .i64 0 := hd 11 317 (by kernel_rfl) (by kernel_rfl)
        exact gs_same (v := .int .i64 0) (by go_simp) rfl
    intro vt k11 hE hR
    have y0 : vt 0 = .agg cs := hR 0 (by omega)
    obtain ⟨vgv, y1⟩ : ∃ v, vt 1 = v := ⟨_, rfl⟩
    have y2 : vt 2 = .pointer (some ⟨g3, 0, none⟩) := hR 2 (by omega)
    have y3 : vt 3 = .int .i64 pw := hR 3 (by omega)
    have y4 : vt 4 = .pointer (some ⟨g3, 1, none⟩) := hR 4 (by omega)
    have y5 : vt 5 = .int .i64 sq := hR 5 (by omega)
    have y6 : vt 6 = .int .i64 (2 * sq) := hR 6 (by omega)
    have y7 : vt 7 = .int .i64 Q2 := hR 7 (by omega)
    have y8 : vt 8 = .tuple #[.int .i64 FA, .int .i64 0] := hR 8 (by omega)
    have y9 : vt 9 = .tuple #[.int .i64 FA, .int .i64 0] := hR 9 (by omega)
    have y10 : vt 10 = .int .i64 FA := hR 10 (by omega)
    have y11 : vt 11 = .int .i64 0 := hR 11 (by omega)
    have y12 : vt 12 = .int .i64 FA := hR 12 (by omega)
    have y13 : vt 13 = .int .i64 0 := hR 13 (by omega)
    simp only [List.range, List.range.loop, List.foldl_cons, List.foldl_nil, y0, y1, y2, y3, y4, y5, y6, y7, y8, y9, y10, y11, y12, y13, List.drop_succ_cons, List.drop_zero]
    simp only [dstAt, List.getElem?_toArray, List.getElem?_cons_zero, List.getElem?_cons_succ, Option.bind_some, Act.put, List.setIfInBounds_toArray, List.set_cons_zero, List.set_cons_succ]
    clear y0 y1 y2 y3 y4 y5 y6 y7 y8 y9 y10 y11 y12 y13 hR
    have hb := hE.below
    replace HB := Lib.hid (HB.out.trans (hb.mono HB.out.size))
    replace U := Lib.hid (U.out.keep hb)
    replace F := Lib.hid (F.out.keep hb)
    replace TB := Lib.hid (TB.out.keep hb)
    replace HT := Lib.hid (HT.out.keep hb)
    replace TT := Lib.hid (TT.out.below hb)
    replace X := Lib.hid (X.out.below hb)
    clear hb
    clear hE
    go_upto_region 24 with fail
    refine wp_region_allN 14 rfl (by kernel_rfl) (by kernel_rfl) [GR.eq (.agg cs), GR.gv nm sh T sn qn gn, GR.eq (.pointer (some ⟨g3, 0, none⟩)), GR.eq (.int .i64 pw), GR.eq (.int .i64 (pw + 3)), GR.eq (.int .i64 P2), GR.eq (.pointer (some ⟨g3, 1, none⟩)), GR.eq (.int .i64 sq), GR.eq (.tuple #[.int .i64 MO, .int .i64 0]), GR.eq (.tuple #[.int .i64 MO, .int .i64 0]), GR.eq (.int .i64 MO), GR.eq (.int .i64 0), GR.eq (.int .i64 MO), GR.eq (.int .i64 0)] 393 rfl (by kernel_rfl) ?_ ?_
    · refine ⟨?_, ?_, ?_, ?_, ?_, ?_, ?_, ?_, ?_, ?_, ?_, ?_, ?_, ?_, trivial⟩
      · intro a W hE hd ho
        have e2 : a.tmps[2]?.getD undef = .pointer (some ⟨g2, 0, none⟩) := ho 2 (by kernel_rfl)
        exact gs_load 26 (.tmp 2) rfl ⟨g2, 0, none⟩ (.agg cs) ((eval_getD _ _).trans e2) ((TT.out.below hE).lv Tryz.prog Tryz.underlying26 rfl IT.out) rfl
      · intro a W hE hd ho
        have e319 : a.tmps[319]?.getD undef = .agg cs := hd 0 319 (by kernel_rfl) (by kernel_rfl)
        refine gs_call (f := 16) (args := #[.agg cs]) (by go_simp) ?_
        refine (given_any W (HT.out.keep hE) HNG.out.2 HNG.out.1 hS.out.name).mono ?_
        rintro e w9 ⟨cs', sa', sc', qb, qo, qc', gb, go, gc', rfl, h1, h2⟩
        exact ⟨_, rfl, h2, cs', sa', sc', qb, qo, qc', gb, go, gc', rfl, h1⟩
      · intro a W hE hd ho
        have e3 : a.tmps[3]?.getD undef = .pointer (some ⟨g3, 0, none⟩) := ho 3 (by kernel_rfl)
        exact gs_same (v := .pointer (some ⟨g3, 0, none⟩)) (by go_simp) rfl
      · intro a W hE hd ho
        have e321 : a.tmps[321]?.getD undef = .pointer (some ⟨g3, 0, none⟩) := hd 2 321 (by kernel_rfl) (by kernel_rfl)
        have c0 := (X.out.below hE).cell 0
        simp only [List.getElem?_toArray, List.getElem?_cons_zero, List.getElem?_cons_succ] at c0
        exact gs_same (v := .int .i64 pw) (by go_simp) rfl
      · intro a W hE hd ho
        have e322 : a.tmps[322]?.getD undef = .int .i64 pw := hd 3 322 (by kernel_rfl) (by kernel_rfl)
        exact gs_same (v := .int .i64 (pw + 3)) (by go_simp) rfl
      · intro a W hE hd ho
        have e323 : a.tmps[323]?.getD undef = .int .i64 (pw + 3) := hd 4 323 (by kernel_rfl) (by kernel_rfl)
        exact gs_same (v := .int .i64 P2) (by go_simp) rfl
      · intro a W hE hd ho
        have e3 : a.tmps[3]?.getD undef = .pointer (some ⟨g3, 0, none⟩) := ho 3 (by kernel_rfl)
        exact gs_same (v := .pointer (some ⟨g3, 1, none⟩)) (by go_simp) rfl
      · intro a W hE hd ho
        have e325 : a.tmps[325]?.getD undef = .pointer (some ⟨g3, 1, none⟩) := hd 6 325 (by kernel_rfl) (by kernel_rfl)
        have c1 := (X.out.below hE).cell 1
        simp only [List.getElem?_toArray, List.getElem?_cons_zero, List.getElem?_cons_succ] at c1
        exact gs_same (v := .int .i64 sq) (by go_simp) rfl
      · intro a W hE hd ho
        have e324 : a.tmps[324]?.getD undef = .int .i64 P2 := hd 5 324 (by kernel_rfl) (by kernel_rfl)
        have e326 : a.tmps[326]?.getD undef = .int .i64 sq := hd 7 326 (by kernel_rfl) (by kernel_rfl)
        obtain ⟨cs', sa', sc', qb, qo, qc', gb, go, gc', e320, hk⟩ : ∃ cs sa sc qb qo qc gb go gc, a.tmps[320]?.getD undef = .agg cs ∧ TyOk W cs nm sh T sa sn sc qb qo qn qc gb go gn gc := hd 1 320 (by kernel_rfl) (by kernel_rfl)
        refine gs_call (f := 15) (args := #[.agg cs', .int .i64 P2, .int .i64 sq]) (by go_simp) ?_
        refine (M3.out _ _ _ _ _ _ _ _ _ W hk).mono ?_
        rintro e w' ⟨rfl, hb⟩
        exact ⟨_, rfl, hb, rfl⟩
      · intro a W hE hd ho
        have e327 : a.tmps[327]?.getD undef = .tuple #[.int .i64 MO, .int .i64 0] := hd 8 327 (by kernel_rfl) (by kernel_rfl)
        exact gs_same (v := .tuple #[.int .i64 MO, .int .i64 0]) (by go_simp) rfl
      · intro a W hE hd ho
        have e318 : a.tmps[318]?.getD undef = .tuple #[.int .i64 MO, .int .i64 0] := hd 9 318 (by kernel_rfl) (by kernel_rfl)
        exact gs_same (v := .int .i64 MO) (by go_simp) rfl
      · intro a W hE hd ho
        have e318 : a.tmps[318]?.getD undef = .tuple #[.int .i64 MO, .int .i64 0] := hd 9 318 (by kernel_rfl) (by kernel_rfl)
        exact gs_same (v := .int .i64 0) (by go_simp) rfl
      · intro a W hE hd ho
        have e328 : a.tmps[328]?.getD undef = .int .i64 MO := hd 10 328 (by kernel_rfl) (by kernel_rfl)
        exact gs_same (v := .int .i64 MO) (by go_simp) rfl
      · intro a W hE hd ho
        have e329 : a.tmps[329]?.getD undef = .int .i64 0 := hd 11 329 (by kernel_rfl) (by kernel_rfl)
        exact gs_same (v := .int .i64 0) (by go_simp) rfl
    intro vt k12 hE hR
    have y0 : vt 0 = .agg cs := hR 0 (by omega)
    obtain ⟨vgv, y1⟩ : ∃ v, vt 1 = v := ⟨_, rfl⟩
    have y2 : vt 2 = .pointer (some ⟨g3, 0, none⟩) := hR 2 (by omega)
    have y3 : vt 3 = .int .i64 pw := hR 3 (by omega)
    have y4 : vt 4 = .int .i64 (pw + 3) := hR 4 (by omega)
    have y5 : vt 5 = .int .i64 P2 := hR 5 (by omega)
    have y6 : vt 6 = .pointer (some ⟨g3, 1, none⟩) := hR 6 (by omega)
    have y7 : vt 7 = .int .i64 sq := hR 7 (by omega)
    have y8 : vt 8 = .tuple #[.int .i64 MO, .int .i64 0] := hR 8 (by omega)
    have y9 : vt 9 = .tuple #[.int .i64 MO, .int .i64 0] := hR 9 (by omega)
    have y10 : vt 10 = .int .i64 MO := hR 10 (by omega)
    have y11 : vt 11 = .int .i64 0 := hR 11 (by omega)
    have y12 : vt 12 = .int .i64 MO := hR 12 (by omega)
    have y13 : vt 13 = .int .i64 0 := hR 13 (by omega)
    simp only [List.range, List.range.loop, List.foldl_cons, List.foldl_nil, y0, y1, y2, y3, y4, y5, y6, y7, y8, y9, y10, y11, y12, y13, List.drop_succ_cons, List.drop_zero]
    simp only [dstAt, List.getElem?_toArray, List.getElem?_cons_zero, List.getElem?_cons_succ, Option.bind_some, Act.put, List.setIfInBounds_toArray, List.set_cons_zero, List.set_cons_succ]
    clear y0 y1 y2 y3 y4 y5 y6 y7 y8 y9 y10 y11 y12 y13 hR
    have hb := hE.below
    replace HB := Lib.hid (HB.out.trans (hb.mono HB.out.size))
    replace U := Lib.hid (U.out.keep hb)
    replace F := Lib.hid (F.out.keep hb)
    replace TB := Lib.hid (TB.out.keep hb)
    replace HT := Lib.hid (HT.out.keep hb)
    replace TT := Lib.hid (TT.out.below hb)
    replace X := Lib.hid (X.out.below hb)
    clear hb
    clear hE
    go_upto_region 25 with fail
    refine wp_region_allN 10 rfl (by kernel_rfl) (by kernel_rfl) [GR.eq (.agg cs), GR.gv nm sh T sn qn gn, GR.eq (.pointer (some ⟨g3, 13, none⟩)), GR.eq (.int .i64 en), GR.bands sh en sn, GR.bands sh en sn, GR.bandS sh en sn, GR.eq (.int .i64 0), GR.bandS sh en sn, GR.eq (.int .i64 0)] 393 rfl (by kernel_rfl) ?_ ?_
    · refine ⟨?_, ?_, ?_, ?_, ?_, ?_, ?_, ?_, ?_, ?_, trivial⟩
      · intro a W hE hd ho
        have e2 : a.tmps[2]?.getD undef = .pointer (some ⟨g2, 0, none⟩) := ho 2 (by kernel_rfl)
        exact gs_load 26 (.tmp 2) rfl ⟨g2, 0, none⟩ (.agg cs) ((eval_getD _ _).trans e2) ((TT.out.below hE).lv Tryz.prog Tryz.underlying26 rfl IT.out) rfl
      · intro a W hE hd ho
        have e331 : a.tmps[331]?.getD undef = .agg cs := hd 0 331 (by kernel_rfl) (by kernel_rfl)
        refine gs_call (f := 16) (args := #[.agg cs]) (by go_simp) ?_
        refine (given_any W (HT.out.keep hE) HNG.out.2 HNG.out.1 hS.out.name).mono ?_
        rintro e w9 ⟨cs', sa', sc', qb, qo, qc', gb, go, gc', rfl, h1, h2⟩
        exact ⟨_, rfl, h2, cs', sa', sc', qb, qo, qc', gb, go, gc', rfl, h1⟩
      · intro a W hE hd ho
        have e3 : a.tmps[3]?.getD undef = .pointer (some ⟨g3, 0, none⟩) := ho 3 (by kernel_rfl)
        exact gs_same (v := .pointer (some ⟨g3, 13, none⟩)) (by go_simp) rfl
      · intro a W hE hd ho
        have e333 : a.tmps[333]?.getD undef = .pointer (some ⟨g3, 13, none⟩) := hd 2 333 (by kernel_rfl) (by kernel_rfl)
        have c13 := (X.out.below hE).cell 13
        simp only [List.getElem?_toArray, List.getElem?_cons_zero, List.getElem?_cons_succ] at c13
        exact gs_same (v := .int .i64 en) (by go_simp) rfl
      · intro a W hE hd ho
        have e334 : a.tmps[334]?.getD undef = .int .i64 en := hd 3 334 (by kernel_rfl) (by kernel_rfl)
        obtain ⟨cs', sa', sc', qb, qo, qc', gb, go, gc', e332, hk⟩ : ∃ cs sa sc qb qo qc gb go gc, a.tmps[332]?.getD undef = .agg cs ∧ TyOk W cs nm sh T sa sn sc qb qo qn qc gb go gn gc := hd 1 332 (by kernel_rfl) (by kernel_rfl)
        refine gs_call (f := 19) (args := #[.agg cs', .int .i64 en]) (by go_simp) ?_
        refine (MB.out _ _ _ _ _ _ _ _ _ W hk).mono ?_
        rintro e w' ⟨g, rfl, hc, hb⟩
        exact ⟨_, rfl, hb, g, rfl, hc⟩
      · intro a W hE hd ho
        obtain ⟨g, e335, hc⟩ : ∃ g, a.tmps[335]?.getD undef = .tuple #[.slice (some ⟨g, 0, none⟩) sn sn, .int .i64 0] ∧ ∀ i, i < sn → W.cell? ⟨g, i, none⟩ = some (.int .i64 (bandAt sh en sn i)) := hd 4 335 (by kernel_rfl) (by kernel_rfl)
        exact gs_same (v := .tuple #[.slice (some ⟨g, 0, none⟩) sn sn, .int .i64 0]) (by go_simp) ⟨g, rfl, hc⟩
      · intro a W hE hd ho
        obtain ⟨g, e330, hc⟩ : ∃ g, a.tmps[330]?.getD undef = .tuple #[.slice (some ⟨g, 0, none⟩) sn sn, .int .i64 0] ∧ ∀ i, i < sn → W.cell? ⟨g, i, none⟩ = some (.int .i64 (bandAt sh en sn i)) := hd 5 330 (by kernel_rfl) (by kernel_rfl)
        exact gs_same (v := .slice (some ⟨g, 0, none⟩) sn sn) (by go_simp) ⟨g, rfl, hc⟩
      · intro a W hE hd ho
        obtain ⟨g, e330, hc⟩ : ∃ g, a.tmps[330]?.getD undef = .tuple #[.slice (some ⟨g, 0, none⟩) sn sn, .int .i64 0] ∧ ∀ i, i < sn → W.cell? ⟨g, i, none⟩ = some (.int .i64 (bandAt sh en sn i)) := hd 5 330 (by kernel_rfl) (by kernel_rfl)
        exact gs_same (v := .int .i64 0) (by go_simp) rfl
      · intro a W hE hd ho
        obtain ⟨g, e336, hc⟩ : ∃ g, a.tmps[336]?.getD undef = .slice (some ⟨g, 0, none⟩) sn sn ∧ ∀ i, i < sn → W.cell? ⟨g, i, none⟩ = some (.int .i64 (bandAt sh en sn i)) := hd 6 336 (by kernel_rfl) (by kernel_rfl)
        exact gs_same (v := .slice (some ⟨g, 0, none⟩) sn sn) (by go_simp) ⟨g, rfl, hc⟩
      · intro a W hE hd ho
        have e337 : a.tmps[337]?.getD undef = .int .i64 0 := hd 7 337 (by kernel_rfl) (by kernel_rfl)
        exact gs_same (v := .int .i64 0) (by go_simp) rfl
    intro vt k13 hE hR
    have y0 : vt 0 = .agg cs := hR 0 (by omega)
    obtain ⟨vgv, y1⟩ : ∃ v, vt 1 = v := ⟨_, rfl⟩
    have y2 : vt 2 = .pointer (some ⟨g3, 13, none⟩) := hR 2 (by omega)
    have y3 : vt 3 = .int .i64 en := hR 3 (by omega)
    obtain ⟨v4, y4⟩ : ∃ v, vt 4 = v := ⟨_, rfl⟩
    obtain ⟨v5, y5⟩ : ∃ v, vt 5 = v := ⟨_, rfl⟩
    obtain ⟨v6, y6⟩ : ∃ v, vt 6 = v := ⟨_, rfl⟩
    have y7 : vt 7 = .int .i64 0 := hR 7 (by omega)
    obtain ⟨gB, y8, hbc⟩ : ∃ g, vt 8 = .slice (some ⟨g, 0, none⟩) sn sn ∧ ∀ i, i < sn → k13.cell? ⟨g, i, none⟩ = some (.int .i64 (bandAt sh en sn i)) := hR 8 (by omega)
    have y9 : vt 9 = .int .i64 0 := hR 9 (by omega)
    simp only [List.range, List.range.loop, List.foldl_cons, List.foldl_nil, y0, y1, y2, y3, y4, y5, y6, y7, y8, y9, List.drop_succ_cons, List.drop_zero]
    simp only [dstAt, List.getElem?_toArray, List.getElem?_cons_zero, List.getElem?_cons_succ, Option.bind_some, Act.put, List.setIfInBounds_toArray, List.set_cons_zero, List.set_cons_succ]
    clear y0 y1 y2 y3 y4 y5 y6 y7 y8 y9 hR
    have hb := hE.below
    have HBC := Lib.hid hbc
    replace HB := Lib.hid (HB.out.trans (hb.mono HB.out.size))
    replace U := Lib.hid (U.out.keep hb)
    replace F := Lib.hid (F.out.keep hb)
    replace TB := Lib.hid (TB.out.keep hb)
    replace HT := Lib.hid (HT.out.keep hb)
    replace TT := Lib.hid (TT.out.below hb)
    replace X := Lib.hid (X.out.below hb)
    clear hb
    clear hE hbc M1 M2 M3 MB r1 r2 v1 v2
    obtain ⟨o0, o1, o2⟩ := HO.out
    have o3 : ¬ N < FA := by omega
    have o4 : ¬ MO < N := by omega
    have o5 : ¬ N < 0 := by omega
    clear o0 o1 o2
    have t1 := (TT.out.cell 1).trans HT.out.c1
    go_upto_region 28 with fail
    clear o3 o4 o5 t1 HO
    go_wp2
    have hsl : sh.length = sn := HT.out.shares.1
    have HGS := Lib.hid HNG.out.2.sh
    have HEN := Lib.hid HA.out.en
    have hsn8 : sn ≤ 8 := by have h1 := HNG.out.2.sh.cnt; rw [hsl] at h1; exact h1.2
    go_loopw [34, 36, 376] (fun u _ i wr => ∃ k : Nat, k ≤ sn ∧ i = .int .i64 k ∧ u = .int .i64 (bandTo sh en sn k) ∧ wr = k13) (fun _ _ i _ => sn - (intOf i).toNat)
    case atStart => exact ⟨0, Nat.zero_le _, rfl, rfl, rfl⟩
    case round =>
      obtain ⟨k, hk, rfl, rfl, hwr⟩ := hrel
      obtain rfl := hwr.symm
      by_cases hlt : k < sn
      · have hc := HBC.out k hlt
        have b1 : 0 ≤ bandAt sh en sn k := by rw [← hsl]; exact band_nonneg HEN.out HGS.out (by omega)
        have b2 := bandTo_up HEN.out HGS.out (sh.length - (k + 1)) (k + 1) (by omega)
        rw [hsl] at b2
        have b3 : bandTo sh en sn (k + 1) = bandTo sh en sn k + bandAt sh en sn k := rfl
        have b4 := HEN.out.2
        obtain ⟨x, hx0⟩ : ∃ x, x = bandAt sh en sn k := ⟨_, rfl⟩
        obtain ⟨y, hy0⟩ : ∃ y, y = bandTo sh en sn k := ⟨_, rfl⟩
        obtain ⟨z, hz0⟩ : ∃ z, z = bandTo sh en sn (k + 1) := ⟨_, rfl⟩
        rw [← hx0] at hc b1 b3
        rw [← hy0] at b3 ⊢
        rw [← hz0] at b2 b3
        have b5 : ¬ x < 0 := by omega
        have b6 : IntKind.i64.wrap (y + x) = z := by rw [IntWalk.i64_in _ (by omega)]; omega
        have hlti : (k : Int) < (sn : Int) := by omega
        have HZ0 := Lib.hid hz0
        clear hx0 hy0 hz0 b1 b2 b3 b4
        go_wp2
        go_roundw
        case rel => exact ⟨k + 1, by omega, by go_num, by rw [HZ0.out], by first | rfl | trivial⟩
        case measure => simp [intOf]; omega
      · obtain rfl : k = sn := by omega
        have hall : bandTo sh en k k = en := bandTo_all hsn0
        rw [hall]
        clear hlt hk hall
        have x13 := X.out.cell 13
        simp only [List.getElem?_toArray, List.getElem?_cons_zero, List.getElem?_cons_succ] at x13
        go_wp2_with fail
        refine (awake2_any k13 U.out F.out TB.out).mono ?_
        rintro e wZ ⟨rfl, hb⟩
        replace HB := Lib.hid (HB.out.trans (hb.mono HB.out.size))
        clear hb
        go_wp2
        go_ret
        exact ⟨rfl, HB.out⟩
  replace h0 : E = 0 := Classical.not_not.1 h0
  have K1 := Lib.hid (hE.symm.trans h0)
  clear hE
  subst h0
  have t0 := O.out.cell 0
  have t1 := O.out.cell 1
  have t2 := O.out.cell 2
  simp only [List.getElem?_toArray, List.getElem?_cons_zero, List.getElem?_cons_succ] at t0 t1 t2
  go_wp2_with fail
  refine (refPlace_any (ax - dy) (ay + dx) Z w19).mono ?_
  rintro e w20 ⟨rfl, hb⟩
  clear t0 t1 t2
  replace HB := Lib.hid (HB.out.trans (hb.mono HB.out.size))
  replace U := Lib.hid (U.out.keep hb)
  replace F := Lib.hid (F.out.keep hb)
  replace TB := Lib.hid (TB.out.keep hb)
  replace HT := Lib.hid (HT.out.keep hb)
  replace TT := Lib.hid (TT.out.below hb)
  replace X := Lib.hid (X.out.below hb)
  replace H := Lib.hid (H.out.below hb)
  replace D := Lib.hid (D.out.below hb)
  replace R := Lib.hid (R.out.below hb)
  replace SN := Lib.hid (SN.out.below hb)
  replace O := Lib.hid (O.out.below hb)
  clear hb
  obtain ⟨E, hE⟩ : ∃ E, E = placeE (ax - dy) (ay + dx) Z := ⟨_, rfl⟩
  rw [← hE]
  by_cases h0 : ¬ E = 0
  · clear hE
    go_upto_region 22 with fail
    obtain ⟨Q2, hQ2⟩ : ∃ z, z = min 100000000000 (2 * sq) := ⟨_, rfl⟩
    obtain ⟨P2, hP2⟩ : ∃ z, z = min 100 (pw + 3) := ⟨_, rfl⟩
    obtain ⟨N, hN⟩ : ∃ z, z = Bell.emis T.sets (Bell.reachOf T.squares sq) pw := ⟨_, rfl⟩
    obtain ⟨FA, hFA⟩ : ∃ z, z = Bell.emis T.sets (Bell.reachOf T.squares Q2) pw := ⟨_, rfl⟩
    obtain ⟨MO, hMO⟩ : ∃ z, z = Bell.emis T.sets (Bell.reachOf T.squares sq) P2 := ⟨_, rfl⟩
    have r1 : ∀ ts t W, (Builtin.min_ ts t #[.int .i64 100000000000, .int .i64 (2 * sq)]).run Tryz.prog W = .ok (.int .i64 Q2) W := fun ts t W => by rw [hQ2]; exact run_min2' _ _ _ _ _ _
    have r2 : ∀ ts t W, (Builtin.min_ ts t #[.int .i64 100, .int .i64 (pw + 3)]).run Tryz.prog W = .ok (.int .i64 P2) W := fun ts t W => by rw [hP2]; exact run_min2' _ _ _ _ _ _
    have v1 : IntKind.i64.wrap (2 * sq) = 2 * sq := IntWalk.i64_in _ (by have g := HA.out.sq; omega)
    have v2 : IntKind.i64.wrap (pw + 3) = pw + 3 := IntWalk.i64_in _ (by have g := HA.out.pw; omega)
    have M1 : Hid (∀ (cs' : Array Value) (sa' : Option Addr) (sc' qb qo qc' gb go gc' : Nat) (W : World), TyOk W cs' nm sh T sa' sn sc' qb qo qn qc' gb go gn gc' → Calls Tryz.prog 15 #[.agg cs', .int .i64 pw, .int .i64 sq] W fun e w' => e = .returned (.tuple #[.int .i64 N, .int .i64 0]) ∧ Below W.heap.size W w') := fun cs' sa' sc' qb qo qc' gb go gc' W hk => by
      have h := Emission_ok pw sq W hk (by have g := HA.out.pw; omega) (by have g := HA.out.sq; omega)
      rwa [← hN] at h
    have M2 : Hid (∀ (cs' : Array Value) (sa' : Option Addr) (sc' qb qo qc' gb go gc' : Nat) (W : World), TyOk W cs' nm sh T sa' sn sc' qb qo qn qc' gb go gn gc' → Calls Tryz.prog 15 #[.agg cs', .int .i64 pw, .int .i64 Q2] W fun e w' => e = .returned (.tuple #[.int .i64 FA, .int .i64 0]) ∧ Below W.heap.size W w') := fun cs' sa' sc' qb qo qc' gb go gc' W hk => by
      have h := Emission_ok pw Q2 W hk (by have g := HA.out.pw; omega) (by have g := HA.out.sq; omega)
      rwa [← hFA] at h
    have M3 : Hid (∀ (cs' : Array Value) (sa' : Option Addr) (sc' qb qo qc' gb go gc' : Nat) (W : World), TyOk W cs' nm sh T sa' sn sc' qb qo qn qc' gb go gn gc' → Calls Tryz.prog 15 #[.agg cs', .int .i64 P2, .int .i64 sq] W fun e w' => e = .returned (.tuple #[.int .i64 MO, .int .i64 0]) ∧ Below W.heap.size W w') := fun cs' sa' sc' qb qo qc' gb go gc' W hk => by
      have h := Emission_ok P2 sq W hk (by have g := HA.out.pw; omega) (by have g := HA.out.sq; omega)
      rwa [← hMO] at h
    have HO : Hid (0 ≤ N ∧ FA ≤ N ∧ N ≤ MO) := by
      have gs := HNG.out.2.ty.sets
      have g0 := HNG.out.2.ty.sq
      have g := HA.out.sq
      have g2 := HA.out.pw
      show _ ∧ _ ∧ _
      rw [hN, hFA, hMO]
      exact ⟨(Bell.emis_range gs (Bell.reach_lt g0) pw).1, Bell.emis_far gs (Bell.reach_mono (by omega)) (Bell.reach_lt g0) pw, Bell.emis_power gs (Bell.reach_lt g0) (by omega)⟩
    have MB : Hid (∀ (cs' : Array Value) (sa' : Option Addr) (sc' qb qo qc' gb go gc' : Nat) (W : World), TyOk W cs' nm sh T sa' sn sc' qb qo qn qc' gb go gn gc' → Calls Tryz.prog 19 #[.agg cs', .int .i64 en] W fun x w' => ∃ g, x = .returned (.tuple #[.slice (some ⟨g, 0, none⟩) sn sn, .int .i64 0]) ∧ (∀ i, i < sn → w'.cell? ⟨g, i, none⟩ = some (.int .i64 (bandAt sh en sn i))) ∧ Below W.heap.size W w') := fun cs' sa' sc' qb qo qc' gb go gc' W hk => Banded_ok en W hk HA.out.en
    clear hQ2 hP2 hN hFA hMO
    refine wp_region_allN 12 rfl (by kernel_rfl) (by kernel_rfl) [GR.eq (.agg cs), GR.gv nm sh T sn qn gn, GR.eq (.pointer (some ⟨g3, 0, none⟩)), GR.eq (.int .i64 pw), GR.eq (.pointer (some ⟨g3, 1, none⟩)), GR.eq (.int .i64 sq), GR.eq (.tuple #[.int .i64 N, .int .i64 0]), GR.eq (.tuple #[.int .i64 N, .int .i64 0]), GR.eq (.int .i64 N), GR.eq (.int .i64 0), GR.eq (.int .i64 N), GR.eq (.int .i64 0)] 393 rfl (by kernel_rfl) ?_ ?_
    · refine ⟨?_, ?_, ?_, ?_, ?_, ?_, ?_, ?_, ?_, ?_, ?_, ?_, trivial⟩
      · intro a W hE hd ho
        have e2 : a.tmps[2]?.getD undef = .pointer (some ⟨g2, 0, none⟩) := ho 2 (by kernel_rfl)
        exact gs_load 26 (.tmp 2) rfl ⟨g2, 0, none⟩ (.agg cs) ((eval_getD _ _).trans e2) ((TT.out.below hE).lv Tryz.prog Tryz.underlying26 rfl IT.out) rfl
      · intro a W hE hd ho
        have e297 : a.tmps[297]?.getD undef = .agg cs := hd 0 297 (by kernel_rfl) (by kernel_rfl)
        refine gs_call (f := 16) (args := #[.agg cs]) (by go_simp) ?_
        refine (given_any W (HT.out.keep hE) HNG.out.2 HNG.out.1 hS.out.name).mono ?_
        rintro e w9 ⟨cs', sa', sc', qb, qo, qc', gb, go, gc', rfl, h1, h2⟩
        exact ⟨_, rfl, h2, cs', sa', sc', qb, qo, qc', gb, go, gc', rfl, h1⟩
      · intro a W hE hd ho
        have e3 : a.tmps[3]?.getD undef = .pointer (some ⟨g3, 0, none⟩) := ho 3 (by kernel_rfl)
        exact gs_same (v := .pointer (some ⟨g3, 0, none⟩)) (by go_simp) rfl
      · intro a W hE hd ho
        have e299 : a.tmps[299]?.getD undef = .pointer (some ⟨g3, 0, none⟩) := hd 2 299 (by kernel_rfl) (by kernel_rfl)
        have c0 := (X.out.below hE).cell 0
        simp only [List.getElem?_toArray, List.getElem?_cons_zero, List.getElem?_cons_succ] at c0
        exact gs_same (v := .int .i64 pw) (by go_simp) rfl
      · intro a W hE hd ho
        have e3 : a.tmps[3]?.getD undef = .pointer (some ⟨g3, 0, none⟩) := ho 3 (by kernel_rfl)
        exact gs_same (v := .pointer (some ⟨g3, 1, none⟩)) (by go_simp) rfl
      · intro a W hE hd ho
        have e301 : a.tmps[301]?.getD undef = .pointer (some ⟨g3, 1, none⟩) := hd 4 301 (by kernel_rfl) (by kernel_rfl)
        have c1 := (X.out.below hE).cell 1
        simp only [List.getElem?_toArray, List.getElem?_cons_zero, List.getElem?_cons_succ] at c1
        exact gs_same (v := .int .i64 sq) (by go_simp) rfl
      · intro a W hE hd ho
        have e300 : a.tmps[300]?.getD undef = .int .i64 pw := hd 3 300 (by kernel_rfl) (by kernel_rfl)
        have e302 : a.tmps[302]?.getD undef = .int .i64 sq := hd 5 302 (by kernel_rfl) (by kernel_rfl)
        obtain ⟨cs', sa', sc', qb, qo, qc', gb, go, gc', e298, hk⟩ : ∃ cs sa sc qb qo qc gb go gc, a.tmps[298]?.getD undef = .agg cs ∧ TyOk W cs nm sh T sa sn sc qb qo qn qc gb go gn gc := hd 1 298 (by kernel_rfl) (by kernel_rfl)
        refine gs_call (f := 15) (args := #[.agg cs', .int .i64 pw, .int .i64 sq]) (by go_simp) ?_
        refine (M1.out _ _ _ _ _ _ _ _ _ W hk).mono ?_
        rintro e w' ⟨rfl, hb⟩
        exact ⟨_, rfl, hb, rfl⟩
      · intro a W hE hd ho
        have e303 : a.tmps[303]?.getD undef = .tuple #[.int .i64 N, .int .i64 0] := hd 6 303 (by kernel_rfl) (by kernel_rfl)
        exact gs_same (v := .tuple #[.int .i64 N, .int .i64 0]) (by go_simp) rfl
      · intro a W hE hd ho
        have e296 : a.tmps[296]?.getD undef = .tuple #[.int .i64 N, .int .i64 0] := hd 7 296 (by kernel_rfl) (by kernel_rfl)
        exact gs_same (v := .int .i64 N) (by go_simp) rfl
      · intro a W hE hd ho
        have e296 : a.tmps[296]?.getD undef = .tuple #[.int .i64 N, .int .i64 0] := hd 7 296 (by kernel_rfl) (by kernel_rfl)
        exact gs_same (v := .int .i64 0) (by go_simp) rfl
      · intro a W hE hd ho
        have e304 : a.tmps[304]?.getD undef = .int .i64 N := hd 8 304 (by kernel_rfl) (by kernel_rfl)
        exact gs_same (v := .int .i64 N) (by go_simp) rfl
      · intro a W hE hd ho
        have e305 : a.tmps[305]?.getD undef = .int .i64 0 := hd 9 305 (by kernel_rfl) (by kernel_rfl)
        exact gs_same (v := .int .i64 0) (by go_simp) rfl
    intro vt k20 hE hR
    have y0 : vt 0 = .agg cs := hR 0 (by omega)
    obtain ⟨vgv, y1⟩ : ∃ v, vt 1 = v := ⟨_, rfl⟩
    have y2 : vt 2 = .pointer (some ⟨g3, 0, none⟩) := hR 2 (by omega)
    have y3 : vt 3 = .int .i64 pw := hR 3 (by omega)
    have y4 : vt 4 = .pointer (some ⟨g3, 1, none⟩) := hR 4 (by omega)
    have y5 : vt 5 = .int .i64 sq := hR 5 (by omega)
    have y6 : vt 6 = .tuple #[.int .i64 N, .int .i64 0] := hR 6 (by omega)
    have y7 : vt 7 = .tuple #[.int .i64 N, .int .i64 0] := hR 7 (by omega)
    have y8 : vt 8 = .int .i64 N := hR 8 (by omega)
    have y9 : vt 9 = .int .i64 0 := hR 9 (by omega)
    have y10 : vt 10 = .int .i64 N := hR 10 (by omega)
    have y11 : vt 11 = .int .i64 0 := hR 11 (by omega)
    simp only [List.range, List.range.loop, List.foldl_cons, List.foldl_nil, y0, y1, y2, y3, y4, y5, y6, y7, y8, y9, y10, y11, List.drop_succ_cons, List.drop_zero]
    simp only [dstAt, List.getElem?_toArray, List.getElem?_cons_zero, List.getElem?_cons_succ, Option.bind_some, Act.put, List.setIfInBounds_toArray, List.set_cons_zero, List.set_cons_succ]
    clear y0 y1 y2 y3 y4 y5 y6 y7 y8 y9 y10 y11 hR
    have hb := hE.below
    replace HB := Lib.hid (HB.out.trans (hb.mono HB.out.size))
    replace U := Lib.hid (U.out.keep hb)
    replace F := Lib.hid (F.out.keep hb)
    replace TB := Lib.hid (TB.out.keep hb)
    replace HT := Lib.hid (HT.out.keep hb)
    replace TT := Lib.hid (TT.out.below hb)
    replace X := Lib.hid (X.out.below hb)
    clear hb
    clear hE
    go_upto_region 23 with fail
    refine wp_region_allN 14 rfl (by kernel_rfl) (by kernel_rfl) [GR.eq (.agg cs), GR.gv nm sh T sn qn gn, GR.eq (.pointer (some ⟨g3, 0, none⟩)), GR.eq (.int .i64 pw), GR.eq (.pointer (some ⟨g3, 1, none⟩)), GR.eq (.int .i64 sq), GR.eq (.int .i64 (2 * sq)), GR.eq (.int .i64 Q2), GR.eq (.tuple #[.int .i64 FA, .int .i64 0]), GR.eq (.tuple #[.int .i64 FA, .int .i64 0]), GR.eq (.int .i64 FA), GR.eq (.int .i64 0), GR.eq (.int .i64 FA), GR.eq (.int .i64 0)] 393 rfl (by kernel_rfl) ?_ ?_
    · refine ⟨?_, ?_, ?_, ?_, ?_, ?_, ?_, ?_, ?_, ?_, ?_, ?_, ?_, ?_, trivial⟩
      · intro a W hE hd ho
        have e2 : a.tmps[2]?.getD undef = .pointer (some ⟨g2, 0, none⟩) := ho 2 (by kernel_rfl)
        exact gs_load 26 (.tmp 2) rfl ⟨g2, 0, none⟩ (.agg cs) ((eval_getD _ _).trans e2) ((TT.out.below hE).lv Tryz.prog Tryz.underlying26 rfl IT.out) rfl
      · intro a W hE hd ho
        have e307 : a.tmps[307]?.getD undef = .agg cs := hd 0 307 (by kernel_rfl) (by kernel_rfl)
        refine gs_call (f := 16) (args := #[.agg cs]) (by go_simp) ?_
        refine (given_any W (HT.out.keep hE) HNG.out.2 HNG.out.1 hS.out.name).mono ?_
        rintro e w9 ⟨cs', sa', sc', qb, qo, qc', gb, go, gc', rfl, h1, h2⟩
        exact ⟨_, rfl, h2, cs', sa', sc', qb, qo, qc', gb, go, gc', rfl, h1⟩
      · intro a W hE hd ho
        have e3 : a.tmps[3]?.getD undef = .pointer (some ⟨g3, 0, none⟩) := ho 3 (by kernel_rfl)
        exact gs_same (v := .pointer (some ⟨g3, 0, none⟩)) (by go_simp) rfl
      · intro a W hE hd ho
        have e309 : a.tmps[309]?.getD undef = .pointer (some ⟨g3, 0, none⟩) := hd 2 309 (by kernel_rfl) (by kernel_rfl)
        have c0 := (X.out.below hE).cell 0
        simp only [List.getElem?_toArray, List.getElem?_cons_zero, List.getElem?_cons_succ] at c0
        exact gs_same (v := .int .i64 pw) (by go_simp) rfl
      · intro a W hE hd ho
        have e3 : a.tmps[3]?.getD undef = .pointer (some ⟨g3, 0, none⟩) := ho 3 (by kernel_rfl)
        exact gs_same (v := .pointer (some ⟨g3, 1, none⟩)) (by go_simp) rfl
      · intro a W hE hd ho
        have e311 : a.tmps[311]?.getD undef = .pointer (some ⟨g3, 1, none⟩) := hd 4 311 (by kernel_rfl) (by kernel_rfl)
        have c1 := (X.out.below hE).cell 1
        simp only [List.getElem?_toArray, List.getElem?_cons_zero, List.getElem?_cons_succ] at c1
        exact gs_same (v := .int .i64 sq) (by go_simp) rfl
      · intro a W hE hd ho
        have e312 : a.tmps[312]?.getD undef = .int .i64 sq := hd 5 312 (by kernel_rfl) (by kernel_rfl)
        exact gs_same (v := .int .i64 (2 * sq)) (by go_simp) rfl
      · intro a W hE hd ho
        have e313 : a.tmps[313]?.getD undef = .int .i64 (2 * sq) := hd 6 313 (by kernel_rfl) (by kernel_rfl)
        exact gs_same (v := .int .i64 Q2) (by go_simp) rfl
      · intro a W hE hd ho
        have e310 : a.tmps[310]?.getD undef = .int .i64 pw := hd 3 310 (by kernel_rfl) (by kernel_rfl)
        have e314 : a.tmps[314]?.getD undef = .int .i64 Q2 := hd 7 314 (by kernel_rfl) (by kernel_rfl)
        obtain ⟨cs', sa', sc', qb, qo, qc', gb, go, gc', e308, hk⟩ : ∃ cs sa sc qb qo qc gb go gc, a.tmps[308]?.getD undef = .agg cs ∧ TyOk W cs nm sh T sa sn sc qb qo qn qc gb go gn gc := hd 1 308 (by kernel_rfl) (by kernel_rfl)
        refine gs_call (f := 15) (args := #[.agg cs', .int .i64 pw, .int .i64 Q2]) (by go_simp) ?_
        refine (M2.out _ _ _ _ _ _ _ _ _ W hk).mono ?_
        rintro e w' ⟨rfl, hb⟩
        exact ⟨_, rfl, hb, rfl⟩
      · intro a W hE hd ho
        have e315 : a.tmps[315]?.getD undef = .tuple #[.int .i64 FA, .int .i64 0] := hd 8 315 (by kernel_rfl) (by kernel_rfl)
        exact gs_same (v := .tuple #[.int .i64 FA, .int .i64 0]) (by go_simp) rfl
      · intro a W hE hd ho
        have e306 : a.tmps[306]?.getD undef = .tuple #[.int .i64 FA, .int .i64 0] := hd 9 306 (by kernel_rfl) (by kernel_rfl)
        exact gs_same (v := .int .i64 FA) (by go_simp) rfl
      · intro a W hE hd ho
        have e306 : a.tmps[306]?.getD undef = .tuple #[.int .i64 FA, .int .i64 0] := hd 9 306 (by kernel_rfl) (by kernel_rfl)
        exact gs_same (v := .int .i64 0) (by go_simp) rfl
      · intro a W hE hd ho
        have e316 : a.tmps[316]?.getD undef = .int .i64 FA := hd 10 316 (by kernel_rfl) (by kernel_rfl)
        exact gs_same (v := .int .i64 FA) (by go_simp) rfl
      · intro a W hE hd ho
        have e317 : a.tmps[317]?.getD undef = .int .i64 0 := hd 11 317 (by kernel_rfl) (by kernel_rfl)
        exact gs_same (v := .int .i64 0) (by go_simp) rfl
    intro vt k21 hE hR
    have y0 : vt 0 = .agg cs := hR 0 (by omega)
    obtain ⟨vgv, y1⟩ : ∃ v, vt 1 = v := ⟨_, rfl⟩
    have y2 : vt 2 = .pointer (some ⟨g3, 0, none⟩) := hR 2 (by omega)
    have y3 : vt 3 = .int .i64 pw := hR 3 (by omega)
    have y4 : vt 4 = .pointer (some ⟨g3, 1, none⟩) := hR 4 (by omega)
    have y5 : vt 5 = .int .i64 sq := hR 5 (by omega)
    have y6 : vt 6 = .int .i64 (2 * sq) := hR 6 (by omega)
    have y7 : vt 7 = .int .i64 Q2 := hR 7 (by omega)
    have y8 : vt 8 = .tuple #[.int .i64 FA, .int .i64 0] := hR 8 (by omega)
    have y9 : vt 9 = .tuple #[.int .i64 FA, .int .i64 0] := hR 9 (by omega)
    have y10 : vt 10 = .int .i64 FA := hR 10 (by omega)
    have y11 : vt 11 = .int .i64 0 := hR 11 (by omega)
    have y12 : vt 12 = .int .i64 FA := hR 12 (by omega)
    have y13 : vt 13 = .int .i64 0 := hR 13 (by omega)
    simp only [List.range, List.range.loop, List.foldl_cons, List.foldl_nil, y0, y1, y2, y3, y4, y5, y6, y7, y8, y9, y10, y11, y12, y13, List.drop_succ_cons, List.drop_zero]
    simp only [dstAt, List.getElem?_toArray, List.getElem?_cons_zero, List.getElem?_cons_succ, Option.bind_some, Act.put, List.setIfInBounds_toArray, List.set_cons_zero, List.set_cons_succ]
    clear y0 y1 y2 y3 y4 y5 y6 y7 y8 y9 y10 y11 y12 y13 hR
    have hb := hE.below
    replace HB := Lib.hid (HB.out.trans (hb.mono HB.out.size))
    replace U := Lib.hid (U.out.keep hb)
    replace F := Lib.hid (F.out.keep hb)
    replace TB := Lib.hid (TB.out.keep hb)
    replace HT := Lib.hid (HT.out.keep hb)
    replace TT := Lib.hid (TT.out.below hb)
    replace X := Lib.hid (X.out.below hb)
    clear hb
    clear hE
    go_upto_region 24 with fail
    refine wp_region_allN 14 rfl (by kernel_rfl) (by kernel_rfl) [GR.eq (.agg cs), GR.gv nm sh T sn qn gn, GR.eq (.pointer (some ⟨g3, 0, none⟩)), GR.eq (.int .i64 pw), GR.eq (.int .i64 (pw + 3)), GR.eq (.int .i64 P2), GR.eq (.pointer (some ⟨g3, 1, none⟩)), GR.eq (.int .i64 sq), GR.eq (.tuple #[.int .i64 MO, .int .i64 0]), GR.eq (.tuple #[.int .i64 MO, .int .i64 0]), GR.eq (.int .i64 MO), GR.eq (.int .i64 0), GR.eq (.int .i64 MO), GR.eq (.int .i64 0)] 393 rfl (by kernel_rfl) ?_ ?_
    · refine ⟨?_, ?_, ?_, ?_, ?_, ?_, ?_, ?_, ?_, ?_, ?_, ?_, ?_, ?_, trivial⟩
      · intro a W hE hd ho
        have e2 : a.tmps[2]?.getD undef = .pointer (some ⟨g2, 0, none⟩) := ho 2 (by kernel_rfl)
        exact gs_load 26 (.tmp 2) rfl ⟨g2, 0, none⟩ (.agg cs) ((eval_getD _ _).trans e2) ((TT.out.below hE).lv Tryz.prog Tryz.underlying26 rfl IT.out) rfl
      · intro a W hE hd ho
        have e319 : a.tmps[319]?.getD undef = .agg cs := hd 0 319 (by kernel_rfl) (by kernel_rfl)
        refine gs_call (f := 16) (args := #[.agg cs]) (by go_simp) ?_
        refine (given_any W (HT.out.keep hE) HNG.out.2 HNG.out.1 hS.out.name).mono ?_
        rintro e w9 ⟨cs', sa', sc', qb, qo, qc', gb, go, gc', rfl, h1, h2⟩
        exact ⟨_, rfl, h2, cs', sa', sc', qb, qo, qc', gb, go, gc', rfl, h1⟩
      · intro a W hE hd ho
        have e3 : a.tmps[3]?.getD undef = .pointer (some ⟨g3, 0, none⟩) := ho 3 (by kernel_rfl)
        exact gs_same (v := .pointer (some ⟨g3, 0, none⟩)) (by go_simp) rfl
      · intro a W hE hd ho
        have e321 : a.tmps[321]?.getD undef = .pointer (some ⟨g3, 0, none⟩) := hd 2 321 (by kernel_rfl) (by kernel_rfl)
        have c0 := (X.out.below hE).cell 0
        simp only [List.getElem?_toArray, List.getElem?_cons_zero, List.getElem?_cons_succ] at c0
        exact gs_same (v := .int .i64 pw) (by go_simp) rfl
      · intro a W hE hd ho
        have e322 : a.tmps[322]?.getD undef = .int .i64 pw := hd 3 322 (by kernel_rfl) (by kernel_rfl)
        exact gs_same (v := .int .i64 (pw + 3)) (by go_simp) rfl
      · intro a W hE hd ho
        have e323 : a.tmps[323]?.getD undef = .int .i64 (pw + 3) := hd 4 323 (by kernel_rfl) (by kernel_rfl)
        exact gs_same (v := .int .i64 P2) (by go_simp) rfl
      · intro a W hE hd ho
        have e3 : a.tmps[3]?.getD undef = .pointer (some ⟨g3, 0, none⟩) := ho 3 (by kernel_rfl)
        exact gs_same (v := .pointer (some ⟨g3, 1, none⟩)) (by go_simp) rfl
      · intro a W hE hd ho
        have e325 : a.tmps[325]?.getD undef = .pointer (some ⟨g3, 1, none⟩) := hd 6 325 (by kernel_rfl) (by kernel_rfl)
        have c1 := (X.out.below hE).cell 1
        simp only [List.getElem?_toArray, List.getElem?_cons_zero, List.getElem?_cons_succ] at c1
        exact gs_same (v := .int .i64 sq) (by go_simp) rfl
      · intro a W hE hd ho
        have e324 : a.tmps[324]?.getD undef = .int .i64 P2 := hd 5 324 (by kernel_rfl) (by kernel_rfl)
        have e326 : a.tmps[326]?.getD undef = .int .i64 sq := hd 7 326 (by kernel_rfl) (by kernel_rfl)
        obtain ⟨cs', sa', sc', qb, qo, qc', gb, go, gc', e320, hk⟩ : ∃ cs sa sc qb qo qc gb go gc, a.tmps[320]?.getD undef = .agg cs ∧ TyOk W cs nm sh T sa sn sc qb qo qn qc gb go gn gc := hd 1 320 (by kernel_rfl) (by kernel_rfl)
        refine gs_call (f := 15) (args := #[.agg cs', .int .i64 P2, .int .i64 sq]) (by go_simp) ?_
        refine (M3.out _ _ _ _ _ _ _ _ _ W hk).mono ?_
        rintro e w' ⟨rfl, hb⟩
        exact ⟨_, rfl, hb, rfl⟩
      · intro a W hE hd ho
        have e327 : a.tmps[327]?.getD undef = .tuple #[.int .i64 MO, .int .i64 0] := hd 8 327 (by kernel_rfl) (by kernel_rfl)
        exact gs_same (v := .tuple #[.int .i64 MO, .int .i64 0]) (by go_simp) rfl
      · intro a W hE hd ho
        have e318 : a.tmps[318]?.getD undef = .tuple #[.int .i64 MO, .int .i64 0] := hd 9 318 (by kernel_rfl) (by kernel_rfl)
        exact gs_same (v := .int .i64 MO) (by go_simp) rfl
      · intro a W hE hd ho
        have e318 : a.tmps[318]?.getD undef = .tuple #[.int .i64 MO, .int .i64 0] := hd 9 318 (by kernel_rfl) (by kernel_rfl)
        exact gs_same (v := .int .i64 0) (by go_simp) rfl
      · intro a W hE hd ho
        have e328 : a.tmps[328]?.getD undef = .int .i64 MO := hd 10 328 (by kernel_rfl) (by kernel_rfl)
        exact gs_same (v := .int .i64 MO) (by go_simp) rfl
      · intro a W hE hd ho
        have e329 : a.tmps[329]?.getD undef = .int .i64 0 := hd 11 329 (by kernel_rfl) (by kernel_rfl)
        exact gs_same (v := .int .i64 0) (by go_simp) rfl
    intro vt k22 hE hR
    have y0 : vt 0 = .agg cs := hR 0 (by omega)
    obtain ⟨vgv, y1⟩ : ∃ v, vt 1 = v := ⟨_, rfl⟩
    have y2 : vt 2 = .pointer (some ⟨g3, 0, none⟩) := hR 2 (by omega)
    have y3 : vt 3 = .int .i64 pw := hR 3 (by omega)
    have y4 : vt 4 = .int .i64 (pw + 3) := hR 4 (by omega)
    have y5 : vt 5 = .int .i64 P2 := hR 5 (by omega)
    have y6 : vt 6 = .pointer (some ⟨g3, 1, none⟩) := hR 6 (by omega)
    have y7 : vt 7 = .int .i64 sq := hR 7 (by omega)
    have y8 : vt 8 = .tuple #[.int .i64 MO, .int .i64 0] := hR 8 (by omega)
    have y9 : vt 9 = .tuple #[.int .i64 MO, .int .i64 0] := hR 9 (by omega)
    have y10 : vt 10 = .int .i64 MO := hR 10 (by omega)
    have y11 : vt 11 = .int .i64 0 := hR 11 (by omega)
    have y12 : vt 12 = .int .i64 MO := hR 12 (by omega)
    have y13 : vt 13 = .int .i64 0 := hR 13 (by omega)
    simp only [List.range, List.range.loop, List.foldl_cons, List.foldl_nil, y0, y1, y2, y3, y4, y5, y6, y7, y8, y9, y10, y11, y12, y13, List.drop_succ_cons, List.drop_zero]
    simp only [dstAt, List.getElem?_toArray, List.getElem?_cons_zero, List.getElem?_cons_succ, Option.bind_some, Act.put, List.setIfInBounds_toArray, List.set_cons_zero, List.set_cons_succ]
    clear y0 y1 y2 y3 y4 y5 y6 y7 y8 y9 y10 y11 y12 y13 hR
    have hb := hE.below
    replace HB := Lib.hid (HB.out.trans (hb.mono HB.out.size))
    replace U := Lib.hid (U.out.keep hb)
    replace F := Lib.hid (F.out.keep hb)
    replace TB := Lib.hid (TB.out.keep hb)
    replace HT := Lib.hid (HT.out.keep hb)
    replace TT := Lib.hid (TT.out.below hb)
    replace X := Lib.hid (X.out.below hb)
    clear hb
    clear hE
    go_upto_region 25 with fail
    refine wp_region_allN 10 rfl (by kernel_rfl) (by kernel_rfl) [GR.eq (.agg cs), GR.gv nm sh T sn qn gn, GR.eq (.pointer (some ⟨g3, 13, none⟩)), GR.eq (.int .i64 en), GR.bands sh en sn, GR.bands sh en sn, GR.bandS sh en sn, GR.eq (.int .i64 0), GR.bandS sh en sn, GR.eq (.int .i64 0)] 393 rfl (by kernel_rfl) ?_ ?_
    · refine ⟨?_, ?_, ?_, ?_, ?_, ?_, ?_, ?_, ?_, ?_, trivial⟩
      · intro a W hE hd ho
        have e2 : a.tmps[2]?.getD undef = .pointer (some ⟨g2, 0, none⟩) := ho 2 (by kernel_rfl)
        exact gs_load 26 (.tmp 2) rfl ⟨g2, 0, none⟩ (.agg cs) ((eval_getD _ _).trans e2) ((TT.out.below hE).lv Tryz.prog Tryz.underlying26 rfl IT.out) rfl
      · intro a W hE hd ho
        have e331 : a.tmps[331]?.getD undef = .agg cs := hd 0 331 (by kernel_rfl) (by kernel_rfl)
        refine gs_call (f := 16) (args := #[.agg cs]) (by go_simp) ?_
        refine (given_any W (HT.out.keep hE) HNG.out.2 HNG.out.1 hS.out.name).mono ?_
        rintro e w9 ⟨cs', sa', sc', qb, qo, qc', gb, go, gc', rfl, h1, h2⟩
        exact ⟨_, rfl, h2, cs', sa', sc', qb, qo, qc', gb, go, gc', rfl, h1⟩
      · intro a W hE hd ho
        have e3 : a.tmps[3]?.getD undef = .pointer (some ⟨g3, 0, none⟩) := ho 3 (by kernel_rfl)
        exact gs_same (v := .pointer (some ⟨g3, 13, none⟩)) (by go_simp) rfl
      · intro a W hE hd ho
        have e333 : a.tmps[333]?.getD undef = .pointer (some ⟨g3, 13, none⟩) := hd 2 333 (by kernel_rfl) (by kernel_rfl)
        have c13 := (X.out.below hE).cell 13
        simp only [List.getElem?_toArray, List.getElem?_cons_zero, List.getElem?_cons_succ] at c13
        exact gs_same (v := .int .i64 en) (by go_simp) rfl
      · intro a W hE hd ho
        have e334 : a.tmps[334]?.getD undef = .int .i64 en := hd 3 334 (by kernel_rfl) (by kernel_rfl)
        obtain ⟨cs', sa', sc', qb, qo, qc', gb, go, gc', e332, hk⟩ : ∃ cs sa sc qb qo qc gb go gc, a.tmps[332]?.getD undef = .agg cs ∧ TyOk W cs nm sh T sa sn sc qb qo qn qc gb go gn gc := hd 1 332 (by kernel_rfl) (by kernel_rfl)
        refine gs_call (f := 19) (args := #[.agg cs', .int .i64 en]) (by go_simp) ?_
        refine (MB.out _ _ _ _ _ _ _ _ _ W hk).mono ?_
        rintro e w' ⟨g, rfl, hc, hb⟩
        exact ⟨_, rfl, hb, g, rfl, hc⟩
      · intro a W hE hd ho
        obtain ⟨g, e335, hc⟩ : ∃ g, a.tmps[335]?.getD undef = .tuple #[.slice (some ⟨g, 0, none⟩) sn sn, .int .i64 0] ∧ ∀ i, i < sn → W.cell? ⟨g, i, none⟩ = some (.int .i64 (bandAt sh en sn i)) := hd 4 335 (by kernel_rfl) (by kernel_rfl)
        exact gs_same (v := .tuple #[.slice (some ⟨g, 0, none⟩) sn sn, .int .i64 0]) (by go_simp) ⟨g, rfl, hc⟩
      · intro a W hE hd ho
        obtain ⟨g, e330, hc⟩ : ∃ g, a.tmps[330]?.getD undef = .tuple #[.slice (some ⟨g, 0, none⟩) sn sn, .int .i64 0] ∧ ∀ i, i < sn → W.cell? ⟨g, i, none⟩ = some (.int .i64 (bandAt sh en sn i)) := hd 5 330 (by kernel_rfl) (by kernel_rfl)
        exact gs_same (v := .slice (some ⟨g, 0, none⟩) sn sn) (by go_simp) ⟨g, rfl, hc⟩
      · intro a W hE hd ho
        obtain ⟨g, e330, hc⟩ : ∃ g, a.tmps[330]?.getD undef = .tuple #[.slice (some ⟨g, 0, none⟩) sn sn, .int .i64 0] ∧ ∀ i, i < sn → W.cell? ⟨g, i, none⟩ = some (.int .i64 (bandAt sh en sn i)) := hd 5 330 (by kernel_rfl) (by kernel_rfl)
        exact gs_same (v := .int .i64 0) (by go_simp) rfl
      · intro a W hE hd ho
        obtain ⟨g, e336, hc⟩ : ∃ g, a.tmps[336]?.getD undef = .slice (some ⟨g, 0, none⟩) sn sn ∧ ∀ i, i < sn → W.cell? ⟨g, i, none⟩ = some (.int .i64 (bandAt sh en sn i)) := hd 6 336 (by kernel_rfl) (by kernel_rfl)
        exact gs_same (v := .slice (some ⟨g, 0, none⟩) sn sn) (by go_simp) ⟨g, rfl, hc⟩
      · intro a W hE hd ho
        have e337 : a.tmps[337]?.getD undef = .int .i64 0 := hd 7 337 (by kernel_rfl) (by kernel_rfl)
        exact gs_same (v := .int .i64 0) (by go_simp) rfl
    intro vt k23 hE hR
    have y0 : vt 0 = .agg cs := hR 0 (by omega)
    obtain ⟨vgv, y1⟩ : ∃ v, vt 1 = v := ⟨_, rfl⟩
    have y2 : vt 2 = .pointer (some ⟨g3, 13, none⟩) := hR 2 (by omega)
    have y3 : vt 3 = .int .i64 en := hR 3 (by omega)
    obtain ⟨v4, y4⟩ : ∃ v, vt 4 = v := ⟨_, rfl⟩
    obtain ⟨v5, y5⟩ : ∃ v, vt 5 = v := ⟨_, rfl⟩
    obtain ⟨v6, y6⟩ : ∃ v, vt 6 = v := ⟨_, rfl⟩
    have y7 : vt 7 = .int .i64 0 := hR 7 (by omega)
    obtain ⟨gB, y8, hbc⟩ : ∃ g, vt 8 = .slice (some ⟨g, 0, none⟩) sn sn ∧ ∀ i, i < sn → k23.cell? ⟨g, i, none⟩ = some (.int .i64 (bandAt sh en sn i)) := hR 8 (by omega)
    have y9 : vt 9 = .int .i64 0 := hR 9 (by omega)
    simp only [List.range, List.range.loop, List.foldl_cons, List.foldl_nil, y0, y1, y2, y3, y4, y5, y6, y7, y8, y9, List.drop_succ_cons, List.drop_zero]
    simp only [dstAt, List.getElem?_toArray, List.getElem?_cons_zero, List.getElem?_cons_succ, Option.bind_some, Act.put, List.setIfInBounds_toArray, List.set_cons_zero, List.set_cons_succ]
    clear y0 y1 y2 y3 y4 y5 y6 y7 y8 y9 hR
    have hb := hE.below
    have HBC := Lib.hid hbc
    replace HB := Lib.hid (HB.out.trans (hb.mono HB.out.size))
    replace U := Lib.hid (U.out.keep hb)
    replace F := Lib.hid (F.out.keep hb)
    replace TB := Lib.hid (TB.out.keep hb)
    replace HT := Lib.hid (HT.out.keep hb)
    replace TT := Lib.hid (TT.out.below hb)
    replace X := Lib.hid (X.out.below hb)
    clear hb
    clear hE hbc M1 M2 M3 MB r1 r2 v1 v2
    obtain ⟨o0, o1, o2⟩ := HO.out
    have o3 : ¬ N < FA := by omega
    have o4 : ¬ MO < N := by omega
    have o5 : ¬ N < 0 := by omega
    clear o0 o1 o2
    have t1 := (TT.out.cell 1).trans HT.out.c1
    go_upto_region 28 with fail
    clear o3 o4 o5 t1 HO
    go_wp2
    have hsl : sh.length = sn := HT.out.shares.1
    have HGS := Lib.hid HNG.out.2.sh
    have HEN := Lib.hid HA.out.en
    have hsn8 : sn ≤ 8 := by have h1 := HNG.out.2.sh.cnt; rw [hsl] at h1; exact h1.2
    go_loopw [34, 36, 376] (fun u _ i wr => ∃ k : Nat, k ≤ sn ∧ i = .int .i64 k ∧ u = .int .i64 (bandTo sh en sn k) ∧ wr = k23) (fun _ _ i _ => sn - (intOf i).toNat)
    case atStart => exact ⟨0, Nat.zero_le _, rfl, rfl, rfl⟩
    case round =>
      obtain ⟨k, hk, rfl, rfl, hwr⟩ := hrel
      obtain rfl := hwr.symm
      by_cases hlt : k < sn
      · have hc := HBC.out k hlt
        have b1 : 0 ≤ bandAt sh en sn k := by rw [← hsl]; exact band_nonneg HEN.out HGS.out (by omega)
        have b2 := bandTo_up HEN.out HGS.out (sh.length - (k + 1)) (k + 1) (by omega)
        rw [hsl] at b2
        have b3 : bandTo sh en sn (k + 1) = bandTo sh en sn k + bandAt sh en sn k := rfl
        have b4 := HEN.out.2
        obtain ⟨x, hx0⟩ : ∃ x, x = bandAt sh en sn k := ⟨_, rfl⟩
        obtain ⟨y, hy0⟩ : ∃ y, y = bandTo sh en sn k := ⟨_, rfl⟩
        obtain ⟨z, hz0⟩ : ∃ z, z = bandTo sh en sn (k + 1) := ⟨_, rfl⟩
        rw [← hx0] at hc b1 b3
        rw [← hy0] at b3 ⊢
        rw [← hz0] at b2 b3
        have b5 : ¬ x < 0 := by omega
        have b6 : IntKind.i64.wrap (y + x) = z := by rw [IntWalk.i64_in _ (by omega)]; omega
        have hlti : (k : Int) < (sn : Int) := by omega
        have HZ0 := Lib.hid hz0
        clear hx0 hy0 hz0 b1 b2 b3 b4
        go_wp2
        go_roundw
        case rel => exact ⟨k + 1, by omega, by go_num, by rw [HZ0.out], by first | rfl | trivial⟩
        case measure => simp [intOf]; omega
      · obtain rfl : k = sn := by omega
        have hall : bandTo sh en k k = en := bandTo_all hsn0
        rw [hall]
        clear hlt hk hall
        have x13 := X.out.cell 13
        simp only [List.getElem?_toArray, List.getElem?_cons_zero, List.getElem?_cons_succ] at x13
        go_wp2_with fail
        refine (awake2_any k23 U.out F.out TB.out).mono ?_
        rintro e wZ ⟨rfl, hb⟩
        replace HB := Lib.hid (HB.out.trans (hb.mono HB.out.size))
        clear hb
        go_wp2
        go_ret
        exact ⟨rfl, HB.out⟩
  replace h0 : E = 0 := Classical.not_not.1 h0
  have K2 := Lib.hid (hE.symm.trans h0)
  clear hE
  subst h0
  go_upto_region 18 with fail
  obtain ⟨V, hV⟩ : ∃ V, V = Bell.heardOf T ⟨ax, ay, az, hx, hy, sp⟩ ⟨ax + dx, ay + dy, Z⟩ := ⟨_, rfl⟩
  have hV2 : Bell.heardOf T ⟨ax, ay, az, -hy, hx, sp⟩ ⟨ax - dy, ay + dx, Z⟩ = V := (Bell.heard_turned T ⟨ax, ay, az, hx, hy, sp⟩ dx dy Z).trans hV.symm
  have E1 : Hid (∀ (cs' : Array Value) (sa' : Option Addr) (sc' qb qo qc' gb go gc' : Nat) (W : World), TyOk W cs' nm sh T sa' sn sc' qb qo qn qc' gb go gn gc' → Calls Tryz.prog 18 #[.agg cs', .agg #[.int .i64 ax, .int .i64 ay, .int .i64 az, .int .i64 hx, .int .i64 hy, .int .i64 sp], .agg #[.int .i64 (ax + dx), .int .i64 (ay + dy), .int .i64 Z]] W fun e w' => e = .returned (.tuple #[.int .i64 V, .int .i64 0]) ∧ Below W.heap.size W w') := fun cs' sa' sc' qb qo qc' gb go gc' W hk => by
    have g := HA.out
    have h := Heard_ok ⟨ax, ay, az, hx, hy, sp⟩ ⟨ax + dx, ay + dy, Z⟩ W hk ⟨g.ax.1, g.ax.2, g.ay.1, g.ay.2, g.az.1, g.az.2, (show -200000 ≤ hx by have := g.hx; have := g.hy; omega), (show hx ≤ 200000 by have := g.hx; have := g.hy; omega), (show -200000 ≤ hy by have := g.hx; have := g.hy; omega), (show hy ≤ 200000 by have := g.hx; have := g.hy; omega), g.sp.1, g.sp.2⟩ (placeE_good (r := ⟨ax + dx, ay + dy, Z⟩) K1.out)
    rw [← hV] at h
    exact h
  have E2 : Hid (∀ (cs' : Array Value) (sa' : Option Addr) (sc' qb qo qc' gb go gc' : Nat) (W : World), TyOk W cs' nm sh T sa' sn sc' qb qo qn qc' gb go gn gc' → Calls Tryz.prog 18 #[.agg cs', .agg #[.int .i64 ax, .int .i64 ay, .int .i64 az, .int .i64 (-hy), .int .i64 hx, .int .i64 sp], .agg #[.int .i64 (ax - dy), .int .i64 (ay + dx), .int .i64 Z]] W fun e w' => e = .returned (.tuple #[.int .i64 V, .int .i64 0]) ∧ Below W.heap.size W w') := fun cs' sa' sc' qb qo qc' gb go gc' W hk => by
    have g := HA.out
    have h := Heard_ok ⟨ax, ay, az, -hy, hx, sp⟩ ⟨ax - dy, ay + dx, Z⟩ W hk ⟨g.ax.1, g.ax.2, g.ay.1, g.ay.2, g.az.1, g.az.2, (show -200000 ≤ (-hy) by have := g.hx; have := g.hy; omega), (show (-hy) ≤ 200000 by have := g.hx; have := g.hy; omega), (show -200000 ≤ hx by have := g.hx; have := g.hy; omega), (show hx ≤ 200000 by have := g.hx; have := g.hy; omega), g.sp.1, g.sp.2⟩ (placeE_good (r := ⟨ax - dy, ay + dx, Z⟩) K2.out)
    rw [hV2] at h
    exact h
  clear hV hV2
  refine wp_region_allN 11 rfl (by kernel_rfl) (by kernel_rfl) [GR.eq (.agg cs), GR.gv nm sh T sn qn gn, GR.eq (.pointer (some ⟨g3, 2, none⟩)), GR.eq (.agg #[.int .i64 ax, .int .i64 ay, .int .i64 az, .int .i64 hx, .int .i64 hy, .int .i64 sp]), GR.eq (.agg #[.int .i64 (ax + dx), .int .i64 (ay + dy), .int .i64 Z]), GR.eq (.tuple #[.int .i64 V, .int .i64 0]), GR.eq (.tuple #[.int .i64 V, .int .i64 0]), GR.eq (.int .i64 V), GR.eq (.int .i64 0), GR.eq (.int .i64 V), GR.eq (.int .i64 0)] 393 rfl (by kernel_rfl) ?_ ?_
  · refine ⟨?_, ?_, ?_, ?_, ?_, ?_, ?_, ?_, ?_, ?_, ?_, trivial⟩
    · intro a W hE hd ho
      have e2 : a.tmps[2]?.getD undef = .pointer (some ⟨g2, 0, none⟩) := ho 2 (by kernel_rfl)
      exact gs_load 26 (.tmp 2) rfl ⟨g2, 0, none⟩ (.agg cs) ((eval_getD _ _).trans e2) ((TT.out.below hE).lv Tryz.prog Tryz.underlying26 rfl IT.out) rfl
    · intro a W hE hd ho
      have e269 : a.tmps[269]?.getD undef = .agg cs := hd 0 269 (by kernel_rfl) (by kernel_rfl)
      refine gs_call (f := 16) (args := #[.agg cs]) (by go_simp) ?_
      refine (given_any W (HT.out.keep hE) HNG.out.2 HNG.out.1 hS.out.name).mono ?_
      rintro e w9 ⟨cs', sa', sc', qb, qo, qc', gb, go, gc', rfl, h1, h2⟩
      exact ⟨_, rfl, h2, cs', sa', sc', qb, qo, qc', gb, go, gc', rfl, h1⟩
    · intro a W hE hd ho
      have e3 : a.tmps[3]?.getD undef = .pointer (some ⟨g3, 0, none⟩) := ho 3 (by kernel_rfl)
      exact gs_same (v := .pointer (some ⟨g3, 2, none⟩)) (by go_simp) rfl
    · intro a W hE hd ho
      have e271 : a.tmps[271]?.getD undef = .pointer (some ⟨g3, 2, none⟩) := hd 2 271 (by kernel_rfl) (by kernel_rfl)
      have c2 := (X.out.below hE).cell 2
      have c3 := (X.out.below hE).cell 3
      have c4 := (X.out.below hE).cell 4
      have c5 := (X.out.below hE).cell 5
      have c6 := (X.out.below hE).cell 6
      have c7 := (X.out.below hE).cell 7
      simp only [List.getElem?_toArray, List.getElem?_cons_zero, List.getElem?_cons_succ] at c2 c3 c4 c5 c6 c7
      exact gs_same (v := .agg #[.int .i64 ax, .int .i64 ay, .int .i64 az, .int .i64 hx, .int .i64 hy, .int .i64 sp]) (by go_simp) rfl
    · intro a W hE hd ho
      have e18 : a.tmps[18]?.getD undef = .pointer (some ⟨g18, 0, none⟩) := ho 18 (by kernel_rfl)
      have c0 := (R.out.below hE).cell 0
      have c1 := (R.out.below hE).cell 1
      have c2 := (R.out.below hE).cell 2
      simp only [List.getElem?_toArray, List.getElem?_cons_zero, List.getElem?_cons_succ] at c0 c1 c2
      exact gs_same (v := .agg #[.int .i64 (ax + dx), .int .i64 (ay + dy), .int .i64 Z]) (by go_simp) rfl
    · intro a W hE hd ho
      have e272 : a.tmps[272]?.getD undef = .agg #[.int .i64 ax, .int .i64 ay, .int .i64 az, .int .i64 hx, .int .i64 hy, .int .i64 sp] := hd 3 272 (by kernel_rfl) (by kernel_rfl)
      have e273 : a.tmps[273]?.getD undef = .agg #[.int .i64 (ax + dx), .int .i64 (ay + dy), .int .i64 Z] := hd 4 273 (by kernel_rfl) (by kernel_rfl)
      obtain ⟨cs', sa', sc', qb, qo, qc', gb, go, gc', e270, hk⟩ : ∃ cs sa sc qb qo qc gb go gc, a.tmps[270]?.getD undef = .agg cs ∧ TyOk W cs nm sh T sa sn sc qb qo qn qc gb go gn gc := hd 1 270 (by kernel_rfl) (by kernel_rfl)
      refine gs_call (f := 18) (args := #[.agg cs', .agg #[.int .i64 ax, .int .i64 ay, .int .i64 az, .int .i64 hx, .int .i64 hy, .int .i64 sp], .agg #[.int .i64 (ax + dx), .int .i64 (ay + dy), .int .i64 Z]]) (by go_simp) ?_
      refine (E1.out _ _ _ _ _ _ _ _ _ W hk).mono ?_
      rintro e w' ⟨rfl, hb⟩
      exact ⟨_, rfl, hb, rfl⟩
    · intro a W hE hd ho
      have e274 : a.tmps[274]?.getD undef = .tuple #[.int .i64 V, .int .i64 0] := hd 5 274 (by kernel_rfl) (by kernel_rfl)
      exact gs_same (v := .tuple #[.int .i64 V, .int .i64 0]) (by go_simp) rfl
    · intro a W hE hd ho
      have e268 : a.tmps[268]?.getD undef = .tuple #[.int .i64 V, .int .i64 0] := hd 6 268 (by kernel_rfl) (by kernel_rfl)
      exact gs_same (v := .int .i64 V) (by go_simp) rfl
    · intro a W hE hd ho
      have e268 : a.tmps[268]?.getD undef = .tuple #[.int .i64 V, .int .i64 0] := hd 6 268 (by kernel_rfl) (by kernel_rfl)
      exact gs_same (v := .int .i64 0) (by go_simp) rfl
    · intro a W hE hd ho
      have e275 : a.tmps[275]?.getD undef = .int .i64 V := hd 7 275 (by kernel_rfl) (by kernel_rfl)
      exact gs_same (v := .int .i64 V) (by go_simp) rfl
    · intro a W hE hd ho
      have e276 : a.tmps[276]?.getD undef = .int .i64 0 := hd 8 276 (by kernel_rfl) (by kernel_rfl)
      exact gs_same (v := .int .i64 0) (by go_simp) rfl
  intro vs w21 hE hR
  have y0 : vs 0 = .agg cs := hR 0 (by omega)
  obtain ⟨vgv, y1⟩ : ∃ v, vs 1 = v := ⟨_, rfl⟩
  have y2 : vs 2 = .pointer (some ⟨g3, 2, none⟩) := hR 2 (by omega)
  have y3 : vs 3 = .agg #[.int .i64 ax, .int .i64 ay, .int .i64 az, .int .i64 hx, .int .i64 hy, .int .i64 sp] := hR 3 (by omega)
  have y4 : vs 4 = .agg #[.int .i64 (ax + dx), .int .i64 (ay + dy), .int .i64 Z] := hR 4 (by omega)
  have y5 : vs 5 = .tuple #[.int .i64 V, .int .i64 0] := hR 5 (by omega)
  have y6 : vs 6 = .tuple #[.int .i64 V, .int .i64 0] := hR 6 (by omega)
  have y7 : vs 7 = .int .i64 V := hR 7 (by omega)
  have y8 : vs 8 = .int .i64 0 := hR 8 (by omega)
  have y9 : vs 9 = .int .i64 V := hR 9 (by omega)
  have y10 : vs 10 = .int .i64 0 := hR 10 (by omega)
  simp only [List.range, List.range.loop, List.foldl_cons, List.foldl_nil, y0, y1, y2, y3, y4, y5, y6, y7, y8, y9, y10, List.drop_succ_cons, List.drop_zero]
  simp only [dstAt, List.getElem?_toArray, List.getElem?_cons_zero, List.getElem?_cons_succ, Option.bind_some, Act.put, List.setIfInBounds_toArray, List.set_cons_zero, List.set_cons_succ]
  clear y0 y1 y2 y3 y4 y5 y6 y7 y8 y9 y10 hR
  have hb := hE.below
  replace HB := Lib.hid (HB.out.trans (hb.mono HB.out.size))
  replace U := Lib.hid (U.out.keep hb)
  replace F := Lib.hid (F.out.keep hb)
  replace TB := Lib.hid (TB.out.keep hb)
  replace HT := Lib.hid (HT.out.keep hb)
  replace TT := Lib.hid (TT.out.below hb)
  replace X := Lib.hid (X.out.below hb)
  replace H := Lib.hid (H.out.below hb)
  replace D := Lib.hid (D.out.below hb)
  replace R := Lib.hid (R.out.below hb)
  replace SN := Lib.hid (SN.out.below hb)
  replace O := Lib.hid (O.out.below hb)
  clear hb
  clear hE
  go_upto_region 19 with fail
  refine wp_region_allN 10 rfl (by kernel_rfl) (by kernel_rfl) [GR.eq (.agg cs), GR.gv nm sh T sn qn gn, GR.eq (.agg #[.int .i64 ax, .int .i64 ay, .int .i64 az, .int .i64 (-hy), .int .i64 hx, .int .i64 sp]), GR.eq (.agg #[.int .i64 (ax - dy), .int .i64 (ay + dx), .int .i64 Z]), GR.eq (.tuple #[.int .i64 V, .int .i64 0]), GR.eq (.tuple #[.int .i64 V, .int .i64 0]), GR.eq (.int .i64 V), GR.eq (.int .i64 0), GR.eq (.int .i64 V), GR.eq (.int .i64 0)] 393 rfl (by kernel_rfl) ?_ ?_
  · refine ⟨?_, ?_, ?_, ?_, ?_, ?_, ?_, ?_, ?_, ?_, trivial⟩
    · intro a W hE hd ho
      have e2 : a.tmps[2]?.getD undef = .pointer (some ⟨g2, 0, none⟩) := ho 2 (by kernel_rfl)
      exact gs_load 26 (.tmp 2) rfl ⟨g2, 0, none⟩ (.agg cs) ((eval_getD _ _).trans e2) ((TT.out.below hE).lv Tryz.prog Tryz.underlying26 rfl IT.out) rfl
    · intro a W hE hd ho
      have e278 : a.tmps[278]?.getD undef = .agg cs := hd 0 278 (by kernel_rfl) (by kernel_rfl)
      refine gs_call (f := 16) (args := #[.agg cs]) (by go_simp) ?_
      refine (given_any W (HT.out.keep hE) HNG.out.2 HNG.out.1 hS.out.name).mono ?_
      rintro e w9 ⟨cs', sa', sc', qb, qo, qc', gb, go, gc', rfl, h1, h2⟩
      exact ⟨_, rfl, h2, cs', sa', sc', qb, qo, qc', gb, go, gc', rfl, h1⟩
    · intro a W hE hd ho
      have e19 : a.tmps[19]?.getD undef = .pointer (some ⟨g19, 0, none⟩) := ho 19 (by kernel_rfl)
      have c0 := (SN.out.below hE).cell 0
      have c1 := (SN.out.below hE).cell 1
      have c2 := (SN.out.below hE).cell 2
      have c3 := (SN.out.below hE).cell 3
      have c4 := (SN.out.below hE).cell 4
      have c5 := (SN.out.below hE).cell 5
      simp only [List.getElem?_toArray, List.getElem?_cons_zero, List.getElem?_cons_succ] at c0 c1 c2 c3 c4 c5
      exact gs_same (v := .agg #[.int .i64 ax, .int .i64 ay, .int .i64 az, .int .i64 (-hy), .int .i64 hx, .int .i64 sp]) (by go_simp) rfl
    · intro a W hE hd ho
      have e21 : a.tmps[21]?.getD undef = .pointer (some ⟨g21, 0, none⟩) := ho 21 (by kernel_rfl)
      have c0 := (O.out.below hE).cell 0
      have c1 := (O.out.below hE).cell 1
      have c2 := (O.out.below hE).cell 2
      simp only [List.getElem?_toArray, List.getElem?_cons_zero, List.getElem?_cons_succ] at c0 c1 c2
      exact gs_same (v := .agg #[.int .i64 (ax - dy), .int .i64 (ay + dx), .int .i64 Z]) (by go_simp) rfl
    · intro a W hE hd ho
      have e280 : a.tmps[280]?.getD undef = .agg #[.int .i64 ax, .int .i64 ay, .int .i64 az, .int .i64 (-hy), .int .i64 hx, .int .i64 sp] := hd 2 280 (by kernel_rfl) (by kernel_rfl)
      have e281 : a.tmps[281]?.getD undef = .agg #[.int .i64 (ax - dy), .int .i64 (ay + dx), .int .i64 Z] := hd 3 281 (by kernel_rfl) (by kernel_rfl)
      obtain ⟨cs', sa', sc', qb, qo, qc', gb, go, gc', e279, hk⟩ : ∃ cs sa sc qb qo qc gb go gc, a.tmps[279]?.getD undef = .agg cs ∧ TyOk W cs nm sh T sa sn sc qb qo qn qc gb go gn gc := hd 1 279 (by kernel_rfl) (by kernel_rfl)
      refine gs_call (f := 18) (args := #[.agg cs', .agg #[.int .i64 ax, .int .i64 ay, .int .i64 az, .int .i64 (-hy), .int .i64 hx, .int .i64 sp], .agg #[.int .i64 (ax - dy), .int .i64 (ay + dx), .int .i64 Z]]) (by go_simp) ?_
      refine (E2.out _ _ _ _ _ _ _ _ _ W hk).mono ?_
      rintro e w' ⟨rfl, hb⟩
      exact ⟨_, rfl, hb, rfl⟩
    · intro a W hE hd ho
      have e282 : a.tmps[282]?.getD undef = .tuple #[.int .i64 V, .int .i64 0] := hd 4 282 (by kernel_rfl) (by kernel_rfl)
      exact gs_same (v := .tuple #[.int .i64 V, .int .i64 0]) (by go_simp) rfl
    · intro a W hE hd ho
      have e277 : a.tmps[277]?.getD undef = .tuple #[.int .i64 V, .int .i64 0] := hd 5 277 (by kernel_rfl) (by kernel_rfl)
      exact gs_same (v := .int .i64 V) (by go_simp) rfl
    · intro a W hE hd ho
      have e277 : a.tmps[277]?.getD undef = .tuple #[.int .i64 V, .int .i64 0] := hd 5 277 (by kernel_rfl) (by kernel_rfl)
      exact gs_same (v := .int .i64 0) (by go_simp) rfl
    · intro a W hE hd ho
      have e283 : a.tmps[283]?.getD undef = .int .i64 V := hd 6 283 (by kernel_rfl) (by kernel_rfl)
      exact gs_same (v := .int .i64 V) (by go_simp) rfl
    · intro a W hE hd ho
      have e284 : a.tmps[284]?.getD undef = .int .i64 0 := hd 7 284 (by kernel_rfl) (by kernel_rfl)
      exact gs_same (v := .int .i64 0) (by go_simp) rfl
  intro vs w22 hE hR
  have y0 : vs 0 = .agg cs := hR 0 (by omega)
  obtain ⟨vgv, y1⟩ : ∃ v, vs 1 = v := ⟨_, rfl⟩
  have y2 : vs 2 = .agg #[.int .i64 ax, .int .i64 ay, .int .i64 az, .int .i64 (-hy), .int .i64 hx, .int .i64 sp] := hR 2 (by omega)
  have y3 : vs 3 = .agg #[.int .i64 (ax - dy), .int .i64 (ay + dx), .int .i64 Z] := hR 3 (by omega)
  have y4 : vs 4 = .tuple #[.int .i64 V, .int .i64 0] := hR 4 (by omega)
  have y5 : vs 5 = .tuple #[.int .i64 V, .int .i64 0] := hR 5 (by omega)
  have y6 : vs 6 = .int .i64 V := hR 6 (by omega)
  have y7 : vs 7 = .int .i64 0 := hR 7 (by omega)
  have y8 : vs 8 = .int .i64 V := hR 8 (by omega)
  have y9 : vs 9 = .int .i64 0 := hR 9 (by omega)
  simp only [List.range, List.range.loop, List.foldl_cons, List.foldl_nil, y0, y1, y2, y3, y4, y5, y6, y7, y8, y9, List.drop_succ_cons, List.drop_zero]
  simp only [dstAt, List.getElem?_toArray, List.getElem?_cons_zero, List.getElem?_cons_succ, Option.bind_some, Act.put, List.setIfInBounds_toArray, List.set_cons_zero, List.set_cons_succ]
  clear y0 y1 y2 y3 y4 y5 y6 y7 y8 y9 hR
  have hb := hE.below
  replace HB := Lib.hid (HB.out.trans (hb.mono HB.out.size))
  replace U := Lib.hid (U.out.keep hb)
  replace F := Lib.hid (F.out.keep hb)
  replace TB := Lib.hid (TB.out.keep hb)
  replace HT := Lib.hid (HT.out.keep hb)
  replace TT := Lib.hid (TT.out.below hb)
  replace X := Lib.hid (X.out.below hb)
  replace H := Lib.hid (H.out.below hb)
  replace D := Lib.hid (D.out.below hb)
  replace R := Lib.hid (R.out.below hb)
  replace SN := Lib.hid (SN.out.below hb)
  replace O := Lib.hid (O.out.below hb)
  clear hb
  clear hE E1 E2
  go_upto_region 22 with fail
  obtain ⟨Q2, hQ2⟩ : ∃ z, z = min 100000000000 (2 * sq) := ⟨_, rfl⟩
  obtain ⟨P2, hP2⟩ : ∃ z, z = min 100 (pw + 3) := ⟨_, rfl⟩
  obtain ⟨N, hN⟩ : ∃ z, z = Bell.emis T.sets (Bell.reachOf T.squares sq) pw := ⟨_, rfl⟩
  obtain ⟨FA, hFA⟩ : ∃ z, z = Bell.emis T.sets (Bell.reachOf T.squares Q2) pw := ⟨_, rfl⟩
  obtain ⟨MO, hMO⟩ : ∃ z, z = Bell.emis T.sets (Bell.reachOf T.squares sq) P2 := ⟨_, rfl⟩
  have r1 : ∀ ts t W, (Builtin.min_ ts t #[.int .i64 100000000000, .int .i64 (2 * sq)]).run Tryz.prog W = .ok (.int .i64 Q2) W := fun ts t W => by rw [hQ2]; exact run_min2' _ _ _ _ _ _
  have r2 : ∀ ts t W, (Builtin.min_ ts t #[.int .i64 100, .int .i64 (pw + 3)]).run Tryz.prog W = .ok (.int .i64 P2) W := fun ts t W => by rw [hP2]; exact run_min2' _ _ _ _ _ _
  have v1 : IntKind.i64.wrap (2 * sq) = 2 * sq := IntWalk.i64_in _ (by have g := HA.out.sq; omega)
  have v2 : IntKind.i64.wrap (pw + 3) = pw + 3 := IntWalk.i64_in _ (by have g := HA.out.pw; omega)
  have M1 : Hid (∀ (cs' : Array Value) (sa' : Option Addr) (sc' qb qo qc' gb go gc' : Nat) (W : World), TyOk W cs' nm sh T sa' sn sc' qb qo qn qc' gb go gn gc' → Calls Tryz.prog 15 #[.agg cs', .int .i64 pw, .int .i64 sq] W fun e w' => e = .returned (.tuple #[.int .i64 N, .int .i64 0]) ∧ Below W.heap.size W w') := fun cs' sa' sc' qb qo qc' gb go gc' W hk => by
    have h := Emission_ok pw sq W hk (by have g := HA.out.pw; omega) (by have g := HA.out.sq; omega)
    rwa [← hN] at h
  have M2 : Hid (∀ (cs' : Array Value) (sa' : Option Addr) (sc' qb qo qc' gb go gc' : Nat) (W : World), TyOk W cs' nm sh T sa' sn sc' qb qo qn qc' gb go gn gc' → Calls Tryz.prog 15 #[.agg cs', .int .i64 pw, .int .i64 Q2] W fun e w' => e = .returned (.tuple #[.int .i64 FA, .int .i64 0]) ∧ Below W.heap.size W w') := fun cs' sa' sc' qb qo qc' gb go gc' W hk => by
    have h := Emission_ok pw Q2 W hk (by have g := HA.out.pw; omega) (by have g := HA.out.sq; omega)
    rwa [← hFA] at h
  have M3 : Hid (∀ (cs' : Array Value) (sa' : Option Addr) (sc' qb qo qc' gb go gc' : Nat) (W : World), TyOk W cs' nm sh T sa' sn sc' qb qo qn qc' gb go gn gc' → Calls Tryz.prog 15 #[.agg cs', .int .i64 P2, .int .i64 sq] W fun e w' => e = .returned (.tuple #[.int .i64 MO, .int .i64 0]) ∧ Below W.heap.size W w') := fun cs' sa' sc' qb qo qc' gb go gc' W hk => by
    have h := Emission_ok P2 sq W hk (by have g := HA.out.pw; omega) (by have g := HA.out.sq; omega)
    rwa [← hMO] at h
  have HO : Hid (0 ≤ N ∧ FA ≤ N ∧ N ≤ MO) := by
    have gs := HNG.out.2.ty.sets
    have g0 := HNG.out.2.ty.sq
    have g := HA.out.sq
    have g2 := HA.out.pw
    show _ ∧ _ ∧ _
    rw [hN, hFA, hMO]
    exact ⟨(Bell.emis_range gs (Bell.reach_lt g0) pw).1, Bell.emis_far gs (Bell.reach_mono (by omega)) (Bell.reach_lt g0) pw, Bell.emis_power gs (Bell.reach_lt g0) (by omega)⟩
  have MB : Hid (∀ (cs' : Array Value) (sa' : Option Addr) (sc' qb qo qc' gb go gc' : Nat) (W : World), TyOk W cs' nm sh T sa' sn sc' qb qo qn qc' gb go gn gc' → Calls Tryz.prog 19 #[.agg cs', .int .i64 en] W fun x w' => ∃ g, x = .returned (.tuple #[.slice (some ⟨g, 0, none⟩) sn sn, .int .i64 0]) ∧ (∀ i, i < sn → w'.cell? ⟨g, i, none⟩ = some (.int .i64 (bandAt sh en sn i))) ∧ Below W.heap.size W w') := fun cs' sa' sc' qb qo qc' gb go gc' W hk => Banded_ok en W hk HA.out.en
  clear hQ2 hP2 hN hFA hMO
  refine wp_region_allN 12 rfl (by kernel_rfl) (by kernel_rfl) [GR.eq (.agg cs), GR.gv nm sh T sn qn gn, GR.eq (.pointer (some ⟨g3, 0, none⟩)), GR.eq (.int .i64 pw), GR.eq (.pointer (some ⟨g3, 1, none⟩)), GR.eq (.int .i64 sq), GR.eq (.tuple #[.int .i64 N, .int .i64 0]), GR.eq (.tuple #[.int .i64 N, .int .i64 0]), GR.eq (.int .i64 N), GR.eq (.int .i64 0), GR.eq (.int .i64 N), GR.eq (.int .i64 0)] 393 rfl (by kernel_rfl) ?_ ?_
  · refine ⟨?_, ?_, ?_, ?_, ?_, ?_, ?_, ?_, ?_, ?_, ?_, ?_, trivial⟩
    · intro a W hE hd ho
      have e2 : a.tmps[2]?.getD undef = .pointer (some ⟨g2, 0, none⟩) := ho 2 (by kernel_rfl)
      exact gs_load 26 (.tmp 2) rfl ⟨g2, 0, none⟩ (.agg cs) ((eval_getD _ _).trans e2) ((TT.out.below hE).lv Tryz.prog Tryz.underlying26 rfl IT.out) rfl
    · intro a W hE hd ho
      have e297 : a.tmps[297]?.getD undef = .agg cs := hd 0 297 (by kernel_rfl) (by kernel_rfl)
      refine gs_call (f := 16) (args := #[.agg cs]) (by go_simp) ?_
      refine (given_any W (HT.out.keep hE) HNG.out.2 HNG.out.1 hS.out.name).mono ?_
      rintro e w9 ⟨cs', sa', sc', qb, qo, qc', gb, go, gc', rfl, h1, h2⟩
      exact ⟨_, rfl, h2, cs', sa', sc', qb, qo, qc', gb, go, gc', rfl, h1⟩
    · intro a W hE hd ho
      have e3 : a.tmps[3]?.getD undef = .pointer (some ⟨g3, 0, none⟩) := ho 3 (by kernel_rfl)
      exact gs_same (v := .pointer (some ⟨g3, 0, none⟩)) (by go_simp) rfl
    · intro a W hE hd ho
      have e299 : a.tmps[299]?.getD undef = .pointer (some ⟨g3, 0, none⟩) := hd 2 299 (by kernel_rfl) (by kernel_rfl)
      have c0 := (X.out.below hE).cell 0
      simp only [List.getElem?_toArray, List.getElem?_cons_zero, List.getElem?_cons_succ] at c0
      exact gs_same (v := .int .i64 pw) (by go_simp) rfl
    · intro a W hE hd ho
      have e3 : a.tmps[3]?.getD undef = .pointer (some ⟨g3, 0, none⟩) := ho 3 (by kernel_rfl)
      exact gs_same (v := .pointer (some ⟨g3, 1, none⟩)) (by go_simp) rfl
    · intro a W hE hd ho
      have e301 : a.tmps[301]?.getD undef = .pointer (some ⟨g3, 1, none⟩) := hd 4 301 (by kernel_rfl) (by kernel_rfl)
      have c1 := (X.out.below hE).cell 1
      simp only [List.getElem?_toArray, List.getElem?_cons_zero, List.getElem?_cons_succ] at c1
      exact gs_same (v := .int .i64 sq) (by go_simp) rfl
    · intro a W hE hd ho
      have e300 : a.tmps[300]?.getD undef = .int .i64 pw := hd 3 300 (by kernel_rfl) (by kernel_rfl)
      have e302 : a.tmps[302]?.getD undef = .int .i64 sq := hd 5 302 (by kernel_rfl) (by kernel_rfl)
      obtain ⟨cs', sa', sc', qb, qo, qc', gb, go, gc', e298, hk⟩ : ∃ cs sa sc qb qo qc gb go gc, a.tmps[298]?.getD undef = .agg cs ∧ TyOk W cs nm sh T sa sn sc qb qo qn qc gb go gn gc := hd 1 298 (by kernel_rfl) (by kernel_rfl)
      refine gs_call (f := 15) (args := #[.agg cs', .int .i64 pw, .int .i64 sq]) (by go_simp) ?_
      refine (M1.out _ _ _ _ _ _ _ _ _ W hk).mono ?_
      rintro e w' ⟨rfl, hb⟩
      exact ⟨_, rfl, hb, rfl⟩
    · intro a W hE hd ho
      have e303 : a.tmps[303]?.getD undef = .tuple #[.int .i64 N, .int .i64 0] := hd 6 303 (by kernel_rfl) (by kernel_rfl)
      exact gs_same (v := .tuple #[.int .i64 N, .int .i64 0]) (by go_simp) rfl
    · intro a W hE hd ho
      have e296 : a.tmps[296]?.getD undef = .tuple #[.int .i64 N, .int .i64 0] := hd 7 296 (by kernel_rfl) (by kernel_rfl)
      exact gs_same (v := .int .i64 N) (by go_simp) rfl
    · intro a W hE hd ho
      have e296 : a.tmps[296]?.getD undef = .tuple #[.int .i64 N, .int .i64 0] := hd 7 296 (by kernel_rfl) (by kernel_rfl)
      exact gs_same (v := .int .i64 0) (by go_simp) rfl
    · intro a W hE hd ho
      have e304 : a.tmps[304]?.getD undef = .int .i64 N := hd 8 304 (by kernel_rfl) (by kernel_rfl)
      exact gs_same (v := .int .i64 N) (by go_simp) rfl
    · intro a W hE hd ho
      have e305 : a.tmps[305]?.getD undef = .int .i64 0 := hd 9 305 (by kernel_rfl) (by kernel_rfl)
      exact gs_same (v := .int .i64 0) (by go_simp) rfl
  intro vt k30 hE hR
  have y0 : vt 0 = .agg cs := hR 0 (by omega)
  obtain ⟨vgv, y1⟩ : ∃ v, vt 1 = v := ⟨_, rfl⟩
  have y2 : vt 2 = .pointer (some ⟨g3, 0, none⟩) := hR 2 (by omega)
  have y3 : vt 3 = .int .i64 pw := hR 3 (by omega)
  have y4 : vt 4 = .pointer (some ⟨g3, 1, none⟩) := hR 4 (by omega)
  have y5 : vt 5 = .int .i64 sq := hR 5 (by omega)
  have y6 : vt 6 = .tuple #[.int .i64 N, .int .i64 0] := hR 6 (by omega)
  have y7 : vt 7 = .tuple #[.int .i64 N, .int .i64 0] := hR 7 (by omega)
  have y8 : vt 8 = .int .i64 N := hR 8 (by omega)
  have y9 : vt 9 = .int .i64 0 := hR 9 (by omega)
  have y10 : vt 10 = .int .i64 N := hR 10 (by omega)
  have y11 : vt 11 = .int .i64 0 := hR 11 (by omega)
  simp only [List.range, List.range.loop, List.foldl_cons, List.foldl_nil, y0, y1, y2, y3, y4, y5, y6, y7, y8, y9, y10, y11, List.drop_succ_cons, List.drop_zero]
  simp only [dstAt, List.getElem?_toArray, List.getElem?_cons_zero, List.getElem?_cons_succ, Option.bind_some, Act.put, List.setIfInBounds_toArray, List.set_cons_zero, List.set_cons_succ]
  clear y0 y1 y2 y3 y4 y5 y6 y7 y8 y9 y10 y11 hR
  have hb := hE.below
  replace HB := Lib.hid (HB.out.trans (hb.mono HB.out.size))
  replace U := Lib.hid (U.out.keep hb)
  replace F := Lib.hid (F.out.keep hb)
  replace TB := Lib.hid (TB.out.keep hb)
  replace HT := Lib.hid (HT.out.keep hb)
  replace TT := Lib.hid (TT.out.below hb)
  replace X := Lib.hid (X.out.below hb)
  clear hb
  clear hE
  go_upto_region 23 with fail
  refine wp_region_allN 14 rfl (by kernel_rfl) (by kernel_rfl) [GR.eq (.agg cs), GR.gv nm sh T sn qn gn, GR.eq (.pointer (some ⟨g3, 0, none⟩)), GR.eq (.int .i64 pw), GR.eq (.pointer (some ⟨g3, 1, none⟩)), GR.eq (.int .i64 sq), GR.eq (.int .i64 (2 * sq)), GR.eq (.int .i64 Q2), GR.eq (.tuple #[.int .i64 FA, .int .i64 0]), GR.eq (.tuple #[.int .i64 FA, .int .i64 0]), GR.eq (.int .i64 FA), GR.eq (.int .i64 0), GR.eq (.int .i64 FA), GR.eq (.int .i64 0)] 393 rfl (by kernel_rfl) ?_ ?_
  · refine ⟨?_, ?_, ?_, ?_, ?_, ?_, ?_, ?_, ?_, ?_, ?_, ?_, ?_, ?_, trivial⟩
    · intro a W hE hd ho
      have e2 : a.tmps[2]?.getD undef = .pointer (some ⟨g2, 0, none⟩) := ho 2 (by kernel_rfl)
      exact gs_load 26 (.tmp 2) rfl ⟨g2, 0, none⟩ (.agg cs) ((eval_getD _ _).trans e2) ((TT.out.below hE).lv Tryz.prog Tryz.underlying26 rfl IT.out) rfl
    · intro a W hE hd ho
      have e307 : a.tmps[307]?.getD undef = .agg cs := hd 0 307 (by kernel_rfl) (by kernel_rfl)
      refine gs_call (f := 16) (args := #[.agg cs]) (by go_simp) ?_
      refine (given_any W (HT.out.keep hE) HNG.out.2 HNG.out.1 hS.out.name).mono ?_
      rintro e w9 ⟨cs', sa', sc', qb, qo, qc', gb, go, gc', rfl, h1, h2⟩
      exact ⟨_, rfl, h2, cs', sa', sc', qb, qo, qc', gb, go, gc', rfl, h1⟩
    · intro a W hE hd ho
      have e3 : a.tmps[3]?.getD undef = .pointer (some ⟨g3, 0, none⟩) := ho 3 (by kernel_rfl)
      exact gs_same (v := .pointer (some ⟨g3, 0, none⟩)) (by go_simp) rfl
    · intro a W hE hd ho
      have e309 : a.tmps[309]?.getD undef = .pointer (some ⟨g3, 0, none⟩) := hd 2 309 (by kernel_rfl) (by kernel_rfl)
      have c0 := (X.out.below hE).cell 0
      simp only [List.getElem?_toArray, List.getElem?_cons_zero, List.getElem?_cons_succ] at c0
      exact gs_same (v := .int .i64 pw) (by go_simp) rfl
    · intro a W hE hd ho
      have e3 : a.tmps[3]?.getD undef = .pointer (some ⟨g3, 0, none⟩) := ho 3 (by kernel_rfl)
      exact gs_same (v := .pointer (some ⟨g3, 1, none⟩)) (by go_simp) rfl
    · intro a W hE hd ho
      have e311 : a.tmps[311]?.getD undef = .pointer (some ⟨g3, 1, none⟩) := hd 4 311 (by kernel_rfl) (by kernel_rfl)
      have c1 := (X.out.below hE).cell 1
      simp only [List.getElem?_toArray, List.getElem?_cons_zero, List.getElem?_cons_succ] at c1
      exact gs_same (v := .int .i64 sq) (by go_simp) rfl
    · intro a W hE hd ho
      have e312 : a.tmps[312]?.getD undef = .int .i64 sq := hd 5 312 (by kernel_rfl) (by kernel_rfl)
      exact gs_same (v := .int .i64 (2 * sq)) (by go_simp) rfl
    · intro a W hE hd ho
      have e313 : a.tmps[313]?.getD undef = .int .i64 (2 * sq) := hd 6 313 (by kernel_rfl) (by kernel_rfl)
      exact gs_same (v := .int .i64 Q2) (by go_simp) rfl
    · intro a W hE hd ho
      have e310 : a.tmps[310]?.getD undef = .int .i64 pw := hd 3 310 (by kernel_rfl) (by kernel_rfl)
      have e314 : a.tmps[314]?.getD undef = .int .i64 Q2 := hd 7 314 (by kernel_rfl) (by kernel_rfl)
      obtain ⟨cs', sa', sc', qb, qo, qc', gb, go, gc', e308, hk⟩ : ∃ cs sa sc qb qo qc gb go gc, a.tmps[308]?.getD undef = .agg cs ∧ TyOk W cs nm sh T sa sn sc qb qo qn qc gb go gn gc := hd 1 308 (by kernel_rfl) (by kernel_rfl)
      refine gs_call (f := 15) (args := #[.agg cs', .int .i64 pw, .int .i64 Q2]) (by go_simp) ?_
      refine (M2.out _ _ _ _ _ _ _ _ _ W hk).mono ?_
      rintro e w' ⟨rfl, hb⟩
      exact ⟨_, rfl, hb, rfl⟩
    · intro a W hE hd ho
      have e315 : a.tmps[315]?.getD undef = .tuple #[.int .i64 FA, .int .i64 0] := hd 8 315 (by kernel_rfl) (by kernel_rfl)
      exact gs_same (v := .tuple #[.int .i64 FA, .int .i64 0]) (by go_simp) rfl
    · intro a W hE hd ho
      have e306 : a.tmps[306]?.getD undef = .tuple #[.int .i64 FA, .int .i64 0] := hd 9 306 (by kernel_rfl) (by kernel_rfl)
      exact gs_same (v := .int .i64 FA) (by go_simp) rfl
    · intro a W hE hd ho
      have e306 : a.tmps[306]?.getD undef = .tuple #[.int .i64 FA, .int .i64 0] := hd 9 306 (by kernel_rfl) (by kernel_rfl)
      exact gs_same (v := .int .i64 0) (by go_simp) rfl
    · intro a W hE hd ho
      have e316 : a.tmps[316]?.getD undef = .int .i64 FA := hd 10 316 (by kernel_rfl) (by kernel_rfl)
      exact gs_same (v := .int .i64 FA) (by go_simp) rfl
    · intro a W hE hd ho
      have e317 : a.tmps[317]?.getD undef = .int .i64 0 := hd 11 317 (by kernel_rfl) (by kernel_rfl)
      exact gs_same (v := .int .i64 0) (by go_simp) rfl
  intro vt k31 hE hR
  have y0 : vt 0 = .agg cs := hR 0 (by omega)
  obtain ⟨vgv, y1⟩ : ∃ v, vt 1 = v := ⟨_, rfl⟩
  have y2 : vt 2 = .pointer (some ⟨g3, 0, none⟩) := hR 2 (by omega)
  have y3 : vt 3 = .int .i64 pw := hR 3 (by omega)
  have y4 : vt 4 = .pointer (some ⟨g3, 1, none⟩) := hR 4 (by omega)
  have y5 : vt 5 = .int .i64 sq := hR 5 (by omega)
  have y6 : vt 6 = .int .i64 (2 * sq) := hR 6 (by omega)
  have y7 : vt 7 = .int .i64 Q2 := hR 7 (by omega)
  have y8 : vt 8 = .tuple #[.int .i64 FA, .int .i64 0] := hR 8 (by omega)
  have y9 : vt 9 = .tuple #[.int .i64 FA, .int .i64 0] := hR 9 (by omega)
  have y10 : vt 10 = .int .i64 FA := hR 10 (by omega)
  have y11 : vt 11 = .int .i64 0 := hR 11 (by omega)
  have y12 : vt 12 = .int .i64 FA := hR 12 (by omega)
  have y13 : vt 13 = .int .i64 0 := hR 13 (by omega)
  simp only [List.range, List.range.loop, List.foldl_cons, List.foldl_nil, y0, y1, y2, y3, y4, y5, y6, y7, y8, y9, y10, y11, y12, y13, List.drop_succ_cons, List.drop_zero]
  simp only [dstAt, List.getElem?_toArray, List.getElem?_cons_zero, List.getElem?_cons_succ, Option.bind_some, Act.put, List.setIfInBounds_toArray, List.set_cons_zero, List.set_cons_succ]
  clear y0 y1 y2 y3 y4 y5 y6 y7 y8 y9 y10 y11 y12 y13 hR
  have hb := hE.below
  replace HB := Lib.hid (HB.out.trans (hb.mono HB.out.size))
  replace U := Lib.hid (U.out.keep hb)
  replace F := Lib.hid (F.out.keep hb)
  replace TB := Lib.hid (TB.out.keep hb)
  replace HT := Lib.hid (HT.out.keep hb)
  replace TT := Lib.hid (TT.out.below hb)
  replace X := Lib.hid (X.out.below hb)
  clear hb
  clear hE
  go_upto_region 24 with fail
  refine wp_region_allN 14 rfl (by kernel_rfl) (by kernel_rfl) [GR.eq (.agg cs), GR.gv nm sh T sn qn gn, GR.eq (.pointer (some ⟨g3, 0, none⟩)), GR.eq (.int .i64 pw), GR.eq (.int .i64 (pw + 3)), GR.eq (.int .i64 P2), GR.eq (.pointer (some ⟨g3, 1, none⟩)), GR.eq (.int .i64 sq), GR.eq (.tuple #[.int .i64 MO, .int .i64 0]), GR.eq (.tuple #[.int .i64 MO, .int .i64 0]), GR.eq (.int .i64 MO), GR.eq (.int .i64 0), GR.eq (.int .i64 MO), GR.eq (.int .i64 0)] 393 rfl (by kernel_rfl) ?_ ?_
  · refine ⟨?_, ?_, ?_, ?_, ?_, ?_, ?_, ?_, ?_, ?_, ?_, ?_, ?_, ?_, trivial⟩
    · intro a W hE hd ho
      have e2 : a.tmps[2]?.getD undef = .pointer (some ⟨g2, 0, none⟩) := ho 2 (by kernel_rfl)
      exact gs_load 26 (.tmp 2) rfl ⟨g2, 0, none⟩ (.agg cs) ((eval_getD _ _).trans e2) ((TT.out.below hE).lv Tryz.prog Tryz.underlying26 rfl IT.out) rfl
    · intro a W hE hd ho
      have e319 : a.tmps[319]?.getD undef = .agg cs := hd 0 319 (by kernel_rfl) (by kernel_rfl)
      refine gs_call (f := 16) (args := #[.agg cs]) (by go_simp) ?_
      refine (given_any W (HT.out.keep hE) HNG.out.2 HNG.out.1 hS.out.name).mono ?_
      rintro e w9 ⟨cs', sa', sc', qb, qo, qc', gb, go, gc', rfl, h1, h2⟩
      exact ⟨_, rfl, h2, cs', sa', sc', qb, qo, qc', gb, go, gc', rfl, h1⟩
    · intro a W hE hd ho
      have e3 : a.tmps[3]?.getD undef = .pointer (some ⟨g3, 0, none⟩) := ho 3 (by kernel_rfl)
      exact gs_same (v := .pointer (some ⟨g3, 0, none⟩)) (by go_simp) rfl
    · intro a W hE hd ho
      have e321 : a.tmps[321]?.getD undef = .pointer (some ⟨g3, 0, none⟩) := hd 2 321 (by kernel_rfl) (by kernel_rfl)
      have c0 := (X.out.below hE).cell 0
      simp only [List.getElem?_toArray, List.getElem?_cons_zero, List.getElem?_cons_succ] at c0
      exact gs_same (v := .int .i64 pw) (by go_simp) rfl
    · intro a W hE hd ho
      have e322 : a.tmps[322]?.getD undef = .int .i64 pw := hd 3 322 (by kernel_rfl) (by kernel_rfl)
      exact gs_same (v := .int .i64 (pw + 3)) (by go_simp) rfl
    · intro a W hE hd ho
      have e323 : a.tmps[323]?.getD undef = .int .i64 (pw + 3) := hd 4 323 (by kernel_rfl) (by kernel_rfl)
      exact gs_same (v := .int .i64 P2) (by go_simp) rfl
    · intro a W hE hd ho
      have e3 : a.tmps[3]?.getD undef = .pointer (some ⟨g3, 0, none⟩) := ho 3 (by kernel_rfl)
      exact gs_same (v := .pointer (some ⟨g3, 1, none⟩)) (by go_simp) rfl
    · intro a W hE hd ho
      have e325 : a.tmps[325]?.getD undef = .pointer (some ⟨g3, 1, none⟩) := hd 6 325 (by kernel_rfl) (by kernel_rfl)
      have c1 := (X.out.below hE).cell 1
      simp only [List.getElem?_toArray, List.getElem?_cons_zero, List.getElem?_cons_succ] at c1
      exact gs_same (v := .int .i64 sq) (by go_simp) rfl
    · intro a W hE hd ho
      have e324 : a.tmps[324]?.getD undef = .int .i64 P2 := hd 5 324 (by kernel_rfl) (by kernel_rfl)
      have e326 : a.tmps[326]?.getD undef = .int .i64 sq := hd 7 326 (by kernel_rfl) (by kernel_rfl)
      obtain ⟨cs', sa', sc', qb, qo, qc', gb, go, gc', e320, hk⟩ : ∃ cs sa sc qb qo qc gb go gc, a.tmps[320]?.getD undef = .agg cs ∧ TyOk W cs nm sh T sa sn sc qb qo qn qc gb go gn gc := hd 1 320 (by kernel_rfl) (by kernel_rfl)
      refine gs_call (f := 15) (args := #[.agg cs', .int .i64 P2, .int .i64 sq]) (by go_simp) ?_
      refine (M3.out _ _ _ _ _ _ _ _ _ W hk).mono ?_
      rintro e w' ⟨rfl, hb⟩
      exact ⟨_, rfl, hb, rfl⟩
    · intro a W hE hd ho
      have e327 : a.tmps[327]?.getD undef = .tuple #[.int .i64 MO, .int .i64 0] := hd 8 327 (by kernel_rfl) (by kernel_rfl)
      exact gs_same (v := .tuple #[.int .i64 MO, .int .i64 0]) (by go_simp) rfl
    · intro a W hE hd ho
      have e318 : a.tmps[318]?.getD undef = .tuple #[.int .i64 MO, .int .i64 0] := hd 9 318 (by kernel_rfl) (by kernel_rfl)
      exact gs_same (v := .int .i64 MO) (by go_simp) rfl
    · intro a W hE hd ho
      have e318 : a.tmps[318]?.getD undef = .tuple #[.int .i64 MO, .int .i64 0] := hd 9 318 (by kernel_rfl) (by kernel_rfl)
      exact gs_same (v := .int .i64 0) (by go_simp) rfl
    · intro a W hE hd ho
      have e328 : a.tmps[328]?.getD undef = .int .i64 MO := hd 10 328 (by kernel_rfl) (by kernel_rfl)
      exact gs_same (v := .int .i64 MO) (by go_simp) rfl
    · intro a W hE hd ho
      have e329 : a.tmps[329]?.getD undef = .int .i64 0 := hd 11 329 (by kernel_rfl) (by kernel_rfl)
      exact gs_same (v := .int .i64 0) (by go_simp) rfl
  intro vt k32 hE hR
  have y0 : vt 0 = .agg cs := hR 0 (by omega)
  obtain ⟨vgv, y1⟩ : ∃ v, vt 1 = v := ⟨_, rfl⟩
  have y2 : vt 2 = .pointer (some ⟨g3, 0, none⟩) := hR 2 (by omega)
  have y3 : vt 3 = .int .i64 pw := hR 3 (by omega)
  have y4 : vt 4 = .int .i64 (pw + 3) := hR 4 (by omega)
  have y5 : vt 5 = .int .i64 P2 := hR 5 (by omega)
  have y6 : vt 6 = .pointer (some ⟨g3, 1, none⟩) := hR 6 (by omega)
  have y7 : vt 7 = .int .i64 sq := hR 7 (by omega)
  have y8 : vt 8 = .tuple #[.int .i64 MO, .int .i64 0] := hR 8 (by omega)
  have y9 : vt 9 = .tuple #[.int .i64 MO, .int .i64 0] := hR 9 (by omega)
  have y10 : vt 10 = .int .i64 MO := hR 10 (by omega)
  have y11 : vt 11 = .int .i64 0 := hR 11 (by omega)
  have y12 : vt 12 = .int .i64 MO := hR 12 (by omega)
  have y13 : vt 13 = .int .i64 0 := hR 13 (by omega)
  simp only [List.range, List.range.loop, List.foldl_cons, List.foldl_nil, y0, y1, y2, y3, y4, y5, y6, y7, y8, y9, y10, y11, y12, y13, List.drop_succ_cons, List.drop_zero]
  simp only [dstAt, List.getElem?_toArray, List.getElem?_cons_zero, List.getElem?_cons_succ, Option.bind_some, Act.put, List.setIfInBounds_toArray, List.set_cons_zero, List.set_cons_succ]
  clear y0 y1 y2 y3 y4 y5 y6 y7 y8 y9 y10 y11 y12 y13 hR
  have hb := hE.below
  replace HB := Lib.hid (HB.out.trans (hb.mono HB.out.size))
  replace U := Lib.hid (U.out.keep hb)
  replace F := Lib.hid (F.out.keep hb)
  replace TB := Lib.hid (TB.out.keep hb)
  replace HT := Lib.hid (HT.out.keep hb)
  replace TT := Lib.hid (TT.out.below hb)
  replace X := Lib.hid (X.out.below hb)
  clear hb
  clear hE
  go_upto_region 25 with fail
  refine wp_region_allN 10 rfl (by kernel_rfl) (by kernel_rfl) [GR.eq (.agg cs), GR.gv nm sh T sn qn gn, GR.eq (.pointer (some ⟨g3, 13, none⟩)), GR.eq (.int .i64 en), GR.bands sh en sn, GR.bands sh en sn, GR.bandS sh en sn, GR.eq (.int .i64 0), GR.bandS sh en sn, GR.eq (.int .i64 0)] 393 rfl (by kernel_rfl) ?_ ?_
  · refine ⟨?_, ?_, ?_, ?_, ?_, ?_, ?_, ?_, ?_, ?_, trivial⟩
    · intro a W hE hd ho
      have e2 : a.tmps[2]?.getD undef = .pointer (some ⟨g2, 0, none⟩) := ho 2 (by kernel_rfl)
      exact gs_load 26 (.tmp 2) rfl ⟨g2, 0, none⟩ (.agg cs) ((eval_getD _ _).trans e2) ((TT.out.below hE).lv Tryz.prog Tryz.underlying26 rfl IT.out) rfl
    · intro a W hE hd ho
      have e331 : a.tmps[331]?.getD undef = .agg cs := hd 0 331 (by kernel_rfl) (by kernel_rfl)
      refine gs_call (f := 16) (args := #[.agg cs]) (by go_simp) ?_
      refine (given_any W (HT.out.keep hE) HNG.out.2 HNG.out.1 hS.out.name).mono ?_
      rintro e w9 ⟨cs', sa', sc', qb, qo, qc', gb, go, gc', rfl, h1, h2⟩
      exact ⟨_, rfl, h2, cs', sa', sc', qb, qo, qc', gb, go, gc', rfl, h1⟩
    · intro a W hE hd ho
      have e3 : a.tmps[3]?.getD undef = .pointer (some ⟨g3, 0, none⟩) := ho 3 (by kernel_rfl)
      exact gs_same (v := .pointer (some ⟨g3, 13, none⟩)) (by go_simp) rfl
    · intro a W hE hd ho
      have e333 : a.tmps[333]?.getD undef = .pointer (some ⟨g3, 13, none⟩) := hd 2 333 (by kernel_rfl) (by kernel_rfl)
      have c13 := (X.out.below hE).cell 13
      simp only [List.getElem?_toArray, List.getElem?_cons_zero, List.getElem?_cons_succ] at c13
      exact gs_same (v := .int .i64 en) (by go_simp) rfl
    · intro a W hE hd ho
      have e334 : a.tmps[334]?.getD undef = .int .i64 en := hd 3 334 (by kernel_rfl) (by kernel_rfl)
      obtain ⟨cs', sa', sc', qb, qo, qc', gb, go, gc', e332, hk⟩ : ∃ cs sa sc qb qo qc gb go gc, a.tmps[332]?.getD undef = .agg cs ∧ TyOk W cs nm sh T sa sn sc qb qo qn qc gb go gn gc := hd 1 332 (by kernel_rfl) (by kernel_rfl)
      refine gs_call (f := 19) (args := #[.agg cs', .int .i64 en]) (by go_simp) ?_
      refine (MB.out _ _ _ _ _ _ _ _ _ W hk).mono ?_
      rintro e w' ⟨g, rfl, hc, hb⟩
      exact ⟨_, rfl, hb, g, rfl, hc⟩
    · intro a W hE hd ho
      obtain ⟨g, e335, hc⟩ : ∃ g, a.tmps[335]?.getD undef = .tuple #[.slice (some ⟨g, 0, none⟩) sn sn, .int .i64 0] ∧ ∀ i, i < sn → W.cell? ⟨g, i, none⟩ = some (.int .i64 (bandAt sh en sn i)) := hd 4 335 (by kernel_rfl) (by kernel_rfl)
      exact gs_same (v := .tuple #[.slice (some ⟨g, 0, none⟩) sn sn, .int .i64 0]) (by go_simp) ⟨g, rfl, hc⟩
    · intro a W hE hd ho
      obtain ⟨g, e330, hc⟩ : ∃ g, a.tmps[330]?.getD undef = .tuple #[.slice (some ⟨g, 0, none⟩) sn sn, .int .i64 0] ∧ ∀ i, i < sn → W.cell? ⟨g, i, none⟩ = some (.int .i64 (bandAt sh en sn i)) := hd 5 330 (by kernel_rfl) (by kernel_rfl)
      exact gs_same (v := .slice (some ⟨g, 0, none⟩) sn sn) (by go_simp) ⟨g, rfl, hc⟩
    · intro a W hE hd ho
      obtain ⟨g, e330, hc⟩ : ∃ g, a.tmps[330]?.getD undef = .tuple #[.slice (some ⟨g, 0, none⟩) sn sn, .int .i64 0] ∧ ∀ i, i < sn → W.cell? ⟨g, i, none⟩ = some (.int .i64 (bandAt sh en sn i)) := hd 5 330 (by kernel_rfl) (by kernel_rfl)
      exact gs_same (v := .int .i64 0) (by go_simp) rfl
    · intro a W hE hd ho
      obtain ⟨g, e336, hc⟩ : ∃ g, a.tmps[336]?.getD undef = .slice (some ⟨g, 0, none⟩) sn sn ∧ ∀ i, i < sn → W.cell? ⟨g, i, none⟩ = some (.int .i64 (bandAt sh en sn i)) := hd 6 336 (by kernel_rfl) (by kernel_rfl)
      exact gs_same (v := .slice (some ⟨g, 0, none⟩) sn sn) (by go_simp) ⟨g, rfl, hc⟩
    · intro a W hE hd ho
      have e337 : a.tmps[337]?.getD undef = .int .i64 0 := hd 7 337 (by kernel_rfl) (by kernel_rfl)
      exact gs_same (v := .int .i64 0) (by go_simp) rfl
  intro vt k33 hE hR
  have y0 : vt 0 = .agg cs := hR 0 (by omega)
  obtain ⟨vgv, y1⟩ : ∃ v, vt 1 = v := ⟨_, rfl⟩
  have y2 : vt 2 = .pointer (some ⟨g3, 13, none⟩) := hR 2 (by omega)
  have y3 : vt 3 = .int .i64 en := hR 3 (by omega)
  obtain ⟨v4, y4⟩ : ∃ v, vt 4 = v := ⟨_, rfl⟩
  obtain ⟨v5, y5⟩ : ∃ v, vt 5 = v := ⟨_, rfl⟩
  obtain ⟨v6, y6⟩ : ∃ v, vt 6 = v := ⟨_, rfl⟩
  have y7 : vt 7 = .int .i64 0 := hR 7 (by omega)
  obtain ⟨gB, y8, hbc⟩ : ∃ g, vt 8 = .slice (some ⟨g, 0, none⟩) sn sn ∧ ∀ i, i < sn → k33.cell? ⟨g, i, none⟩ = some (.int .i64 (bandAt sh en sn i)) := hR 8 (by omega)
  have y9 : vt 9 = .int .i64 0 := hR 9 (by omega)
  simp only [List.range, List.range.loop, List.foldl_cons, List.foldl_nil, y0, y1, y2, y3, y4, y5, y6, y7, y8, y9, List.drop_succ_cons, List.drop_zero]
  simp only [dstAt, List.getElem?_toArray, List.getElem?_cons_zero, List.getElem?_cons_succ, Option.bind_some, Act.put, List.setIfInBounds_toArray, List.set_cons_zero, List.set_cons_succ]
  clear y0 y1 y2 y3 y4 y5 y6 y7 y8 y9 hR
  have hb := hE.below
  have HBC := Lib.hid hbc
  replace HB := Lib.hid (HB.out.trans (hb.mono HB.out.size))
  replace U := Lib.hid (U.out.keep hb)
  replace F := Lib.hid (F.out.keep hb)
  replace TB := Lib.hid (TB.out.keep hb)
  replace HT := Lib.hid (HT.out.keep hb)
  replace TT := Lib.hid (TT.out.below hb)
  replace X := Lib.hid (X.out.below hb)
  clear hb
  clear hE hbc M1 M2 M3 MB r1 r2 v1 v2
  obtain ⟨o0, o1, o2⟩ := HO.out
  have o3 : ¬ N < FA := by omega
  have o4 : ¬ MO < N := by omega
  have o5 : ¬ N < 0 := by omega
  clear o0 o1 o2
  have t1 := (TT.out.cell 1).trans HT.out.c1
  go_upto_region 28 with fail
  clear o3 o4 o5 t1 HO
  go_wp2
  have hsl : sh.length = sn := HT.out.shares.1
  have HGS := Lib.hid HNG.out.2.sh
  have HEN := Lib.hid HA.out.en
  have hsn8 : sn ≤ 8 := by have h1 := HNG.out.2.sh.cnt; rw [hsl] at h1; exact h1.2
  go_loopw [34, 36, 376] (fun u _ i wr => ∃ k : Nat, k ≤ sn ∧ i = .int .i64 k ∧ u = .int .i64 (bandTo sh en sn k) ∧ wr = k33) (fun _ _ i _ => sn - (intOf i).toNat)
  case atStart => exact ⟨0, Nat.zero_le _, rfl, rfl, rfl⟩
  case round =>
    obtain ⟨k, hk, rfl, rfl, hwr⟩ := hrel
    obtain rfl := hwr.symm
    by_cases hlt : k < sn
    · have hc := HBC.out k hlt
      have b1 : 0 ≤ bandAt sh en sn k := by rw [← hsl]; exact band_nonneg HEN.out HGS.out (by omega)
      have b2 := bandTo_up HEN.out HGS.out (sh.length - (k + 1)) (k + 1) (by omega)
      rw [hsl] at b2
      have b3 : bandTo sh en sn (k + 1) = bandTo sh en sn k + bandAt sh en sn k := rfl
      have b4 := HEN.out.2
      obtain ⟨x, hx0⟩ : ∃ x, x = bandAt sh en sn k := ⟨_, rfl⟩
      obtain ⟨y, hy0⟩ : ∃ y, y = bandTo sh en sn k := ⟨_, rfl⟩
      obtain ⟨z, hz0⟩ : ∃ z, z = bandTo sh en sn (k + 1) := ⟨_, rfl⟩
      rw [← hx0] at hc b1 b3
      rw [← hy0] at b3 ⊢
      rw [← hz0] at b2 b3
      have b5 : ¬ x < 0 := by omega
      have b6 : IntKind.i64.wrap (y + x) = z := by rw [IntWalk.i64_in _ (by omega)]; omega
      have hlti : (k : Int) < (sn : Int) := by omega
      have HZ0 := Lib.hid hz0
      clear hx0 hy0 hz0 b1 b2 b3 b4
      go_wp2
      go_roundw
      case rel => exact ⟨k + 1, by omega, by go_num, by rw [HZ0.out], by first | rfl | trivial⟩
      case measure => simp [intOf]; omega
    · obtain rfl : k = sn := by omega
      have hall : bandTo sh en k k = en := bandTo_all hsn0
      rw [hall]
      clear hlt hk hall
      have x13 := X.out.cell 13
      simp only [List.getElem?_toArray, List.getElem?_cons_zero, List.getElem?_cons_succ] at x13
      go_wp2_with fail
      refine (awake2_any k33 U.out F.out TB.out).mono ?_
      rintro e wZ ⟨rfl, hb⟩
      replace HB := Lib.hid (HB.out.trans (hb.mono HB.out.size))
      clear hb
      go_wp2
      go_ret
      exact ⟨rfl, HB.out⟩
  done
end Go.Proofs.YtmafmebcgmegeaaGreatDoor
