/- SoundTurns, walked. -/
import Derived.Test.YtoipafnlcchmbaaGreatDoorQPx
import Derived.Test.YtoipafnlcchmbaaGreatDoorZA
import Derived.Maps.Own
import Derived.Maps.Views
import Derived.Lib.QuietBelow
import Derived.Deep.MidRow
namespace Go.Proofs.YtoipafnlcchmbaaGreatDoor
open Go.RowKit Go.Sort

theorem wpQuiet_val {P : Program} {ops : Array Oper} {rest : List Oper} {o : Oper} {a : Act} {Q : Act → Prop} {w0 : World} (ty : TypeId) (x : Operand) (ho : o.op = .load ty x) (hw : Region.wanted o (yielded ops a.tmps) = true) (g off : Nat) (v : Value)
    (hx : a.eval x = .pointer (some ⟨g, off, none⟩)) (hl : ∀ d os, (loadVar ty ⟨g, off, none⟩).run P (grow (redrawn w0 d) os) = .ok v (grow (redrawn w0 d) os))
    (hk : wpQuiet P ops (fun w' => ∃ p : Regrown, w' = grow (redrawn w0 p.d) p.os) Q rest (a.put o.dst v)) : wpQuiet P ops (fun w' => ∃ p : Regrown, w' = grow (redrawn w0 p.d) p.os) Q (o :: rest) a := by
  refine wpQuiet_step (fun K hK => ?_)
  rw [if_pos hw]
  refine ⟨v, fun w hC => ?_, hK _ hk⟩
  obtain ⟨p, rfl⟩ := hC
  unfold Oper.quietAt
  have e : (execOp a.eval o).run P (grow (redrawn w0 p.d) p.os) = .ok (.value v) (grow (redrawn w0 p.d) p.os) := by
    unfold execOp
    simp only [ho, hx, Instr.loadAt, Instr.sureAddr, Sem.run_bind, Sem.run_pure, Result.andThen_ok, hl]
  rw [e]
  exact ⟨rfl, rfl⟩
theorem load_gauss {W : World} {g : Nat} {f : Nat → Int × Int} (h : Blk W g 175 #[.int .i64 (f 0).1, .int .i64 (f 0).2, .int .i64 (f 1).1, .int .i64 (f 1).2, .int .i64 (f 2).1, .int .i64 (f 2).2, .int .i64 (f 3).1, .int .i64 (f 3).2]) (k : Nat) (hk : k < 4) :
    W.cell? ⟨g, k * 2, none⟩ = some (.int .i64 (f k).1) ∧ W.cell? ⟨g, k * 2 + 1, none⟩ = some (.int .i64 (f k).2) ∧ (loadVar 174 ⟨g, k * 2, none⟩).run Tryz.prog W = .ok (.agg #[.int .i64 (f k).1, .int .i64 (f k).2]) W := by
  have c0 : W.cell? ⟨g, k * 2, none⟩ = some (.int .i64 (f k).1) := by
    rw [h.cell (k * 2)]
    match k, hk with
    | 0, _ => rfl
    | 1, _ => rfl
    | 2, _ => rfl
    | 3, _ => rfl
  have c1 : W.cell? ⟨g, k * 2 + 1, none⟩ = some (.int .i64 (f k).2) := by
    rw [h.cell (k * 2 + 1)]
    match k, hk with
    | 0, _ => rfl
    | 1, _ => rfl
    | 2, _ => rfl
    | 3, _ => rfl
  refine ⟨c0, c1, ?_⟩
  exact run_loadVar_mid W g (k * 2) 174 [.int .i64 (f k).1, .int .i64 (f k).2] _ (fun j v hj => by
    match j, hj with
    | 0, hj => simp only [List.getElem?_cons_zero, Option.some.injEq] at hj; subst hj; exact c0
    | 1, hj => simp only [List.getElem?_cons_succ, List.getElem?_cons_zero, Option.some.injEq] at hj; subst hj; exact c1
    | j + 2, hj => simp at hj) Tryz.underlying174 rfl (by kernel_rfl)
/-- The samples that the law has laid so far. -/
def partW (x : Nat → Int) (k : Nat) : Array Value := ((List.range 4).map fun i => if i < k then Value.float .f32 (sampW (x i)) else .float .f32 0).toArray
theorem partW_zero (x : Nat → Int) : partW x 0 = #[.float .f32 0, .float .f32 0, .float .f32 0, .float .f32 0] := rfl
theorem partW_four (x : Nat → Int) : partW x 4 = #[.float .f32 (sampW (x 0)), .float .f32 (sampW (x 1)), .float .f32 (sampW (x 2)), .float .f32 (sampW (x 3))] := rfl
theorem partW_set (x : Nat → Int) (k : Nat) (hk : k < 4) : (partW x k).setIfInBounds k (.float .f32 (sampW (x k))) = partW x (k + 1) := by
  match k, hk with
  | 0, _ => rfl
  | 1, _ => rfl
  | 2, _ => rfl
  | 3, _ => rfl
def sumTo (x : Nat → Int) : Nat → Int
  | 0 => 0
  | k + 1 => sumTo x k + x k
theorem sumTo_bd (x : Nat → Int) (M : Nat) (h : ∀ k, k < 4 → (x k).natAbs ≤ M) : ∀ k, k ≤ 4 → (sumTo x k).natAbs ≤ k * M
  | 0, _ => by simp [sumTo]
  | k + 1, hk => by
    have := sumTo_bd x M h k (by omega)
    have := h k (by omega)
    rw [sumTo, Nat.succ_mul]
    omega
theorem eight_at (l : Nat → Int) (k : Nat) (hk : k < 8) : (#[Value.int .i16 (l 0), .int .i16 (l 1), .int .i16 (l 2), .int .i16 (l 3), .int .i16 (l 4), .int .i16 (l 5), .int .i16 (l 6), .int .i16 (l 7)] : Array Value)[k]? = some (.int .i16 (l k)) := by
  match k, hk with
  | 0, _ => rfl
  | 1, _ => rfl
  | 2, _ => rfl
  | 3, _ => rfl
  | 4, _ => rfl
  | 5, _ => rfl
  | 6, _ => rfl
  | 7, _ => rfl
/-- What lies in memory while the samples are laid. -/
def L8 (l : Nat → Int) : Array Value := #[.int .i16 (l 0), .int .i16 (l 1), .int .i16 (l 2), .int .i16 (l 3), .int .i16 (l 4), .int .i16 (l 5), .int .i16 (l 6), .int .i16 (l 7)]
def LayW (w : World) (gl gn ga gb : Nat) (l : Nat → Int) (N4 : Array Value) (x y : Nat → Int) (k : Nat) (wr : World) : Prop :=
  Blk wr gl 162 (L8 l) ∧ Blk wr gn 163 N4 ∧ Blk wr ga 164 (partW x k) ∧ Blk wr gb 164 (partW y k) ∧ Below w.heap.size w wr
theorem LayW.drew {w : World} {gl gn ga gb : Nat} {l : Nat → Int} {N4 : Array Value} {x y : Nat → Int} {k : Nat} {wr : World} (h : LayW w gl gn ga gb l N4 x y k wr) : LayW w gl gn ga gb l N4 x y k wr.drew :=
  ⟨h.1.drew, h.2.1.drew, h.2.2.1.drew, h.2.2.2.1.drew, h.2.2.2.2.drew⟩
theorem LayW.step {w : World} {gl gn ga gb : Nat} {l : Nat → Int} {N4 : Array Value} {x y : Nat → Int} {k : Nat} {wr : World} (h : LayW w gl gn ga gb l N4 x y k wr) (hk : k < 4) (h1 : gl ≠ ga) (h2 : gl ≠ gb) (h3 : gn ≠ ga) (h4 : gn ≠ gb) (h5 : ga ≠ gb) (h6 : w.heap.size ≤ ga) (h7 : w.heap.size ≤ gb) :
    LayW w gl gn ga gb l N4 x y (k + 1) ((wr.setCell ⟨ga, k, none⟩ (.float .f32 (sampW (x k)))).setCell ⟨gb, k, none⟩ (.float .f32 (sampW (y k)))) := by
  obtain ⟨a, b, c, d, e⟩ := h
  refine ⟨(a.far (p := ⟨ga, k, none⟩) h1 _).far (p := ⟨gb, k, none⟩) h2 _, (b.far (p := ⟨ga, k, none⟩) h3 _).far (p := ⟨gb, k, none⟩) h4 _, ?_, ?_, (e.setCell (p := ⟨ga, k, none⟩) h6 _).setCell (p := ⟨gb, k, none⟩) h7 _⟩
  · rw [← partW_set x k hk]
    exact (c.set_ k _).far (p := ⟨gb, k, none⟩) h5 _
  · rw [← partW_set y k hk]
    exact (d.far (p := ⟨ga, k, none⟩) (fun h => h5 h.symm) _).set_ k _

set_option maxHeartbeats 2000000 in
set_option maxRecDepth 100000 in
theorem turns_walk (l x y : Nat → Int) (n0 n1 n2 n3 : Int) (w : World) (hx : ∀ k, k < 4 → (l k).tmod 2001 = x k) (hy : ∀ k, k < 4 → (l (4 + k)).tmod 2001 = y k) (hx2 : ∀ k, k < 4 → (x k).natAbs ≤ 2000) (hy2 : ∀ k, k < 4 → (y k).natAbs ≤ 2000) (hl : ∀ k, k < 8 → -32768 ≤ l k ∧ l k ≤ 32767)
    (h0 : 0 ≤ n0 ∧ n0 ≤ 65535) (h1 : 0 ≤ n1 ∧ n1 ≤ 65535) (h2 : 0 ≤ n2 ∧ n2 ≤ 65535) (h3 : 0 ≤ n3 ∧ n3 ≤ 65535) (hst : Steps w) (ht : Tab w) :
    Calls Tryz.prog 14 #[.agg #[.int .i16 (l 0), .int .i16 (l 1), .int .i16 (l 2), .int .i16 (l 3), .int .i16 (l 4), .int .i16 (l 5), .int .i16 (l 6), .int .i16 (l 7)], .agg #[.int .u16 n0, .int .u16 n1, .int .u16 n2, .int .u16 n3]] w fun x w' => x = .returned (.bool true) ∧ Below w.heap.size w w' := by
  have HX := Lib.hid hx
  have HY := Lib.hid hy
  have HX2 := Lib.hid hx2
  have HY2 := Lib.hid hy2
  have HL := Lib.hid hl
  have HN0 := Lib.hid h0
  have HN1 := Lib.hid h1
  have HN2 := Lib.hid h2
  have HN3 := Lib.hid h3
  have HS := Lib.hid hst
  have HT := Lib.hid ht
  have hmm := @run_makeMap Tryz.prog
  clear hx hy hx2 hy2 hl h0 h1 h2 h3 hst ht
  go_enter Tryz.func14, Tryz.ntmps14
  go_wp2_with fail
  obtain ⟨N4, hN4⟩ : ∃ N4 : Array Value, N4 = #[.int .u16 n0, .int .u16 n1, .int .u16 n2, .int .u16 n3] := ⟨_, rfl⟩
  obtain ⟨W0, hW0⟩ : ∃ W0, W0 = (((w.alloc (.cells (L8 l) 162)).alloc (.cells N4 163)).alloc (.cells #[.float .f32 0, .float .f32 0, .float .f32 0, .float .f32 0] 164)).alloc (.cells #[.float .f32 0, .float .f32 0, .float .f32 0, .float .f32 0] 164) := ⟨_, rfl⟩
  obtain ⟨gl, hgl⟩ : ∃ gl, gl = w.heap.size := ⟨_, rfl⟩
  obtain ⟨gn, hgn⟩ : ∃ gn, gn = w.heap.size + 1 := ⟨_, rfl⟩
  obtain ⟨ga, hga⟩ : ∃ ga, ga = w.heap.size + 1 + 1 := ⟨_, rfl⟩
  obtain ⟨gb, hgb⟩ : ∃ gb, gb = w.heap.size + 1 + 1 + 1 := ⟨_, rfl⟩
  have B0 : LayW w gl gn ga gb l N4 x y 0 W0 := by
    rw [hW0, hgl, hgn, hga, hgb]
    refine ⟨(((Blk.new w _ _).alloc _).alloc _).alloc _, ?_, ?_, ?_, ((((Below.refl _ w).alloc (Nat.le_refl _) _).alloc (by simp) _).alloc (by simp; omega) _).alloc (by simp; omega) _⟩
    · exact ((Blk.at_size _ _ (by simp)).alloc _).alloc _
    · exact (Blk.at_size _ _ (by simp)).alloc _
    · exact Blk.at_size _ _ (by simp)
  have HB0 := Lib.hid B0
  change Code.wp _ _ _ _ ((((w.alloc (.cells (L8 l) 162)).alloc (.cells #[.int .u16 n0, .int .u16 n1, .int .u16 n2, .int .u16 n3] 163)).alloc (.cells #[.float .f32 0, .float .f32 0, .float .f32 0, .float .f32 0] 164)).alloc (.cells #[.float .f32 0, .float .f32 0, .float .f32 0, .float .f32 0] 164))
  rw [← hN4, ← hW0, ← hgb, ← hga, ← hgn]
  have HG : Hid (gl = w.heap.size ∧ gn = w.heap.size + 1 ∧ ga = w.heap.size + 1 + 1 ∧ gb = w.heap.size + 1 + 1 + 1) := ⟨hgl, hgn, hga, hgb⟩
  have HN4 := Lib.hid hN4
  clear B0 hN4
  rw [← hgl]
  clear hW0 hgl hgn hga hgb
  go_loopw [7, 8, 9, 10, 11, 41] (fun s q _ _ _ i wr => ∃ k : Nat, k ≤ 4 ∧ i = .int .i64 k ∧ s = .int .i64 (sumTo x k) ∧ q = .int .i64 (sumTo (fun j => x j * x j) k) ∧ LayW w gl gn ga gb l N4 x y k wr) (fun _ _ _ _ _ i _ => 4 - (intOf i).toNat)
  case atStart => exact ⟨0, Nat.zero_le _, rfl, rfl, rfl, HB0.out⟩
  case round =>
    clear HB0
    obtain ⟨k, hk, rfl, rfl, rfl, hL⟩ := hrel
    have HLW := Lib.hid hL
    by_cases hlt : k < 4
    · as_aux_lemma =>
      obtain ⟨bl, bn, ba, bb, hb⟩ := hL
      obtain ⟨l1, l2⟩ := HL.out k (by omega)
      obtain ⟨l3, l4⟩ := HL.out (4 + k) (by omega)
      have x1 := HX.out k hlt
      have y1 := HY.out k hlt
      have x2 := HX2.out k hlt
      have y2 := HY2.out k hlt
      have hsb := sumTo_bd x 2000 HX2.out k hk
      have hqb := sumTo_bd (fun j => x j * x j) 4000000 (fun j hj => by have := HX2.out j hj; exact natAbs_le this this) k hk
      have c0 : wr.cell? ⟨gl, k, none⟩ = some (.int .i16 (l k)) := by rw [bl.cell k]; exact eight_at l k (by omega)
      have c1 : wr.cell? ⟨gl, 4 + k, none⟩ = some (.int .i16 (l (4 + k))) := by rw [bl.cell (4 + k)]; exact eight_at l (4 + k) (by omega)
      have c2 : wr.cell? ⟨ga, k, none⟩ = some (.float .f32 0) := by rw [ba.cell k]; simp [partW, hlt]
      have c3 : wr.cell? ⟨gb, k, none⟩ = some (.float .f32 0) := by rw [bb.cell k]; simp [partW, hlt]
      have f2 := ba.frozen k
      have f3 := bb.frozen k
      have hq0 : (x k * x k).natAbs ≤ 4000000 := natAbs_le x2 x2
      have e1 : sumTo x (k + 1) = sumTo x k + x k := rfl
      have e2 : sumTo (fun j => x j * x j) (k + 1) = sumTo (fun j => x j * x j) k + x k * x k := rfl
      have HSX := Lib.hid (fun w => refSample_v (x k) (by omega) w)
      have HSY := Lib.hid (fun w => refSample_v (y k) (by omega) w)
      obtain ⟨Q, hQ⟩ : ∃ Q, Q = x k * x k := ⟨_, rfl⟩
      rw [← hQ] at hq0 e2
      obtain ⟨S1, hS1⟩ : ∃ S, S = sumTo x k := ⟨_, rfl⟩
      obtain ⟨S2, hS2⟩ : ∃ S, S = sumTo (fun j => x j * x j) k := ⟨_, rfl⟩
      rw [← hS1] at hsb e1 ⊢
      rw [← hS2] at hqb e2 ⊢
      obtain ⟨xk, hxk⟩ : ∃ z, z = x k := ⟨_, rfl⟩
      obtain ⟨yk, hyk⟩ : ∃ z, z = y k := ⟨_, rfl⟩
      obtain ⟨lk, hlk⟩ : ∃ z, z = l k := ⟨_, rfl⟩
      obtain ⟨lm, hlm⟩ : ∃ z, z = l (4 + k) := ⟨_, rfl⟩
      rw [← hxk] at x1 x2 HSX hQ e1
      rw [← hyk] at y1 y2 HSY
      rw [← hlk] at x1 l1 l2 c0
      rw [← hlm] at y1 l3 l4 c1
      have E1 := Lib.hid e1
      have E2 := Lib.hid e2
      have EX := Lib.hid hxk
      have EY := Lib.hid hyk
      clear e1 e2 hS1 hS2 hxk hyk hlk hlm bl bn ba bb hb
      go_upto_region 6 with fail
      go_region
      as_aux_lemma =>
      have hQ2 : xk * xk = Q := hQ.symm
      have hab : ga ≠ gb := by have := HG.out; omega
      have hba : gb ≠ ga := fun h => hab h.symm
      clear hQ c0 c1 x1 y1
      go_wp2_with fail
      refine (HSX.out _).mono ?_
      rintro e w1 ⟨rfl, rfl⟩
      go_wp2_with fail
      refine (HSY.out _).mono ?_
      rintro e w1 ⟨rfl, rfl⟩
      go_wp2
      go_roundw
      case rel =>
        refine ⟨k + 1, by omega, by go_num, by rw [E1.out], by rw [E2.out], ?_⟩
        have := HLW.out.step hlt (by have := HG.out; omega) (by have := HG.out; omega) (by have := HG.out; omega) (by have := HG.out; omega) (by have := HG.out; omega) (by have := HG.out; omega) (by have := HG.out; omega)
        rw [← EX.out, ← EY.out] at this
        exact this.drew
      case measure => simp [intOf]; omega
    · as_aux_lemma =>
      obtain rfl : k = 4 := by omega
      obtain ⟨bl, bn, ba, bb, hb⟩ := hL
      have BN := Lib.hid bn
      have BA := Lib.hid ba
      have BB := Lib.hid bb
      have HB := Lib.hid hb
      clear bl bn ba bb hb hlt hk HLW HL HX HY
      obtain ⟨r, hr, hCr⟩ := Four_S (fun k => sampW (x k)) x (fun k hk => sampW_S _ (by have := HX2.out k hk; omega)) (fun k hk => by have := HX2.out k hk; omega)
      obtain ⟨s, hs, hCs⟩ := Four_S (fun k => sampW (y k)) y (fun k hk => sampW_S _ (by have := HY2.out k hk; omega)) (fun k hk => by have := HY2.out k hk; omega)
      simp only [flV, cV] at hCr hCs
      have HR := Lib.hid hr
      have HSS := Lib.hid hs
      have HCR := Lib.hid hCr
      have HCS := Lib.hid hCs
      clear hr hs hCr hCs
      have a0 : wr.cell? ⟨ga, 0, none⟩ = some (.float .f32 (sampW (x 0))) := by rw [BA.out.cell 0]; rfl
      have a1 : wr.cell? ⟨ga, 1, none⟩ = some (.float .f32 (sampW (x 1))) := by rw [BA.out.cell 1]; rfl
      have a2 : wr.cell? ⟨ga, 2, none⟩ = some (.float .f32 (sampW (x 2))) := by rw [BA.out.cell 2]; rfl
      have a3 : wr.cell? ⟨ga, 3, none⟩ = some (.float .f32 (sampW (x 3))) := by rw [BA.out.cell 3]; rfl
      go_wp2_with fail
      refine (HCR.out _).mono ?_
      rintro e w1 ⟨rfl, hb⟩
      clear a0 a1 a2 a3
      have BN1 := Lib.hid (BN.out.below hb)
      have BA1 := Lib.hid (BA.out.below hb)
      have BB1 := Lib.hid (BB.out.below hb)
      have HB1 := Lib.hid (HB.out.trans (hb.mono HB.out.size))
      clear hb BN BA BB HB HCR
      go_upto_region 11 with fail
      obtain ⟨gp, hgp⟩ : ∃ gp, gp = w1.heap.size := ⟨_, rfl⟩
      obtain ⟨W1, hW1⟩ : ∃ W, W = w1.alloc (.cells #[.complex .f32 (r 0).1 (r 0).2, .complex .f32 (r 1).1 (r 1).2, .complex .f32 (r 2).1 (r 2).2, .complex .f32 (r 3).1 (r 3).2] 167) := ⟨_, rfl⟩
      rw [← hW1, ← hgp]
      as_aux_lemma =>
      have BP1 : Hid (Blk W1 gp 167 #[.complex .f32 (r 0).1 (r 0).2, .complex .f32 (r 1).1 (r 1).2, .complex .f32 (r 2).1 (r 2).2, .complex .f32 (r 3).1 (r 3).2]) := by rw [hW1, hgp]; exact Blk.new w1 _ _
      have hb : Below w1.heap.size w1 W1 := by rw [hW1]; exact (Below.refl _ _).alloc (Nat.le_refl _) _
      have BN2 := Lib.hid (BN1.out.below hb)
      have BA2 := Lib.hid (BA1.out.below hb)
      have BB2 := Lib.hid (BB1.out.below hb)
      have HB2 := Lib.hid (HB1.out.trans (hb.mono HB1.out.size))
      clear hb BN1 BA1 BB1 HB1 hW1 hgp
      have b0 : W1.cell? ⟨gb, 0, none⟩ = some (.float .f32 (sampW (y 0))) := by rw [BB2.out.cell 0]; rfl
      have b1 : W1.cell? ⟨gb, 1, none⟩ = some (.float .f32 (sampW (y 1))) := by rw [BB2.out.cell 1]; rfl
      have b2 : W1.cell? ⟨gb, 2, none⟩ = some (.float .f32 (sampW (y 2))) := by rw [BB2.out.cell 2]; rfl
      have b3 : W1.cell? ⟨gb, 3, none⟩ = some (.float .f32 (sampW (y 3))) := by rw [BB2.out.cell 3]; rfl
      go_wp2_with fail
      refine (HCS.out _).mono ?_
      rintro e w2 ⟨rfl, hb⟩
      clear b0 b1 b2 b3
      have BN3 := Lib.hid (BN2.out.below hb)
      have BA3 := Lib.hid (BA2.out.below hb)
      have BB3 := Lib.hid (BB2.out.below hb)
      have BP3 := Lib.hid (BP1.out.below hb)
      have HB3 := Lib.hid (HB2.out.trans (hb.mono HB2.out.size))
      clear hb BN2 BA2 BB2 BP1 HB2 HCS
      go_upto_region 12 with fail
      obtain ⟨gq, hgq⟩ : ∃ gq, gq = w2.heap.size := ⟨_, rfl⟩
      obtain ⟨W2, hW2⟩ : ∃ W, W = w2.alloc (.cells #[.complex .f32 (s 0).1 (s 0).2, .complex .f32 (s 1).1 (s 1).2, .complex .f32 (s 2).1 (s 2).2, .complex .f32 (s 3).1 (s 3).2] 167) := ⟨_, rfl⟩
      rw [← hW2, ← hgq]
      as_aux_lemma =>
      have BQ4 : Hid (Blk W2 gq 167 #[.complex .f32 (s 0).1 (s 0).2, .complex .f32 (s 1).1 (s 1).2, .complex .f32 (s 2).1 (s 2).2, .complex .f32 (s 3).1 (s 3).2]) := by rw [hW2, hgq]; exact Blk.new w2 _ _
      have hb : Below w2.heap.size w2 W2 := by rw [hW2]; exact (Below.refl _ _).alloc (Nat.le_refl _) _
      have BN4 := Lib.hid (BN3.out.below hb)
      have BA4 := Lib.hid (BA3.out.below hb)
      have BB4 := Lib.hid (BB3.out.below hb)
      have BP4 := Lib.hid (BP3.out.below hb)
      have HB4 := Lib.hid (HB3.out.trans (hb.mono HB3.out.size))
      clear hb BN3 BA3 BB3 BP3 HB3 hW2 hgq
      have hPX := fun k hk => pan_bd x HX2.out k hk
      have hPY := fun k hk => pan_bd y HY2.out k hk
      have hcp := fun w => refCheckPanel_S r (pan x) HR.out (fun k hk => by have := hPX k hk; omega) w
      have hcq := fun w => refCheckPanel_S s (pan y) HSS.out (fun k hk => by have := hPY k hk; omega) w
      simp only [cV] at hcp hcq
      have HCP := Lib.hid hcp
      have HCQ := Lib.hid hcq
      have HPX := Lib.hid hPX
      have HPY := Lib.hid hPY
      clear hcp hcq hPX hPY
      have p0 : W2.cell? ⟨gp, 0, none⟩ = some (.complex .f32 (r 0).1 (r 0).2) := by rw [BP4.out.cell 0]; rfl
      have p1 : W2.cell? ⟨gp, 1, none⟩ = some (.complex .f32 (r 1).1 (r 1).2) := by rw [BP4.out.cell 1]; rfl
      have p2 : W2.cell? ⟨gp, 2, none⟩ = some (.complex .f32 (r 2).1 (r 2).2) := by rw [BP4.out.cell 2]; rfl
      have p3 : W2.cell? ⟨gp, 3, none⟩ = some (.complex .f32 (r 3).1 (r 3).2) := by rw [BP4.out.cell 3]; rfl
      go_wp2_with fail
      refine (HCP.out _).mono ?_
      rintro e w3 ⟨rfl, hb⟩
      clear p0 p1 p2 p3
      have BN5 := Lib.hid (BN4.out.below hb)
      have BA5 := Lib.hid (BA4.out.below hb)
      have BB5 := Lib.hid (BB4.out.below hb)
      have BP5 := Lib.hid (BP4.out.below hb)
      have BQ5 := Lib.hid (BQ4.out.below hb)
      have HB5 := Lib.hid (HB4.out.trans (hb.mono HB4.out.size))
      clear hb BN4 BA4 BB4 BP4 BQ4 HB4 HCP
      have q0 : w3.cell? ⟨gq, 0, none⟩ = some (.complex .f32 (s 0).1 (s 0).2) := by rw [BQ5.out.cell 0]; rfl
      have q1 : w3.cell? ⟨gq, 1, none⟩ = some (.complex .f32 (s 1).1 (s 1).2) := by rw [BQ5.out.cell 1]; rfl
      have q2 : w3.cell? ⟨gq, 2, none⟩ = some (.complex .f32 (s 2).1 (s 2).2) := by rw [BQ5.out.cell 2]; rfl
      have q3 : w3.cell? ⟨gq, 3, none⟩ = some (.complex .f32 (s 3).1 (s 3).2) := by rw [BQ5.out.cell 3]; rfl
      go_wp2_with fail
      refine (HCQ.out _).mono ?_
      rintro e w4 ⟨rfl, hb⟩
      clear q0 q1 q2 q3
      have BN6 := Lib.hid (BN5.out.below hb)
      have BA6 := Lib.hid (BA5.out.below hb)
      have BB6 := Lib.hid (BB5.out.below hb)
      have BP6 := Lib.hid (BP5.out.below hb)
      have BQ6 := Lib.hid (BQ5.out.below hb)
      have HB6 := Lib.hid (HB5.out.trans (hb.mono HB5.out.size))
      clear hb BN5 BA5 BB5 BP5 BQ5 HB5 HCQ
      as_aux_lemma =>
      obtain ⟨z, hz, hCz⟩ := Unfour_S r (pan x) HR.out (fun k hk => by have := HPX.out k hk; omega) x (fun k hk => pan_back x k hk) (fun k hk => by have := HX2.out k hk; omega)
      simp only [flV, cV] at hCz
      have HZ := Lib.hid hz
      have HCZ := Lib.hid hCz
      clear hz hCz
      have p0 : w4.cell? ⟨gp, 0, none⟩ = some (.complex .f32 (r 0).1 (r 0).2) := by rw [BP6.out.cell 0]; rfl
      have p1 : w4.cell? ⟨gp, 1, none⟩ = some (.complex .f32 (r 1).1 (r 1).2) := by rw [BP6.out.cell 1]; rfl
      have p2 : w4.cell? ⟨gp, 2, none⟩ = some (.complex .f32 (r 2).1 (r 2).2) := by rw [BP6.out.cell 2]; rfl
      have p3 : w4.cell? ⟨gp, 3, none⟩ = some (.complex .f32 (r 3).1 (r 3).2) := by rw [BP6.out.cell 3]; rfl
      go_wp2_with fail
      refine (HCZ.out _).mono ?_
      rintro e w5 ⟨rfl, hb⟩
      clear p0 p1 p2 p3
      have BN7 := Lib.hid (BN6.out.below hb)
      have BA7 := Lib.hid (BA6.out.below hb)
      have BB7 := Lib.hid (BB6.out.below hb)
      have BP7 := Lib.hid (BP6.out.below hb)
      have BQ7 := Lib.hid (BQ6.out.below hb)
      have HB7 := Lib.hid (HB6.out.trans (hb.mono HB6.out.size))
      clear hb BN6 BA6 BB6 BP6 BQ6 HB6 HCZ
      go_upto_region 15 with fail
      obtain ⟨gz, hgz⟩ : ∃ gz, gz = w5.heap.size := ⟨_, rfl⟩
      obtain ⟨W3, hW3⟩ : ∃ W, W = w5.alloc (.cells #[.float .f32 (z 0), .float .f32 (z 1), .float .f32 (z 2), .float .f32 (z 3)] 164) := ⟨_, rfl⟩
      rw [← hW3, ← hgz]
      as_aux_lemma =>
      have BZ8 : Hid (Blk W3 gz 164 #[.float .f32 (z 0), .float .f32 (z 1), .float .f32 (z 2), .float .f32 (z 3)]) := by rw [hW3, hgz]; exact Blk.new w5 _ _
      have hb : Below w5.heap.size w5 W3 := by rw [hW3]; exact (Below.refl _ _).alloc (Nat.le_refl _) _
      have BN8 := Lib.hid (BN7.out.below hb)
      have BA8 := Lib.hid (BA7.out.below hb)
      have BB8 := Lib.hid (BB7.out.below hb)
      have BP8 := Lib.hid (BP7.out.below hb)
      have BQ8 := Lib.hid (BQ7.out.below hb)
      have HB8 := Lib.hid (HB7.out.trans (hb.mono HB7.out.size))
      clear hb BN7 BA7 BB7 BP7 BQ7 HB7
      clear hW3 hgz
      obtain ⟨f1, hf1⟩ : ∃ f : Nat → Int × Int, f = fun k => crossI (pan x k) (pan x k) := ⟨_, rfl⟩
      have hC := fun w => Cross_S r r (pan x) (pan x) HR.out HR.out (fun k hk => by have := HPX.out k hk; omega) (fun k hk => by have := HPX.out k hk; omega) w
      rw [← hf1] at hC
      simp only [cV, partG_four] at hC
      have HC := Lib.hid hC
      have Hf1 := Lib.hid hf1
      clear hC hf1
      have p0 : W3.cell? ⟨gp, 0, none⟩ = some (.complex .f32 (r 0).1 (r 0).2) := by rw [BP8.out.cell 0]; rfl
      have p1 : W3.cell? ⟨gp, 1, none⟩ = some (.complex .f32 (r 1).1 (r 1).2) := by rw [BP8.out.cell 1]; rfl
      have p2 : W3.cell? ⟨gp, 2, none⟩ = some (.complex .f32 (r 2).1 (r 2).2) := by rw [BP8.out.cell 2]; rfl
      have p3 : W3.cell? ⟨gp, 3, none⟩ = some (.complex .f32 (r 3).1 (r 3).2) := by rw [BP8.out.cell 3]; rfl
      go_wp2_with fail
      refine (HC.out _).mono ?_
      rintro e w6 ⟨rfl, hb⟩
      clear HC p0 p1 p2 p3 
      have BN9 := Lib.hid (BN8.out.below hb)
      have BA9 := Lib.hid (BA8.out.below hb)
      have BB9 := Lib.hid (BB8.out.below hb)
      have BP9 := Lib.hid (BP8.out.below hb)
      have BQ9 := Lib.hid (BQ8.out.below hb)
      have BZ9 := Lib.hid (BZ8.out.below hb)
      have HB9 := Lib.hid (HB8.out.trans (hb.mono HB8.out.size))
      clear hb BN8 BA8 BB8 BP8 BQ8 BZ8 HB8
      go_upto_region 16 with fail
      obtain ⟨go1, hgo1⟩ : ∃ go1, go1 = w6.heap.size := ⟨_, rfl⟩
      obtain ⟨W4, hW4⟩ : ∃ W, W = w6.alloc (.cells #[.int .i64 (f1 0).1, .int .i64 (f1 0).2, .int .i64 (f1 1).1, .int .i64 (f1 1).2, .int .i64 (f1 2).1, .int .i64 (f1 2).2, .int .i64 (f1 3).1, .int .i64 (f1 3).2] 175) := ⟨_, rfl⟩
      rw [← hW4, ← hgo1]
      as_aux_lemma =>
      have BO10 : Hid (Blk W4 go1 175 #[.int .i64 (f1 0).1, .int .i64 (f1 0).2, .int .i64 (f1 1).1, .int .i64 (f1 1).2, .int .i64 (f1 2).1, .int .i64 (f1 2).2, .int .i64 (f1 3).1, .int .i64 (f1 3).2]) := by rw [hW4, hgo1]; exact Blk.new w6 _ _
      have hb : Below w6.heap.size w6 W4 := by rw [hW4]; exact (Below.refl _ _).alloc (Nat.le_refl _) _
      have BN10 := Lib.hid (BN9.out.below hb)
      have BA10 := Lib.hid (BA9.out.below hb)
      have BB10 := Lib.hid (BB9.out.below hb)
      have BP10 := Lib.hid (BP9.out.below hb)
      have BQ10 := Lib.hid (BQ9.out.below hb)
      have BZ10 := Lib.hid (BZ9.out.below hb)
      have HB10 := Lib.hid (HB9.out.trans (hb.mono HB9.out.size))
      clear hb BN9 BA9 BB9 BP9 BQ9 BZ9 HB9
      clear hW4 hgo1
      obtain ⟨f2, hf2⟩ : ∃ f : Nat → Int × Int, f = fun k => crossI (pan x k) (pan y k) := ⟨_, rfl⟩
      have hC := fun w => Cross_S r s (pan x) (pan y) HR.out HSS.out (fun k hk => by have := HPX.out k hk; omega) (fun k hk => by have := HPY.out k hk; omega) w
      rw [← hf2] at hC
      simp only [cV, partG_four] at hC
      have HC := Lib.hid hC
      have Hf2 := Lib.hid hf2
      clear hC hf2
      have p0 : W4.cell? ⟨gp, 0, none⟩ = some (.complex .f32 (r 0).1 (r 0).2) := by rw [BP10.out.cell 0]; rfl
      have p1 : W4.cell? ⟨gp, 1, none⟩ = some (.complex .f32 (r 1).1 (r 1).2) := by rw [BP10.out.cell 1]; rfl
      have p2 : W4.cell? ⟨gp, 2, none⟩ = some (.complex .f32 (r 2).1 (r 2).2) := by rw [BP10.out.cell 2]; rfl
      have p3 : W4.cell? ⟨gp, 3, none⟩ = some (.complex .f32 (r 3).1 (r 3).2) := by rw [BP10.out.cell 3]; rfl
      have q0 : W4.cell? ⟨gq, 0, none⟩ = some (.complex .f32 (s 0).1 (s 0).2) := by rw [BQ10.out.cell 0]; rfl
      have q1 : W4.cell? ⟨gq, 1, none⟩ = some (.complex .f32 (s 1).1 (s 1).2) := by rw [BQ10.out.cell 1]; rfl
      have q2 : W4.cell? ⟨gq, 2, none⟩ = some (.complex .f32 (s 2).1 (s 2).2) := by rw [BQ10.out.cell 2]; rfl
      have q3 : W4.cell? ⟨gq, 3, none⟩ = some (.complex .f32 (s 3).1 (s 3).2) := by rw [BQ10.out.cell 3]; rfl
      go_wp2_with fail
      refine (HC.out _).mono ?_
      rintro e w7 ⟨rfl, hb⟩
      clear HC p0 p1 p2 p3 q0 q1 q2 q3
      have BN11 := Lib.hid (BN10.out.below hb)
      have BA11 := Lib.hid (BA10.out.below hb)
      have BB11 := Lib.hid (BB10.out.below hb)
      have BP11 := Lib.hid (BP10.out.below hb)
      have BQ11 := Lib.hid (BQ10.out.below hb)
      have BZ11 := Lib.hid (BZ10.out.below hb)
      have BO11 := Lib.hid (BO10.out.below hb)
      have HB11 := Lib.hid (HB10.out.trans (hb.mono HB10.out.size))
      clear hb BN10 BA10 BB10 BP10 BQ10 BZ10 BO10 HB10
      go_upto_region 17 with fail
      obtain ⟨go2, hgo2⟩ : ∃ go2, go2 = w7.heap.size := ⟨_, rfl⟩
      obtain ⟨W5, hW5⟩ : ∃ W, W = w7.alloc (.cells #[.int .i64 (f2 0).1, .int .i64 (f2 0).2, .int .i64 (f2 1).1, .int .i64 (f2 1).2, .int .i64 (f2 2).1, .int .i64 (f2 2).2, .int .i64 (f2 3).1, .int .i64 (f2 3).2] 175) := ⟨_, rfl⟩
      rw [← hW5, ← hgo2]
      as_aux_lemma =>
      have BE12 : Hid (Blk W5 go2 175 #[.int .i64 (f2 0).1, .int .i64 (f2 0).2, .int .i64 (f2 1).1, .int .i64 (f2 1).2, .int .i64 (f2 2).1, .int .i64 (f2 2).2, .int .i64 (f2 3).1, .int .i64 (f2 3).2]) := by rw [hW5, hgo2]; exact Blk.new w7 _ _
      have hb : Below w7.heap.size w7 W5 := by rw [hW5]; exact (Below.refl _ _).alloc (Nat.le_refl _) _
      have BN12 := Lib.hid (BN11.out.below hb)
      have BA12 := Lib.hid (BA11.out.below hb)
      have BB12 := Lib.hid (BB11.out.below hb)
      have BP12 := Lib.hid (BP11.out.below hb)
      have BQ12 := Lib.hid (BQ11.out.below hb)
      have BZ12 := Lib.hid (BZ11.out.below hb)
      have BO12 := Lib.hid (BO11.out.below hb)
      have HB12 := Lib.hid (HB11.out.trans (hb.mono HB11.out.size))
      clear hb BN11 BA11 BB11 BP11 BQ11 BZ11 BO11 HB11
      clear hW5 hgo2
      obtain ⟨f3, hf3⟩ : ∃ f : Nat → Int × Int, f = fun k => crossI (pan y k) (pan x k) := ⟨_, rfl⟩
      have hC := fun w => Cross_S s r (pan y) (pan x) HSS.out HR.out (fun k hk => by have := HPY.out k hk; omega) (fun k hk => by have := HPX.out k hk; omega) w
      rw [← hf3] at hC
      simp only [cV, partG_four] at hC
      have HC := Lib.hid hC
      have Hf3 := Lib.hid hf3
      clear hC hf3
      have p0 : W5.cell? ⟨gp, 0, none⟩ = some (.complex .f32 (r 0).1 (r 0).2) := by rw [BP12.out.cell 0]; rfl
      have p1 : W5.cell? ⟨gp, 1, none⟩ = some (.complex .f32 (r 1).1 (r 1).2) := by rw [BP12.out.cell 1]; rfl
      have p2 : W5.cell? ⟨gp, 2, none⟩ = some (.complex .f32 (r 2).1 (r 2).2) := by rw [BP12.out.cell 2]; rfl
      have p3 : W5.cell? ⟨gp, 3, none⟩ = some (.complex .f32 (r 3).1 (r 3).2) := by rw [BP12.out.cell 3]; rfl
      have q0 : W5.cell? ⟨gq, 0, none⟩ = some (.complex .f32 (s 0).1 (s 0).2) := by rw [BQ12.out.cell 0]; rfl
      have q1 : W5.cell? ⟨gq, 1, none⟩ = some (.complex .f32 (s 1).1 (s 1).2) := by rw [BQ12.out.cell 1]; rfl
      have q2 : W5.cell? ⟨gq, 2, none⟩ = some (.complex .f32 (s 2).1 (s 2).2) := by rw [BQ12.out.cell 2]; rfl
      have q3 : W5.cell? ⟨gq, 3, none⟩ = some (.complex .f32 (s 3).1 (s 3).2) := by rw [BQ12.out.cell 3]; rfl
      go_wp2_with fail
      refine (HC.out _).mono ?_
      rintro e w8 ⟨rfl, hb⟩
      clear HC p0 p1 p2 p3 q0 q1 q2 q3
      have BN13 := Lib.hid (BN12.out.below hb)
      have BA13 := Lib.hid (BA12.out.below hb)
      have BB13 := Lib.hid (BB12.out.below hb)
      have BP13 := Lib.hid (BP12.out.below hb)
      have BQ13 := Lib.hid (BQ12.out.below hb)
      have BZ13 := Lib.hid (BZ12.out.below hb)
      have BO13 := Lib.hid (BO12.out.below hb)
      have BE13 := Lib.hid (BE12.out.below hb)
      have HB13 := Lib.hid (HB12.out.trans (hb.mono HB12.out.size))
      clear hb BN12 BA12 BB12 BP12 BQ12 BZ12 BO12 BE12 HB12
      go_upto_region 18 with fail
      obtain ⟨go3, hgo3⟩ : ∃ go3, go3 = w8.heap.size := ⟨_, rfl⟩
      obtain ⟨W6, hW6⟩ : ∃ W, W = w8.alloc (.cells #[.int .i64 (f3 0).1, .int .i64 (f3 0).2, .int .i64 (f3 1).1, .int .i64 (f3 1).2, .int .i64 (f3 2).1, .int .i64 (f3 2).2, .int .i64 (f3 3).1, .int .i64 (f3 3).2] 175) := ⟨_, rfl⟩
      rw [← hW6, ← hgo3]
      as_aux_lemma =>
      have BF14 : Hid (Blk W6 go3 175 #[.int .i64 (f3 0).1, .int .i64 (f3 0).2, .int .i64 (f3 1).1, .int .i64 (f3 1).2, .int .i64 (f3 2).1, .int .i64 (f3 2).2, .int .i64 (f3 3).1, .int .i64 (f3 3).2]) := by rw [hW6, hgo3]; exact Blk.new w8 _ _
      have hb : Below w8.heap.size w8 W6 := by rw [hW6]; exact (Below.refl _ _).alloc (Nat.le_refl _) _
      have BN14 := Lib.hid (BN13.out.below hb)
      have BA14 := Lib.hid (BA13.out.below hb)
      have BB14 := Lib.hid (BB13.out.below hb)
      have BP14 := Lib.hid (BP13.out.below hb)
      have BQ14 := Lib.hid (BQ13.out.below hb)
      have BZ14 := Lib.hid (BZ13.out.below hb)
      have BO14 := Lib.hid (BO13.out.below hb)
      have BE14 := Lib.hid (BE13.out.below hb)
      have HB14 := Lib.hid (HB13.out.trans (hb.mono HB13.out.size))
      clear hb BN13 BA13 BB13 BP13 BQ13 BZ13 BO13 BE13 HB13
      clear hW6 hgo3
      have z0 : W6.cell? ⟨gz, 0, none⟩ = some (.float .f32 (z 0)) := by rw [BZ14.out.cell 0]; rfl
      have z1 : W6.cell? ⟨gz, 1, none⟩ = some (.float .f32 (z 1)) := by rw [BZ14.out.cell 1]; rfl
      have z2 : W6.cell? ⟨gz, 2, none⟩ = some (.float .f32 (z 2)) := by rw [BZ14.out.cell 2]; rfl
      have z3 : W6.cell? ⟨gz, 3, none⟩ = some (.float .f32 (z 3)) := by rw [BZ14.out.cell 3]; rfl
      have a0 : W6.cell? ⟨ga, 0, none⟩ = some (.float .f32 (sampW (x 0))) := by rw [BA14.out.cell 0]; rfl
      have a1 : W6.cell? ⟨ga, 1, none⟩ = some (.float .f32 (sampW (x 1))) := by rw [BA14.out.cell 1]; rfl
      have a2 : W6.cell? ⟨ga, 2, none⟩ = some (.float .f32 (sampW (x 2))) := by rw [BA14.out.cell 2]; rfl
      have a3 : W6.cell? ⟨ga, 3, none⟩ = some (.float .f32 (sampW (x 3))) := by rw [BA14.out.cell 3]; rfl
      have p0 : W6.cell? ⟨gp, 0, none⟩ = some (.complex .f32 (r 0).1 (r 0).2) := by rw [BP14.out.cell 0]; rfl
      have hsum : sumTo x 4 = (pan x 0).1 := by rw [pan_0]; simp only [sumTo]; omega
      have hsb : (sumTo x 4).natAbs ≤ 16384 := by rw [hsum]; have := HPX.out 0 (by omega); omega
      have heq := fun w => eq_f32s z (fun k => sampW (x k)) (fun k hk => (HZ.out k hk).eq (sampW_S (x k) (by have := HX2.out k hk; omega)) (by have := HX2.out k hk; omega)) w
      have hre : (FloatKind.f32.format.order (r 0).1 (sampW (sumTo x 4)) != some .eq) = false := (HR.out 0 (by omega)).1.neq (by have := sampW_S (sumTo x 4) hsb; rw [hsum] at this ⊢; exact this) (by have := HPX.out 0 (by omega); show (pan x 0).1.natAbs ≤ _; omega)
      have him : (FloatKind.f32.format.order (r 0).2 0 != some .eq) = false := by
        have h2 := (HR.out 0 (by omega)).2
        have e : (tsum (fun n => (x n, 0)) (gpow (0, -1) 0) 4).2 = 0 := by show (pan x 0).2 = 0; rw [pan_0]
        rw [e] at h2
        exact h2.eq_zero
      obtain ⟨SM, hSM⟩ : ∃ SM, SM = sumTo x 4 := ⟨_, rfl⟩
      rw [← hSM] at hre hsb ⊢
      have HSC := Lib.hid (fun w => refSample_v SM hsb w)
      clear hsum hsb hSM
      go_quiet ((go_at_call 96; exact Calls.quiet_of_same ((HSC.out _).mono (fun _ _ h => ⟨h.1, h.2.symm⟩))))
      obtain ⟨W7, hW7⟩ : ∃ W, W = W6.drewN nq := ⟨_, rfl⟩
      rw [← hW7]
      as_aux_lemma =>
      have hb : Below W6.heap.size W6 W7 := by rw [hW7]; exact below_drewN' (Below.refl _ _) _
      clear z0 z1 z2 z3 a0 a1 a2 a3 p0
      have BN15 := Lib.hid (BN14.out.below hb)
      have BA15 := Lib.hid (BA14.out.below hb)
      have BB15 := Lib.hid (BB14.out.below hb)
      have BP15 := Lib.hid (BP14.out.below hb)
      have BQ15 := Lib.hid (BQ14.out.below hb)
      have BZ15 := Lib.hid (BZ14.out.below hb)
      have BO15 := Lib.hid (BO14.out.below hb)
      have BE15 := Lib.hid (BE14.out.below hb)
      have BF15 := Lib.hid (BF14.out.below hb)
      have HB15 := Lib.hid (HB14.out.trans (hb.mono HB14.out.size))
      clear hb BN14 BA14 BB14 BP14 BQ14 BZ14 BO14 BE14 BF14 HB14
      clear heq hre him HSC hW7
      obtain ⟨SQ, hSQ⟩ : ∃ SQ, SQ = sumTo (fun j => x j * x j) 4 := ⟨_, rfl⟩
      rw [← hSQ]
      have HSQ := Lib.hid hSQ
      clear hSQ
      go_wp2_with fail
      go_loopw [24, 25, 154] (fun s _ i wr => ∃ k : Nat, k ≤ 4 ∧ i = .int .i64 k ∧ s = .int .i64 (sumTo (fun j => (f1 j).1) k) ∧ Below W7.heap.size W7 wr) (fun _ _ i _ => 4 - (intOf i).toNat)
      case atStart => exact ⟨0, Nat.zero_le _, rfl, rfl, Below.refl _ _⟩
      case round =>
        obtain ⟨k, hk, rfl, rfl, hb⟩ := hrel
        by_cases hlt : k < 4
        · as_aux_lemma =>
          have HBW := Lib.hid hb
          have bo := load_gauss (BO15.out.below hb) k hlt
          have e0 : (f1 k).2 = 0 := by rw [Hf1.out]; exact cross_self _
          have e3 : f3 k = ((f2 k).1, -(f2 k).2) := by rw [Hf3.out, Hf2.out]; exact cross_swap _ _
          have px := HPX.out k hlt
          have py := HPY.out k hlt
          have d1 : (f1 k).1.natAbs ≤ 128000000 := by rw [Hf1.out]; exact (cross_bd _ _ px.1 px.2 px.1 px.2).1
          have d2 : (f2 k).2.natAbs ≤ 128000000 := by rw [Hf2.out]; exact (cross_bd _ _ px.1 px.2 py.1 py.2).2
          have ds := sumTo_bd (fun j => (f1 j).1) 128000000 (fun j hj => by have px := HPX.out j hj; rw [Hf1.out]; exact (cross_bd _ _ px.1 px.2 px.1 px.2).1) k hk
          have e4 : sumTo (fun j => (f1 j).1) (k + 1) = sumTo (fun j => (f1 j).1) k + (f1 k).1 := rfl
          obtain ⟨SP, hSP⟩ : ∃ SP, SP = sumTo (fun j => (f1 j).1) k := ⟨_, rfl⟩
          rw [← hSP] at ds e4 ⊢
          obtain ⟨u, hu⟩ : ∃ u, u = (f1 k).1 := ⟨_, rfl⟩
          have c0 := bo.1
          rw [← hu] at d1 c0 e4
          have E4 := Lib.hid e4
          have E0 := Lib.hid e0
          have E3 := Lib.hid e3
          have D2 := Lib.hid d2
          clear hSP hu e4 e0 e3 d2 px py bo hb
          go_upto_region 25 with fail
          clear c0
          as_aux_lemma =>
          have bw : ∀ d os, Below wr.heap.size wr (grow (redrawn wr d) os) := fun d os => below_regrown wr d os
          have L1 : ∀ d os, (loadVar 3 ⟨go1, k * 2 + 1, none⟩).run Tryz.prog (grow (redrawn wr d) os) = .ok (.int .i64 0) (grow (redrawn wr d) os) := fun d os => by
            have c := (load_gauss ((BO15.out.below HBW.out).below (bw d os)) k hlt).2.1
            rw [E0.out] at c
            generalize grow (redrawn wr d) os = W' at c
            go_simp
          have L3 : ∀ d os, (loadVar 174 ⟨go3, k * 2, none⟩).run Tryz.prog (grow (redrawn wr d) os) = .ok (.agg #[.int .i64 (f2 k).1, .int .i64 (-(f2 k).2)]) (grow (redrawn wr d) os) := fun d os => by
            have c := (load_gauss ((BF15.out.below HBW.out).below (bw d os)) k hlt).2.2
            rw [E3.out] at c
            exact c
          have L2 : ∀ d os, (loadVar 174 ⟨go2, k * 2, none⟩).run Tryz.prog (grow (redrawn wr d) os) = .ok (.agg #[.int .i64 (f2 k).1, .int .i64 (f2 k).2]) (grow (redrawn wr d) os) := fun d os =>
            (load_gauss ((BE15.out.below HBW.out).below (bw d os)) k hlt).2.2
          have cC : ∀ d os, Calls Tryz.prog 101 #[.agg #[.int .i64 (f2 k).1, .int .i64 (f2 k).2]] (grow (redrawn wr d) os) fun e w'' => e = .returned (.agg #[.int .i64 (f2 k).1, .int .i64 (-(f2 k).2)]) ∧ ∃ p : Regrown, w'' = grow (redrawn wr p.d) p.os := fun d os =>
            Calls.regrown_of (refConjugate_any _ _ _ (by have := D2.out; omega))
          refine wp_region_quiet_below (by kernel_rfl) (by kernel_rfl) ?_
          iterate 3 (quiet_step (fail))
          refine wpQuiet_val _ _ rfl (by rfl) go1 (k * 2 + 1) (.int .i64 0) rfl L1 ?_
          iterate 4 (quiet_step (fail))
          refine wpQuiet_val _ _ rfl (by rfl) go3 (k * 2) _ rfl L3 ?_
          iterate 2 (quiet_step (fail))
          refine wpQuiet_val _ _ rfl (by rfl) go2 (k * 2) _ rfl L2 ?_
          repeat (quiet_step (exact cC _ _))
          refine wpQuiet_nil ?_
          intro _ hw'
          obtain ⟨⟨dq, osq⟩, hw''⟩ := hw'
          subst hw''
          have HBX := Lib.hid (HBW.out.trans ((bw dq osq).mono HBW.out.size))
          clear bw L1 L2 L3 cC
          as_aux_lemma =>
          go_wp2
          go_roundw
          case rel => exact ⟨k + 1, by omega, by go_num, by rw [E4.out], HBX.out⟩
          case measure => simp [intOf]; omega
        · as_aux_lemma =>
          obtain rfl : k = 4 := by omega
          have hp : sumTo (fun j => (f1 j).1) 4 = 4 * SQ := by
            rw [HSQ.out, Hf1.out]
            have := pan_power x
            simp only [sumTo]
            show 0 + (crossI (pan x 0) (pan x 0)).1 + (crossI (pan x 1) (pan x 1)).1 + (crossI (pan x 2) (pan x 2)).1 + (crossI (pan x 3) (pan x 3)).1 = _
            omega
          have hq : SQ.natAbs ≤ 16000000 := by
            rw [HSQ.out]
            have := sumTo_bd (fun j => x j * x j) 4000000 (fun j hj => by
              have := HX2.out j hj
              rw [Int.natAbs_mul]
              exact Nat.mul_le_mul this this) 4 (Nat.le_refl _)
            omega
          rw [hp]
          clear hp
          have HBW := Lib.hid hb
          clear hb
          have hs8 := HBW.out.size
          go_upto_region 30 with fail
          have hA : FlAt wr (some ⟨ga, 0, none⟩) 4 [sampW (x 0), sampW (x 1), sampW (x 2), sampW (x 3)] := by
            refine ⟨rfl, fun _ => ⟨ga, 0, rfl, fun i hi => ?_⟩⟩
            rw [Nat.zero_add, (BA15.out.below HBW.out).cell i]
            match i, hi with
            | 0, _ => rfl
            | 1, _ => rfl
            | 2, _ => rfl
            | 3, _ => rfl
          have hB : FlAt wr (some ⟨gb, 0, none⟩) 4 [sampW (y 0), sampW (y 1), sampW (y 2), sampW (y 3)] := by
            refine ⟨rfl, fun _ => ⟨gb, 0, rfl, fun i hi => ?_⟩⟩
            rw [Nat.zero_add, (BB15.out.below HBW.out).cell i]
            match i, hi with
            | 0, _ => rfl
            | 1, _ => rfl
            | 2, _ => rfl
            | 3, _ => rfl
          refine turns_r30 ga gb _ _ wr _ _ rfl rfl rfl hA hB (fun c a d v w h => by cases d <;> exact h) ?_
          intro v1 v2 w8 hO hb8
          simp only [Act.put, List.setIfInBounds_toArray, List.set_cons_zero, List.set_cons_succ]
          as_aux_lemma =>
          have hbq := HBW.out.trans (hb8.mono HBW.out.size)
          have BN16 := Lib.hid (BN15.out.below hbq)
          have HB16 := Lib.hid (HB15.out.trans (hbq.mono HB15.out.size))
          have hO' : OwnF w8 wr.heap.size v2 (turnsL x y) := hO
          obtain ⟨AL, cL, rfl, hf⟩ : ∃ A c, v2 = .slice A 8 c ∧ FlAt w8 A 8 (turnsL x y) := hO'.form
          have hAL : AL = none → cL = 0 := fun h => by
            obtain ⟨b, off, h1, _⟩ := hf.2 (by omega)
            rw [h1] at h; cases h
          obtain ⟨TL, hTL⟩ : ∃ TL, TL = turnsL x y := ⟨_, rfl⟩
          have hTF := turnsL_facts HX2.out HY2.out
          have hp46 := packL_eight x y
          have hTS : TL.length = 8 := by rw [hTL]; rfl
          have hsb := stream_back TL (by omega) (by rw [hTL]; exact hTF.2.2.2.1) (by rw [hTL]; exact hTF.2.1)
          have hsx := stream_broken TL (by omega) (by rw [hTL]; exact hTF.2.2.2.1)
          rw [← hTL] at hf hTF hp46
          have HF8 := Lib.hid hf
          have HTF := Lib.hid hTF
          have HP46 := Lib.hid hp46
          have HTS := Lib.hid hTS
          have HSB := Lib.hid hsb
          have HSX := Lib.hid hsx
          have HAL := Lib.hid hAL
          clear hO hO' hb8 hbq hf hTF hp46 hTS hsb hsx hAL hTL hA hB hs8 hq BA15 BB15 BP15 BQ15 BZ15 BO15 BE15 BF15 HB15 BN15 HBW HX2 HY2
          go_wp2_with fail
          refine Calls.mono (floats_any AL 8 cL TL _ HF8.out HAL.out (by omega)) ?_
          rintro e w9 ⟨A3, c3, rfl, hI, hb⟩
          have HI9 := Lib.hid hI
          have BN17 := Lib.hid (BN16.out.below hb)
          have HF9 := Lib.hid (HF8.out.keep hb)
          have HB17 := Lib.hid (HB16.out.trans (hb.mono HB16.out.size))
          clear hI hb BN16 HF8 HB16
          go_wp2_with fail
          refine Calls.mono (Pack_good A3 8 c3 TL TL _ (by omega) HI9.out HTF.out.1 HTS.out HTF.out.2.2.1 (fun i hi => HTF.out.2.2.2.1 _ (getD_memF _ i (by rw [HTS.out]; exact hi))) HTF.out.2.2.2.1) ?_
          rintro e w10 ⟨v3, rfl, hO, hb⟩
          obtain ⟨g3, c4, rfl, hB3⟩ : ∃ g c, v3 = .slice (some ⟨g, 0, none⟩) 46 c ∧ BytesAt w10 (some ⟨g, 0, none⟩) 46 (packL TL) := by
            rcases hO.form with ⟨_, h0⟩ | ⟨g, cap, rfl, _⟩
            · have := HP46.out; rw [h0] at this; simp at this
            · rw [HP46.out] at hO ⊢
              exact ⟨_, _, rfl, hO.at_ (packL_bytes _ (by rw [HTS.out]; omega) HTF.out.2.2.2.1)⟩
          have HB3 := Lib.hid hB3
          have BN18 := Lib.hid (BN17.out.below hb)
          have HF10 := Lib.hid (HF9.out.keep hb)
          have HB18 := Lib.hid (HB17.out.trans (hb.mono HB17.out.size))
          clear hO hB3 hb BN17 HF9 HB17 HI9
          go_wp2_with fail
          refine Calls.mono (bytes_wide (some ⟨g3, 0, none⟩) 46 c4 (packL TL) _ HB3.out (fun h => by cases h) (by omega)) ?_
          rintro e w11 ⟨A4, c5, rfl, hI, hcc, hb⟩
          have HI := Lib.hid hI
          have HC := Lib.hid hcc
          have HB4 := Lib.hid (HB3.out.keep hb)
          have BN19 := Lib.hid (BN18.out.below hb)
          have HF11 := Lib.hid (HF10.out.keep hb)
          have HB19 := Lib.hid (HB18.out.trans (hb.mono HB18.out.size))
          clear hI hcc hb BN18 HF10 HB18 HB3
          go_wp2_with fail
          refine Calls.mono (Unpack_any A4 46 c5 (packL TL) _ (Or.inl (by omega)) HC.out HI.out) ?_
          rw [HSB.out.1, HSB.out.2]
          rintro e w12 ⟨v4, rfl, hO, hb⟩
          obtain ⟨A5, c6, rfl, hf5⟩ : ∃ A c, v4 = .slice A 8 c ∧ FlAt w12 A 8 TL := by
            obtain ⟨A, c, h1, h2⟩ := hO.form
            rw [HTS.out] at h1 h2
            exact ⟨A, c, h1, h2⟩
          have HF5 := Lib.hid hf5
          have HB5 := Lib.hid (HB4.out.keep hb)
          have BN20 := Lib.hid (BN19.out.below hb)
          have HF12 := Lib.hid (HF11.out.keep hb)
          have HB20 := Lib.hid (HB19.out.trans (hb.mono HB19.out.size))
          clear hf5 hO hb BN19 HF11 HB19 HB4 HI HC
          go_wp2_with fail
          refine Calls.mono (sameSamples_eq A5 AL 8 c6 cL TL _ (by omega) HF5.out HF12.out HTF.out.2.2.2.2) ?_
          rintro e w13 ⟨rfl, nq, rfl⟩
          obtain ⟨w13, hw13⟩ : ∃ W, W = w12.drewN nq := ⟨_, rfl⟩
          rw [← hw13]
          have hb : Below w12.heap.size w12 w13 := by rw [hw13]; exact below_drewN' (Below.refl _ _) _
          have HB6 := Lib.hid (HB5.out.keep hb)
          have BN21 := Lib.hid (BN20.out.below hb)
          have HB21 := Lib.hid (HB20.out.trans (hb.mono HB20.out.size))
          clear hb BN20 HF5 HF12 HB20 HB5 hw13
          as_aux_lemma =>
          go_wp2_with fail
          refine Calls.mono (bytes_own (some ⟨g3, 0, none⟩) 46 c4 (packL TL) _ HB6.out (by omega) (by omega)) ?_
          rintro e w14 ⟨v5, rfl, hO, hb⟩
          have hO2 := hO.form
          rw [HP46.out] at hO2
          obtain ⟨g5, c7, rfl, hg5, hg5', hc7, hcl, hfz⟩ : ∃ g cap, v5 = .slice (some ⟨g, 0, none⟩) 46 cap ∧ w13.heap.size ≤ g ∧ g < w14.heap.size ∧ 46 ≤ cap ∧ (∀ i, i < 46 → w14.cell? ⟨g, i, none⟩ = some (.int .u8 ((packL TL).getD i 0))) ∧ ∀ i, w14.frozen? ⟨g, i, none⟩ = false := by
            rcases hO2 with ⟨_, h0⟩ | h
            · have := HP46.out; rw [h0] at this; simp at this
            · exact h
          have BN22 := Lib.hid (BN21.out.below hb)
          have HB22 := Lib.hid (HB21.out.trans (hb.mono HB21.out.size))
          have G5 := Lib.hid (Nat.le_trans HB21.out.size hg5)
          have HCL := Lib.hid hcl
          have HFZ := Lib.hid hfz
          have HC7 := Lib.hid hc7
          have hgn : gn < w13.heap.size := World.block_lt_of_cell? _ _ (show w13.cell? ⟨gn, 0, none⟩ = some (.int .u16 n0) by rw [BN21.out.cell 0, HN4.out]; rfl)
          have hgg := hg5
          clear hO hO2 hb BN21 HB21 HB6 hcl hfz hg5 hg5' hc7
          obtain ⟨pl, hpl, hple⟩ := place_of n2 HN2.out
          have cn2 : w14.cell? ⟨gn, 2, none⟩ = some (.int .u16 n2) := by rw [BN22.out.cell 2, HN4.out]; rfl
          have hn2 := HN2.out
          go_upto_region 37 with fail
          as_aux_lemma =>
          clear cn2
          have cn3 : w14.cell? ⟨gn, 3, none⟩ = some (.int .u16 n3) := by rw [BN22.out.cell 3, HN4.out]; rfl
          have hn3 := HN3.out
          have hab := packL_bytes TL (by rw [HTS.out]; omega) HTF.out.2.2.2.1 pl (by rw [HP46.out]; exact hpl)
          have cb := HCL.out pl hpl
          have hfz := HFZ.out pl
          have hsx := HSX.out pl
          obtain ⟨b, hbe⟩ : ∃ b, b = (packL TL).getD pl 0 := ⟨_, rfl⟩
          rw [← hbe] at hab cb hsx
          have HSY := Lib.hid hsx
          have HOB := Lib.hid (other_mod b n3 hab hn3)
          clear hsx hbe
          have hpi : (pl : Int) < 46 := by omega
          go_region
          go_wp2_with fail
          obtain ⟨V, hV⟩ : ∃ V, V = (b + 1 + n3 % 255) % 256 := ⟨_, rfl⟩
          have hov := HOB.out
          rw [← hV] at hov ⊢
          have hbz : BytesAt (w14.setCell ⟨g5, pl, none⟩ (.int .u8 V)).drew (some ⟨g5, 0, none⟩) 46 ((packL TL).set pl V) := bytes_changed HP46.out (packL_bytes TL (by rw [HTS.out]; omega) HTF.out.2.2.2.1) HCL.out hpl hov.1
          have hE0 := HSY.out V (by rw [HP46.out]; exact hpl) hov.1 hov.2
          have hb : Below w.heap.size w (w14.setCell ⟨g5, pl, none⟩ (.int .u8 V)).drew := (HB22.out.setCell (p := ⟨g5, pl, none⟩) G5.out _).drew
          have hbn : Blk (w14.setCell ⟨g5, pl, none⟩ (.int .u8 V)).drew gn 163 N4 := (BN22.out.far (p := ⟨g5, pl, none⟩) (fun e => by have e2 : gn = g5 := e; omega) _).drew
          obtain ⟨w15, hw15⟩ : ∃ W, W = (w14.setCell ⟨g5, pl, none⟩ (.int .u8 V)).drew := ⟨_, rfl⟩
          rw [← hw15] at hb hbn hbz ⊢
          obtain ⟨E, hE⟩ : ∃ E, E = unpackE ((packL TL).set pl V) := ⟨_, rfl⟩
          rw [← hE] at hE0
          have BN23 := Lib.hid hbn
          have HB23 := Lib.hid hb
          have HBZ := Lib.hid hbz
          have HEE := Lib.hid hE
          clear hw15 hb hbn hbz BN22 HB22 hov hV hE HOB HSY HCL HFZ hab cb hfz hn3
          as_aux_lemma =>
          refine Calls.mono (Unpack_any (some ⟨g5, 0, none⟩) 46 c7 _ _ (Or.inl (by omega)) HC7.out HBZ.out) ?_
          rintro e w16 ⟨v6, rfl, hO, hb⟩
          rw [← HEE.out]
          have BN24 := Lib.hid (BN23.out.below hb)
          have HB24 := Lib.hid (HB23.out.trans (hb.mono HB23.out.size))
          clear hO hb BN23 HB23 HBZ HEE
          obtain ⟨m, hm, hme⟩ := many_of n1 HN1.out
          have hn1 := HN1.out
          have hn0 := HN0.out
          have cn1 : w16.cell? ⟨gn, 1, none⟩ = some (.int .u16 n1) := by rw [BN24.out.cell 1, HN4.out]; rfl
          have cn0 : w16.cell? ⟨gn, 0, none⟩ = some (.int .u16 n0) := by rw [BN24.out.cell 0, HN4.out]; rfl
          go_wp2_with fail
          refine Calls.mono (draw_good n0 m _ hn0.1 (by omega) (by omega)) ?_
          rintro e w17 ⟨v7, rfl, hO, hb⟩
          have HB25 := Lib.hid (HB24.out.trans (hb.mono HB24.out.size))
          have hEa := each_draw n0 m
          obtain ⟨A6, c8, rfl, hI⟩ : ∃ A c, v7 = .slice A m c ∧ IntsAt w17 A m (drawL n0 m) := by
            rcases hO.form with ⟨hv, h0⟩ | ⟨g, cap, rfl, _⟩
            · have hm0 : m = 0 := by rw [← hEa.1, h0]; rfl
              exact ⟨none, 0, by rw [hv, hm0], hEa.1, fun h => by omega⟩
            · rw [hEa.1] at hO ⊢
              exact ⟨_, _, rfl, hO.at_⟩
          have HEA := Lib.hid hEa
          have HI := Lib.hid hI
          clear hO hb BN24 HB24 hEa hI cn1 cn0
          as_aux_lemma =>
          go_wp2_with fail
          obtain ⟨W9, hW9⟩ : ∃ W, W = w17.alloc (.map #[] 0) := ⟨_, rfl⟩
          obtain ⟨gm, hgm⟩ : ∃ g, g = w17.heap.size := ⟨_, rfl⟩
          rw [← hW9, ← hgm]
          have hsn : Seen W9 gm 0 (drawL n0 m) := by rw [hW9, hgm]; exact Seen.made _ _
          have hb9 : Below w17.heap.size w17 W9 := by rw [hW9]; exact (Below.refl _ _).alloc (Nat.le_refl _) _
          have HB9 := Lib.hid hb9
          have HGM := Lib.hid hgm
          clear hW9 hgm hb9
          as_aux_lemma =>
          go_loopw [40, 270] (fun _ i wr => ∃ k : Nat, k ≤ m ∧ i = .int .i64 k ∧ Seen wr gm k (drawL n0 m) ∧ Below w17.heap.size w17 wr) (fun _ i _ => m - (intOf i).toNat)
          case atStart => exact ⟨0, Nat.zero_le _, rfl, hsn, HB9.out⟩
          case round =>
            obtain ⟨k, hk, rfl, hse, hb⟩ := hrel
            by_cases hlt : k < m
            · as_aux_lemma =>
              obtain ⟨b6, off6, rfl, hc⟩ := (HI.out.keep hb).2 (by omega)
              have ck := hc k hlt
              have hz := HEA.out.2.1 k hlt
              have hzn : ∀ i, i < k → (drawL n0 m).getD i 0 ≠ (drawL n0 m).getD k 0 := fun i hi e => by
                have := HEA.out.2.2 i k (by omega) hlt e
                omega
              have hlook := hse.look (z := (drawL n0 m).getD k 0) (by omega) hzn
              obtain ⟨D, hD, hf⟩ := hse
              have hput := fun w' (h : w'.ownsMap Tryz.prog 3 (plainElem Tryz.prog 4) gm (k + 1) (D.put (.int .i64 ((drawL n0 m).getD k 0)) (.lit (.bool true)))) => Seen.put (w' := w') hf h
              obtain ⟨Z, hZ⟩ : ∃ Z, Z = (drawL n0 m).getD k 0 := ⟨_, rfl⟩
              rw [← hZ] at ck hz hlook hput
              have HBB := Lib.hid hb
              have HPUT := Lib.hid hput
              have hmi : (k : Int) < m := by omega
              clear hZ hb hput hf hc hzn
              go_wp2_with (first
                | (at_mapUpdate; refine wpList_mapUpdate_own _ rfl _ _ _ 179 rfl 3 4 (Maps.int_keyed Tryz.underlying3) Tryz.underlying179 (plainElem (H := Unit) Tryz.prog 4) gm k D rfl hD (by unfold maxLen; omega) _ _ _ rfl rfl (key_int (by omega)) _ [] (plainElem_bool Tryz.underlying4 true) ?_; intro w1 hown1 hgrow1)
                | fail)
              go_roundw
              case rel => exact ⟨k + 1, by omega, by go_num, HPUT.out _ hown1, HBB.out.grown hgrow1 HBB.out.size (fun j hj => by cases hj; exact Nat.le_of_eq HGM.out.symm)⟩
              case measure => simp [intOf]; omega
            · as_aux_lemma =>
              obtain rfl : k = m := by omega
              have HBB := Lib.hid (HB25.out.trans (hb.mono HB25.out.size))
              clear hse hb
              go_wp2_with fail
              refine Calls.mono (awake_any _ (HS.out.keep HBB.out) (HT.out.keep HBB.out)) ?_
              rintro e w18 ⟨rfl, hb⟩
              have HBC := Lib.hid (HBB.out.trans (hb.mono HBB.out.size))
              clear hb
              go_wp2
              go_ret
              exact ⟨rfl, HBC.out⟩
end Go.Proofs.YtoipafnlcchmbaaGreatDoor
