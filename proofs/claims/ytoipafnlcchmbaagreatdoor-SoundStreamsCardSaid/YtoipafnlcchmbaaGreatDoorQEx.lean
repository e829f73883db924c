/- A spectrum times weights. A spectrum times weights, by the reference. -/
import Derived.Test.YtoipafnlcchmbaaGreatDoorQE
import Derived.Laws.CopyOwn
namespace Go.Proofs.YtoipafnlcchmbaaGreatDoor
open Go.RowKit

def wgt (x w : Int) : Int := roundE (x * w) 1000
def mix (s v : List Int) (k i : Nat) : Int := if i < k then wgt (s.getD i 0) (v.getD i 0) else s.getD i 0
def arrK (s v : List Int) (k : Nat) : Array Value := ((List.range 8).map fun i => Value.int .i64 (mix s v k i)).toArray
theorem arrK_at (s v : List Int) (k i : Nat) (hi : i < 8) : (arrK s v k)[i]? = some (.int .i64 (mix s v k i)) := by
  unfold arrK
  simp [hi]
theorem arrK_set (s v : List Int) (k : Nat) : (arrK s v k).setIfInBounds k (.int .i64 (wgt (s.getD k 0) (v.getD k 0))) = arrK s v (k + 1) := by
  apply Array.ext
  · simp [arrK]
  · intro i h1 h2
    simp only [arrK, List.size_toArray, List.length_map, List.length_range] at h2
    rw [Array.getElem_setIfInBounds]
    simp only [arrK, List.getElem_toArray, List.getElem_map, List.getElem_range, mix]
    by_cases h : k = i
    · subst h; simp
    · rw [if_neg h]
      by_cases h3 : i < k
      · rw [if_pos h3, if_pos (by omega)]
      · rw [if_neg h3, if_neg (by omega)]
    · simp [arrK]; omega
theorem arrK_zero (s0 s1 s2 s3 s4 s5 s6 s7 : Int) (v : List Int) : arrK [s0, s1, s2, s3, s4, s5, s6, s7] v 0 = #[.int .i64 s0, .int .i64 s1, .int .i64 s2, .int .i64 s3, .int .i64 s4, .int .i64 s5, .int .i64 s6, .int .i64 s7] := rfl
theorem arrK_eight (s0 s1 s2 s3 s4 s5 s6 s7 w0 w1 w2 w3 w4 w5 w6 w7 : Int) : arrK [s0, s1, s2, s3, s4, s5, s6, s7] [w0, w1, w2, w3, w4, w5, w6, w7] 8 = #[.int .i64 (wgt s0 w0), .int .i64 (wgt s1 w1), .int .i64 (wgt s2 w2), .int .i64 (wgt s3 w3), .int .i64 (wgt s4 w4), .int .i64 (wgt s5 w5), .int .i64 (wgt s6 w6), .int .i64 (wgt s7 w7)] := rfl

theorem index8 (k : Nat) (hk : k < 8) (w0 w1 w2 w3 w4 w5 w6 w7 : Int) (W : World) :
    (Instr.index 80 (.agg #[.int .i64 w0, .int .i64 w1, .int .i64 w2, .int .i64 w3, .int .i64 w4, .int .i64 w5, .int .i64 w6, .int .i64 w7]) (.int .i64 (k : Int))).run Tryz.prog W = .ok (.int .i64 ([w0, w1, w2, w3, w4, w5, w6, w7].getD k 0)) W := by
  match k, hk with
  | 0, _ => show _ = _; kernel_rfl
  | 1, _ => show _ = _; kernel_rfl
  | 2, _ => show _ = _; kernel_rfl
  | 3, _ => show _ = _; kernel_rfl
  | 4, _ => show _ = _; kernel_rfl
  | 5, _ => show _ = _; kernel_rfl
  | 6, _ => show _ = _; kernel_rfl
  | 7, _ => show _ = _; kernel_rfl

theorem Blk.set8 {w : World} {g : Nat} {t : TypeId} {a0 a1 a2 a3 a4 a5 a6 a7 : Value} (h : Blk w g t #[a0, a1, a2, a3, a4, a5, a6, a7]) (b0 b1 b2 b3 b4 b5 b6 b7 : Value) : Blk ((((((((w.setCell ⟨g, 0, none⟩ b0).setCell ⟨g, 1, none⟩ b1).setCell ⟨g, 2, none⟩ b2).setCell ⟨g, 3, none⟩ b3).setCell ⟨g, 4, none⟩ b4).setCell ⟨g, 5, none⟩ b5).setCell ⟨g, 6, none⟩ b6).setCell ⟨g, 7, none⟩ b7) g t #[b0, b1, b2, b3, b4, b5, b6, b7] := by
  have h1 : Blk _ g t #[b0, a1, a2, a3, a4, a5, a6, a7] := h.set_ 0 b0
  have h2 : Blk _ g t #[b0, b1, a2, a3, a4, a5, a6, a7] := h1.set_ 1 b1
  have h3 : Blk _ g t #[b0, b1, b2, a3, a4, a5, a6, a7] := h2.set_ 2 b2
  have h4 : Blk _ g t #[b0, b1, b2, b3, a4, a5, a6, a7] := h3.set_ 3 b3
  have h5 : Blk _ g t #[b0, b1, b2, b3, b4, a5, a6, a7] := h4.set_ 4 b4
  have h6 : Blk _ g t #[b0, b1, b2, b3, b4, b5, a6, a7] := h5.set_ 5 b5
  have h7 : Blk _ g t #[b0, b1, b2, b3, b4, b5, b6, a7] := h6.set_ 6 b6
  have h8 : Blk _ g t #[b0, b1, b2, b3, b4, b5, b6, b7] := h7.set_ 7 b7
  exact h8
theorem below_set8 {B : Nat} {a w : World} {g : Nat} (h : Below B a w) (hp : B ≤ g) (b0 b1 b2 b3 b4 b5 b6 b7 : Value) : Below B a ((((((((w.setCell ⟨g, 0, none⟩ b0).setCell ⟨g, 1, none⟩ b1).setCell ⟨g, 2, none⟩ b2).setCell ⟨g, 3, none⟩ b3).setCell ⟨g, 4, none⟩ b4).setCell ⟨g, 5, none⟩ b5).setCell ⟨g, 6, none⟩ b6).setCell ⟨g, 7, none⟩ b7) := ((((((((h.setCell (p := ⟨g, 0, none⟩) hp b0).setCell (p := ⟨g, 1, none⟩) hp b1).setCell (p := ⟨g, 2, none⟩) hp b2).setCell (p := ⟨g, 3, none⟩) hp b3).setCell (p := ⟨g, 4, none⟩) hp b4).setCell (p := ⟨g, 5, none⟩) hp b5).setCell (p := ⟨g, 6, none⟩) hp b6).setCell (p := ⟨g, 7, none⟩) hp b7)
theorem results8 {w : World} {g : Nat} {t : TypeId} {a0 a1 a2 a3 a4 a5 a6 a7 : Value} (h : Blk w g t #[a0, a1, a2, a3, a4, a5, a6, a7]) :
    w.cell? ⟨g, 0, none⟩ = some a0 ∧ w.cell? ⟨g, 1, none⟩ = some a1 ∧ w.cell? ⟨g, 2, none⟩ = some a2 ∧ w.cell? ⟨g, 3, none⟩ = some a3 ∧ w.cell? ⟨g, 4, none⟩ = some a4 ∧ w.cell? ⟨g, 5, none⟩ = some a5 ∧ w.cell? ⟨g, 6, none⟩ = some a6 ∧ w.cell? ⟨g, 7, none⟩ = some a7 :=
  ⟨h.cell 0, h.cell 1, h.cell 2, h.cell 3, h.cell 4, h.cell 5, h.cell 6, h.cell 7⟩
theorem size_set8 {w : World} {g : Nat} (b0 b1 b2 b3 b4 b5 b6 b7 : Value) : ((((((((w.setCell ⟨g, 0, none⟩ b0).setCell ⟨g, 1, none⟩ b1).setCell ⟨g, 2, none⟩ b2).setCell ⟨g, 3, none⟩ b3).setCell ⟨g, 4, none⟩ b4).setCell ⟨g, 5, none⟩ b5).setCell ⟨g, 6, none⟩ b6).setCell ⟨g, 7, none⟩ b7).heap.size = w.heap.size := by simp [World.setCell]

def weightedErr (s v : List Int) : Int := firstE [firstInE checkEnergyE s, firstInE checkFactorE v]
theorem enters_CheckEnergy' (args : Array Value) (W : World) : (callFunc 41 args).run Tryz.prog W = .ok (.enter 41 args) W := enters_checkEnergy args W
theorem checkFactor_any (x : Int) (w : World) :
    Calls Tryz.prog 133 #[.int .i64 x] w fun e w' => e = .returned (.int .i64 (checkFactorE x)) ∧ w = w' :=
  (checkFactor_st x w).mono fun _ _ ⟨h, e⟩ => ⟨h, e.symm⟩
theorem firstIn_st (F : FuncId) (f : Int → Int) (A : Option Addr) (n c : Nat) (zs : List Int) (w : World) (hn : n ≤ 140737488351232)
    (hE : ∀ (args : Array Value) (W : World), (callFunc F args).run Tryz.prog W = .ok (.enter F args) W)
    (hF : ∀ (x : Int) (W : World), Calls Tryz.prog F #[.int .i64 x] W fun e w' => e = .returned (.int .i64 (f x)) ∧ W = w')
    (hz : IntsAt w A n zs) :
    Calls Tryz.prog 132 #[.slice A n c, .func (.func F) #[] #[]] w fun e w' => e = .returned (.int .i64 (firstInE f zs)) ∧ w' = w :=
  (firstIn_int F f A n c zs w hn hE hF hz).mono fun _ _ ⟨h, e⟩ => ⟨h, e.symm⟩

set_option maxHeartbeats 4000000 in
set_option maxRecDepth 100000 in
theorem Weighted_bad (s0 s1 s2 s3 s4 s5 s6 s7 w0 w1 w2 w3 w4 w5 w6 w7 : Int) (w : World) (hbad : weightedErr [s0, s1, s2, s3, s4, s5, s6, s7] [w0, w1, w2, w3, w4, w5, w6, w7] ≠ 0) :
    Calls Tryz.prog 60 #[.agg #[.int .i64 s0, .int .i64 s1, .int .i64 s2, .int .i64 s3, .int .i64 s4, .int .i64 s5, .int .i64 s6, .int .i64 s7], .agg #[.int .i64 w0, .int .i64 w1, .int .i64 w2, .int .i64 w3, .int .i64 w4, .int .i64 w5, .int .i64 w6, .int .i64 w7]] w fun e w' => e = .returned (.tuple #[.agg #[.int .i64 0, .int .i64 0, .int .i64 0, .int .i64 0, .int .i64 0, .int .i64 0, .int .i64 0, .int .i64 0], .int .i64 (weightedErr [s0, s1, s2, s3, s4, s5, s6, s7] [w0, w1, w2, w3, w4, w5, w6, w7])]) ∧ Below w.heap.size w w' := by
  obtain ⟨E, hE⟩ : ∃ E, E = weightedErr [s0, s1, s2, s3, s4, s5, s6, s7] [w0, w1, w2, w3, w4, w5, w6, w7] := ⟨_, rfl⟩
  rw [← hE] at hbad ⊢
  have HE := Lib.hid hE
  have h1 : (E != 0) = true := by simp [hbad]
  clear hE hbad
  go_enter Tryz.func60, Tryz.ntmps60
  go_wp2_with fail
  obtain ⟨W0, hW0⟩ : ∃ W0, W0 = (((w.alloc (.cells #[.int .i64 s0, .int .i64 s1, .int .i64 s2, .int .i64 s3, .int .i64 s4, .int .i64 s5, .int .i64 s6, .int .i64 s7] 81)).alloc (.cells #[.int .i64 w0, .int .i64 w1, .int .i64 w2, .int .i64 w3, .int .i64 w4, .int .i64 w5, .int .i64 w6, .int .i64 w7] 80)).alloc (.cells #[.int .i64 0, .int .i64 0, .int .i64 0, .int .i64 0, .int .i64 0, .int .i64 0, .int .i64 0, .int .i64 0] 81)) := ⟨_, rfl⟩
  rw [← hW0]
  have B0 : Blk W0 w.heap.size 81 #[.int .i64 s0, .int .i64 s1, .int .i64 s2, .int .i64 s3, .int .i64 s4, .int .i64 s5, .int .i64 s6, .int .i64 s7] := by rw [hW0]; exact ((Blk.new w _ _).alloc _).alloc _
  have B1 : Blk W0 (w.heap.size + 1) 80 #[.int .i64 w0, .int .i64 w1, .int .i64 w2, .int .i64 w3, .int .i64 w4, .int .i64 w5, .int .i64 w6, .int .i64 w7] := by rw [hW0]; simpa using (Blk.new (w.alloc (.cells #[.int .i64 s0, .int .i64 s1, .int .i64 s2, .int .i64 s3, .int .i64 s4, .int .i64 s5, .int .i64 s6, .int .i64 s7] 81)) 80 #[.int .i64 w0, .int .i64 w1, .int .i64 w2, .int .i64 w3, .int .i64 w4, .int .i64 w5, .int .i64 w6, .int .i64 w7]).alloc (.cells #[.int .i64 0, .int .i64 0, .int .i64 0, .int .i64 0, .int .i64 0, .int .i64 0, .int .i64 0, .int .i64 0] 81)
  have B2 : Blk W0 (w.heap.size + 1 + 1) 81 #[.int .i64 0, .int .i64 0, .int .i64 0, .int .i64 0, .int .i64 0, .int .i64 0, .int .i64 0, .int .i64 0] := by rw [hW0]; simpa using Blk.new ((w.alloc (.cells #[.int .i64 s0, .int .i64 s1, .int .i64 s2, .int .i64 s3, .int .i64 s4, .int .i64 s5, .int .i64 s6, .int .i64 s7] 81)).alloc (.cells #[.int .i64 w0, .int .i64 w1, .int .i64 w2, .int .i64 w3, .int .i64 w4, .int .i64 w5, .int .i64 w6, .int .i64 w7] 80)) 81 #[.int .i64 0, .int .i64 0, .int .i64 0, .int .i64 0, .int .i64 0, .int .i64 0, .int .i64 0, .int .i64 0]
  have hB : Below w.heap.size w W0 := by rw [hW0]; exact (((Below.refl _ w).alloc (Nat.le_refl _) _).alloc (by simp) _).alloc (by simp; omega) _
  have I0 : Hid (IntsAt W0.drew (some ⟨w.heap.size, 0, none⟩) 8 [s0, s1, s2, s3, s4, s5, s6, s7]) := IntsAt.of8 B0.drew
  have I1 : Hid (IntsAt W0.drew (some ⟨w.heap.size + 1, 0, none⟩) 8 [w0, w1, w2, w3, w4, w5, w6, w7]) := IntsAt.of8 B1.drew
  have HB2 := Lib.hid B2
  have HBW := Lib.hid hB
  have sz2 := lt_of_block B2
  clear hB hW0 B0 B1 B2
  refine wp_region_still_tail 4 (by kernel_rfl) (by kernel_rfl) ?_
  simp only [List.take_succ_cons, List.take_zero, List.drop_succ_cons, List.drop_zero]
  change wpStill _ _ (World.drew _) _ _ _
  repeat still_step
  still_call (firstIn_st _ checkEnergyE _ _ _ [s0, s1, s2, s3, s4, s5, s6, s7] _ (by decide) enters_checkEnergy checkEnergy_any I0.out)
  repeat still_step
  still_call (firstIn_st _ checkFactorE _ _ _ [w0, w1, w2, w3, w4, w5, w6, w7] _ (by decide) enters_checkFactor checkFactor_any I1.out)
  repeat still_step
  refine wpStill_nil ?_
  change wpList _ _ _ _ _ (World.drew _)
  go_wp2_with fail
  refine (first2 _ _ (firstInE checkEnergyE [s0, s1, s2, s3, s4, s5, s6, s7]) (firstInE checkFactorE [w0, w1, w2, w3, w4, w5, w6, w7]) _ (by go_simp) (by go_simp)).mono ?_
  rw [show firstE [firstInE checkEnergyE [s0, s1, s2, s3, s4, s5, s6, s7], firstInE checkFactorE [w0, w1, w2, w3, w4, w5, w6, w7]] = E from HE.out.symm]
  rintro e w' ⟨rfl, rfl⟩
  have C2 := HB2.out
  have zc0 := C2.cell 0; have zf0 := C2.frozen 0; have zc1 := C2.cell 1; have zf1 := C2.frozen 1; have zc2 := C2.cell 2; have zf2 := C2.frozen 2; have zc3 := C2.cell 3; have zf3 := C2.frozen 3; have zc4 := C2.cell 4; have zf4 := C2.frozen 4; have zc5 := C2.cell 5; have zf5 := C2.frozen 5; have zc6 := C2.cell 6; have zf6 := C2.frozen 6; have zc7 := C2.cell 7; have zf7 := C2.frozen 7
  simp only [List.getElem?_toArray, List.getElem?_cons_zero, List.getElem?_cons_succ] at zc0 zc1 zc2 zc3 zc4 zc5 zc6 zc7
  clear C2
  go_wp2
  generalize hWf : World.drew _ = Wf
  have D : Blk Wf (w.heap.size + 1 + 1) 81 #[.int .i64 0, .int .i64 0, .int .i64 0, .int .i64 0, .int .i64 0, .int .i64 0, .int .i64 0, .int .i64 0] := by rw [← hWf]; exact ((HB2.out.set8 _ _ _ _ _ _ _ _).alloc _).drew
  have hBf : Below w.heap.size w Wf := by
    rw [← hWf]
    exact ((below_set8 HBW.out (by omega) _ _ _ _ _ _ _ _).alloc (by rw [size_set8]; exact HBW.out.size) _).drew
  obtain ⟨d0, d1, d2, d3, d4, d5, d6, d7⟩ := results8 D
  exact bodyPost_ret (v := .tuple #[.agg #[.int .i64 0, .int .i64 0, .int .i64 0, .int .i64 0, .int .i64 0, .int .i64 0, .int .i64 0, .int .i64 0], .int .i64 E]) (by simp [results, Tryz.results60, go_sem, d0, d1, d2, d3, d4, d5, d6, d7]) rfl ⟨rfl, hBf⟩

set_option maxHeartbeats 8000000 in
set_option maxRecDepth 100000 in
theorem Weighted_good (s0 s1 s2 s3 s4 s5 s6 s7 w0 w1 w2 w3 w4 w5 w6 w7 : Int) (w : World) (hgood : weightedErr [s0, s1, s2, s3, s4, s5, s6, s7] [w0, w1, w2, w3, w4, w5, w6, w7] = 0) :
    Calls Tryz.prog 60 #[.agg #[.int .i64 s0, .int .i64 s1, .int .i64 s2, .int .i64 s3, .int .i64 s4, .int .i64 s5, .int .i64 s6, .int .i64 s7], .agg #[.int .i64 w0, .int .i64 w1, .int .i64 w2, .int .i64 w3, .int .i64 w4, .int .i64 w5, .int .i64 w6, .int .i64 w7]] w fun e w' => e = .returned (.tuple #[.agg #[.int .i64 (wgt s0 w0), .int .i64 (wgt s1 w1), .int .i64 (wgt s2 w2), .int .i64 (wgt s3 w3), .int .i64 (wgt s4 w4), .int .i64 (wgt s5 w5), .int .i64 (wgt s6 w6), .int .i64 (wgt s7 w7)], .int .i64 0]) ∧ Below w.heap.size w w' := by
  have hz := firstE2_zero hgood
  have HS : Hid (∀ i, i < 8 → 0 ≤ [s0, s1, s2, s3, s4, s5, s6, s7].getD i 0 ∧ [s0, s1, s2, s3, s4, s5, s6, s7].getD i 0 ≤ 10000000000000) := fun i hi => withinE_zero (firstInE_zero hz.1 i hi)
  have HV : Hid (∀ i, i < 8 → 0 ≤ [w0, w1, w2, w3, w4, w5, w6, w7].getD i 0 ∧ [w0, w1, w2, w3, w4, w5, w6, w7].getD i 0 ≤ 1000) := fun i hi => withinE_zero (firstInE_zero hz.2 i hi)
  obtain ⟨E, hE⟩ : ∃ E : Int, E = 0 := ⟨_, rfl⟩
  have HE : Hid (E = weightedErr [s0, s1, s2, s3, s4, s5, s6, s7] [w0, w1, w2, w3, w4, w5, w6, w7]) := hE.trans hgood.symm
  have h1 : (E != 0) = false := by simp [hE]
  clear hE hgood hz
  go_enter Tryz.func60, Tryz.ntmps60
  go_wp2_with fail
  obtain ⟨W0, hW0⟩ : ∃ W0, W0 = (((w.alloc (.cells #[.int .i64 s0, .int .i64 s1, .int .i64 s2, .int .i64 s3, .int .i64 s4, .int .i64 s5, .int .i64 s6, .int .i64 s7] 81)).alloc (.cells #[.int .i64 w0, .int .i64 w1, .int .i64 w2, .int .i64 w3, .int .i64 w4, .int .i64 w5, .int .i64 w6, .int .i64 w7] 80)).alloc (.cells #[.int .i64 0, .int .i64 0, .int .i64 0, .int .i64 0, .int .i64 0, .int .i64 0, .int .i64 0, .int .i64 0] 81)) := ⟨_, rfl⟩
  rw [← hW0]
  have B0 : Blk W0 w.heap.size 81 #[.int .i64 s0, .int .i64 s1, .int .i64 s2, .int .i64 s3, .int .i64 s4, .int .i64 s5, .int .i64 s6, .int .i64 s7] := by rw [hW0]; exact ((Blk.new w _ _).alloc _).alloc _
  have B1 : Blk W0 (w.heap.size + 1) 80 #[.int .i64 w0, .int .i64 w1, .int .i64 w2, .int .i64 w3, .int .i64 w4, .int .i64 w5, .int .i64 w6, .int .i64 w7] := by rw [hW0]; simpa using (Blk.new (w.alloc (.cells #[.int .i64 s0, .int .i64 s1, .int .i64 s2, .int .i64 s3, .int .i64 s4, .int .i64 s5, .int .i64 s6, .int .i64 s7] 81)) 80 #[.int .i64 w0, .int .i64 w1, .int .i64 w2, .int .i64 w3, .int .i64 w4, .int .i64 w5, .int .i64 w6, .int .i64 w7]).alloc (.cells #[.int .i64 0, .int .i64 0, .int .i64 0, .int .i64 0, .int .i64 0, .int .i64 0, .int .i64 0, .int .i64 0] 81)
  have B2 : Blk W0 (w.heap.size + 1 + 1) 81 #[.int .i64 0, .int .i64 0, .int .i64 0, .int .i64 0, .int .i64 0, .int .i64 0, .int .i64 0, .int .i64 0] := by rw [hW0]; simpa using Blk.new ((w.alloc (.cells #[.int .i64 s0, .int .i64 s1, .int .i64 s2, .int .i64 s3, .int .i64 s4, .int .i64 s5, .int .i64 s6, .int .i64 s7] 81)).alloc (.cells #[.int .i64 w0, .int .i64 w1, .int .i64 w2, .int .i64 w3, .int .i64 w4, .int .i64 w5, .int .i64 w6, .int .i64 w7] 80)) 81 #[.int .i64 0, .int .i64 0, .int .i64 0, .int .i64 0, .int .i64 0, .int .i64 0, .int .i64 0, .int .i64 0]
  have hB : Below w.heap.size w W0 := by rw [hW0]; exact (((Below.refl _ w).alloc (Nat.le_refl _) _).alloc (by simp) _).alloc (by simp; omega) _
  have I0 : Hid (IntsAt W0.drew (some ⟨w.heap.size, 0, none⟩) 8 [s0, s1, s2, s3, s4, s5, s6, s7]) := IntsAt.of8 B0.drew
  have I1 : Hid (IntsAt W0.drew (some ⟨w.heap.size + 1, 0, none⟩) 8 [w0, w1, w2, w3, w4, w5, w6, w7]) := IntsAt.of8 B1.drew
  have HB2 := Lib.hid B2
  have HBW := Lib.hid hB
  have sz2 := lt_of_block B2
  have HB0 := Lib.hid B0
  have HB1 := Lib.hid B1
  clear hB hW0 B0 B1 B2
  refine wp_region_still_tail 4 (by kernel_rfl) (by kernel_rfl) ?_
  simp only [List.take_succ_cons, List.take_zero, List.drop_succ_cons, List.drop_zero]
  change wpStill _ _ (World.drew _) _ _ _
  repeat still_step
  still_call (firstIn_st _ checkEnergyE _ _ _ [s0, s1, s2, s3, s4, s5, s6, s7] _ (by decide) enters_checkEnergy checkEnergy_any I0.out)
  repeat still_step
  still_call (firstIn_st _ checkFactorE _ _ _ [w0, w1, w2, w3, w4, w5, w6, w7] _ (by decide) enters_checkFactor checkFactor_any I1.out)
  repeat still_step
  refine wpStill_nil ?_
  change wpList _ _ _ _ _ (World.drew _)
  go_wp2_with fail
  refine (first2 _ _ (firstInE checkEnergyE [s0, s1, s2, s3, s4, s5, s6, s7]) (firstInE checkFactorE [w0, w1, w2, w3, w4, w5, w6, w7]) _ (by go_simp) (by go_simp)).mono ?_
  rw [show firstE [firstInE checkEnergyE [s0, s1, s2, s3, s4, s5, s6, s7], firstInE checkFactorE [w0, w1, w2, w3, w4, w5, w6, w7]] = E from HE.out.symm]
  rintro e w' ⟨rfl, rfl⟩
  go_wp2_with fail
  obtain ⟨W1, hW1⟩ : ∃ W1, W1 = ((W0.alloc (.cells #[.int .i64 (firstInE checkEnergyE [s0, s1, s2, s3, s4, s5, s6, s7]), .int .i64 (firstInE checkFactorE [w0, w1, w2, w3, w4, w5, w6, w7])] 27)).alloc (.cells #[.int .i64 0, .int .i64 0, .int .i64 0, .int .i64 0, .int .i64 0, .int .i64 0, .int .i64 0, .int .i64 0] 81)).drew := ⟨_, rfl⟩
  rw [← hW1]
  obtain ⟨g7, hg7⟩ : ∃ g, g = W0.heap.size + 1 := ⟨_, rfl⟩
  rw [← hg7]
  have szw := HBW.out.size
  have A0 : Blk W1 w.heap.size 81 #[.int .i64 s0, .int .i64 s1, .int .i64 s2, .int .i64 s3, .int .i64 s4, .int .i64 s5, .int .i64 s6, .int .i64 s7] := by rw [hW1]; exact ((HB0.out.alloc _).alloc _).drew
  have A1 : Blk W1 (w.heap.size + 1) 80 #[.int .i64 w0, .int .i64 w1, .int .i64 w2, .int .i64 w3, .int .i64 w4, .int .i64 w5, .int .i64 w6, .int .i64 w7] := by rw [hW1]; exact ((HB1.out.alloc _).alloc _).drew
  have A2 : Blk W1 (w.heap.size + 1 + 1) 81 #[.int .i64 0, .int .i64 0, .int .i64 0, .int .i64 0, .int .i64 0, .int .i64 0, .int .i64 0, .int .i64 0] := by rw [hW1]; exact ((HB2.out.alloc _).alloc _).drew
  have A7 : Blk W1 g7 81 #[.int .i64 0, .int .i64 0, .int .i64 0, .int .i64 0, .int .i64 0, .int .i64 0, .int .i64 0, .int .i64 0] := by rw [hW1, hg7]; simpa using (Blk.new (W0.alloc (.cells #[.int .i64 (firstInE checkEnergyE [s0, s1, s2, s3, s4, s5, s6, s7]), .int .i64 (firstInE checkFactorE [w0, w1, w2, w3, w4, w5, w6, w7])] 27)) 81 #[.int .i64 0, .int .i64 0, .int .i64 0, .int .i64 0, .int .i64 0, .int .i64 0, .int .i64 0, .int .i64 0]).drew
  have hBW1 : Hid (Below w.heap.size w W1) := by rw [hW1]; exact ((HBW.out.alloc HBW.out.size _).alloc (by simp; omega) _).drew
  have g7a : w.heap.size + 1 + 1 < g7 := by omega
  have HA0 := Lib.hid A0
  have HA1 := Lib.hid A1
  have HA2 := Lib.hid A2
  have HA7 := Lib.hid A7
  clear hW1 hg7 A0 A1 A2 A7 sz2
  refine wp_region_still_tail 2 (by kernel_rfl) (by kernel_rfl) ?_
  simp only [List.take_succ_cons, List.take_zero, List.drop_succ_cons, List.drop_zero]
  change wpStill _ _ (World.drew _) _ _ _
  repeat still_step
  refine wpStill_nil ?_
  change wpList _ _ _ _ _ (World.drew _)
  refine wpList_copy_splice rfl (.tmp 20) (.tmp 21) 26 26 rfl 3 Tryz.underlying26 (by kernel_rfl) (some ⟨g7, 0, none⟩) (some ⟨w.heap.size, 0, none⟩) 8 8 8 8 rfl rfl g7 0 [.int .i64 0, .int .i64 0, .int .i64 0, .int .i64 0, .int .i64 0, .int .i64 0, .int .i64 0, .int .i64 0] 81 HA7.out [.int .i64 s0, .int .i64 s1, .int .i64 s2, .int .i64 s3, .int .i64 s4, .int .i64 s5, .int .i64 s6, .int .i64 s7] rfl
    (fun _ => ⟨rfl, ⟨w.heap.size, 0, none⟩, rfl, fun j v hj => ?_⟩) (by simp) (fun v hv => ?_) g7 W1 ((Below.refl _ _).drew) (Nat.le_refl _) ?_
  · have h8 : j < 8 := by
      rcases Nat.lt_or_ge j 8 with h | h
      · exact h
      · simp [List.getElem?_eq_none (show ([.int .i64 s0, .int .i64 s1, .int .i64 s2, .int .i64 s3, .int .i64 s4, .int .i64 s5, .int .i64 s6, .int .i64 s7] : List Value).length ≤ j from h)] at hj
    have := HA0.out.drew.cell j
    rw [show (⟨w.heap.size, 0, none⟩ : Addr).add j = ⟨w.heap.size, j, none⟩ from by unfold Addr.add; split <;> simp_all, this, ← hj]
    simp
  · simp at hv
    rcases hv with rfl | rfl | rfl | rfl | rfl | rfl | rfl | rfl <;> rfl
  intro W2 hcur hb2
  have E7 : Blk W2 g7 81 (arrK [s0, s1, s2, s3, s4, s5, s6, s7] [w0, w1, w2, w3, w4, w5, w6, w7] 0) := hcur.out
  have HE7 := Lib.hid E7
  have HB7 := Lib.hid hb2
  have E1 := (hb2.block (w.heap.size + 1) (by omega)).trans HA1.out
  have B1z : Blk W2 (w.heap.size + 1) 80 #[.int .i64 w0, .int .i64 w1, .int .i64 w2, .int .i64 w3, .int .i64 w4, .int .i64 w5, .int .i64 w6, .int .i64 w7] := E1
  clear hcur hb2 E7 E1
  have yc0 := B1z.cell 0; have yf0 := B1z.frozen 0; have yc1 := B1z.cell 1; have yf1 := B1z.frozen 1; have yc2 := B1z.cell 2; have yf2 := B1z.frozen 2; have yc3 := B1z.cell 3; have yf3 := B1z.frozen 3; have yc4 := B1z.cell 4; have yf4 := B1z.frozen 4; have yc5 := B1z.cell 5; have yf5 := B1z.frozen 5; have yc6 := B1z.cell 6; have yf6 := B1z.frozen 6; have yc7 := B1z.cell 7; have yf7 := B1z.frozen 7
  simp only [List.getElem?_toArray, List.getElem?_cons_zero, List.getElem?_cons_succ] at yc0 yc1 yc2 yc3 yc4 yc5 yc6 yc7
  clear B1z
  go_wp2
  clear yc0 yc1 yc2 yc3 yc4 yc5 yc6 yc7 yf0 yf1 yf2 yf3 yf4 yf5 yf6 yf7
  obtain ⟨S, hS⟩ : ∃ S, S = [s0, s1, s2, s3, s4, s5, s6, s7] := ⟨_, rfl⟩
  obtain ⟨V, hV⟩ : ∃ V, V = [w0, w1, w2, w3, w4, w5, w6, w7] := ⟨_, rfl⟩
  rw [← hS] at HE7 HS
  rw [← hV] at HE7 HV
  have hix : Hid (∀ (k : Nat), k < 8 → ∀ W : World, (Instr.index 80 (.agg #[.int .i64 w0, .int .i64 w1, .int .i64 w2, .int .i64 w3, .int .i64 w4, .int .i64 w5, .int .i64 w6, .int .i64 w7]) (.int .i64 (k : Int))).run Tryz.prog W = .ok (.int .i64 (V.getD k 0)) W) := by
    intro k hk W
    rw [hV]
    exact index8 k hk w0 w1 w2 w3 w4 w5 w6 w7 W
  have HSS := Lib.hid hS
  have HVV := Lib.hid hV
  clear hS hV
  go_loopw [8, 9, 24] (fun _ _ i wr => ∃ k : Nat, k ≤ 8 ∧ i = .int .i64 k ∧ Blk wr g7 81 (arrK S V k) ∧ Below g7 W1 wr) (fun _ _ i _ => 8 - (intOf i).toNat)
  case atStart => exact ⟨0, Nat.zero_le _, rfl, HE7.out, HB7.out⟩
  case round =>
    clear HE7 HB7
    obtain ⟨k, hk, rfl, hblk, hbw⟩ := hrel
    have HK := Lib.hid hblk
    have HB := Lib.hid hbw
    by_cases hlt : k < 8
    · have ck : wr.cell? ⟨g7, k, none⟩ = some (.int .i64 (S.getD k 0)) := by
        rw [hblk.cell k, arrK_at S V k k hlt, mix, if_neg (by omega)]
      have fk := hblk.frozen k
      have h0 := HS.out k hlt
      have h00 := HV.out k hlt
      have hi := hix.out k hlt
      have HX : Hid (wgt (S.getD k 0) (V.getD k 0) = roundE (S.getD k 0 * V.getD k 0) 1000) := rfl
      obtain ⟨x, hx⟩ : ∃ x, x = S.getD k 0 := ⟨_, rfl⟩
      obtain ⟨v, hv⟩ : ∃ v, v = V.getD k 0 := ⟨_, rfl⟩
      rw [← hx] at ck h0 HX
      rw [← hv] at h00 hi HX
      have HXX := Lib.hid hx
      have HVX := Lib.hid hv
      have m1 := mul_bd h0.1 h0.2 h00.1
      obtain ⟨m11, m12⟩ := m1
      obtain ⟨v1, v2⟩ := h00
      clear hx hv h0 hblk hbw
      go_wp2_with fail
      refine (rounded_any (x * v) 1000 _ m11 (by omega) (by decide) (by decide)).mono ?_
      rintro e w' ⟨rfl, rfl⟩
      go_wp2
      go_roundw
      case rel =>
        refine ⟨k + 1, by omega, by go_num, ?_, HB.out.setCell (p := ⟨g7, k, none⟩) (Nat.le_refl _) _⟩
        have := HK.out.set_ k (.int .i64 (wgt x v))
        rw [HXX.out, HVX.out, arrK_set] at this
        rw [← HX.out, HXX.out, HVX.out]
        exact this
      case measure => simp [intOf]; omega
    · obtain rfl : k = 8 := by omega
      have D7 : Blk wr g7 81 #[.int .i64 (wgt s0 w0), .int .i64 (wgt s1 w1), .int .i64 (wgt s2 w2), .int .i64 (wgt s3 w3), .int .i64 (wgt s4 w4), .int .i64 (wgt s5 w5), .int .i64 (wgt s6 w6), .int .i64 (wgt s7 w7)] := by rw [HSS.out, HVV.out] at hblk; exact hblk
      have D2 : Blk wr (w.heap.size + 1 + 1) 81 #[.int .i64 0, .int .i64 0, .int .i64 0, .int .i64 0, .int .i64 0, .int .i64 0, .int .i64 0, .int .i64 0] := (hbw.block _ g7a).trans HA2.out
      have HD2 := Lib.hid D2
      clear hblk hbw
      have xc0 := D7.cell 0; have xf0 := D7.frozen 0; have xc1 := D7.cell 1; have xf1 := D7.frozen 1; have xc2 := D7.cell 2; have xf2 := D7.frozen 2; have xc3 := D7.cell 3; have xf3 := D7.frozen 3; have xc4 := D7.cell 4; have xf4 := D7.frozen 4; have xc5 := D7.cell 5; have xf5 := D7.frozen 5; have xc6 := D7.cell 6; have xf6 := D7.frozen 6; have xc7 := D7.cell 7; have xf7 := D7.frozen 7
      simp only [List.getElem?_toArray, List.getElem?_cons_zero, List.getElem?_cons_succ] at xc0 xc1 xc2 xc3 xc4 xc5 xc6 xc7
      clear D7
      have zc0 := D2.cell 0; have zf0 := D2.frozen 0; have zc1 := D2.cell 1; have zf1 := D2.frozen 1; have zc2 := D2.cell 2; have zf2 := D2.frozen 2; have zc3 := D2.cell 3; have zf3 := D2.frozen 3; have zc4 := D2.cell 4; have zf4 := D2.frozen 4; have zc5 := D2.cell 5; have zf5 := D2.frozen 5; have zc6 := D2.cell 6; have zf6 := D2.frozen 6; have zc7 := D2.cell 7; have zf7 := D2.frozen 7
      simp only [List.getElem?_toArray, List.getElem?_cons_zero, List.getElem?_cons_succ] at zc0 zc1 zc2 zc3 zc4 zc5 zc6 zc7
      clear D2
      go_wp2
      generalize hWf : World.setCell _ _ _ = Wf
      have D : Blk Wf (w.heap.size + 1 + 1) 81 #[.int .i64 (wgt s0 w0), .int .i64 (wgt s1 w1), .int .i64 (wgt s2 w2), .int .i64 (wgt s3 w3), .int .i64 (wgt s4 w4), .int .i64 (wgt s5 w5), .int .i64 (wgt s6 w6), .int .i64 (wgt s7 w7)] := by rw [← hWf]; exact HD2.out.set8 _ _ _ _ _ _ _ _
      have hBf : Below w.heap.size w Wf := by
        rw [← hWf]
        exact below_set8 (hBW1.out.trans (HB.out.mono (by omega))) (by omega) _ _ _ _ _ _ _ _
      obtain ⟨d0, d1, d2, d3, d4, d5, d6, d7⟩ := results8 D
      exact bodyPost_ret (v := .tuple #[.agg #[.int .i64 (wgt s0 w0), .int .i64 (wgt s1 w1), .int .i64 (wgt s2 w2), .int .i64 (wgt s3 w3), .int .i64 (wgt s4 w4), .int .i64 (wgt s5 w5), .int .i64 (wgt s6 w6), .int .i64 (wgt s7 w7)], .int .i64 0]) (by simp [results, Tryz.results60, go_sem, d0, d1, d2, d3, d4, d5, d6, d7]) rfl ⟨rfl, hBf⟩

end Go.Proofs.YtoipafnlcchmbaaGreatDoor
namespace Go.Proofs.YtoipafnlcchmbaaGreatDoor
open Go.RowKit

theorem refRound_st (n d : Int) (w : World) (h1 : 0 ≤ n) (h2 : n ≤ 4000000000000000000) (h3 : 1 ≤ d) (h4 : d ≤ 1000000) :
    Calls Tryz.prog 122 #[.int .i64 n, .int .i64 d] w fun e w' => e = .returned (.int .i64 (roundE n d)) ∧ w' = w :=
  (refRound_any n d w h1 h2 h3 h4).mono fun _ _ ⟨h, e⟩ => ⟨h, e.symm⟩

set_option maxHeartbeats 8000000 in
set_option maxRecDepth 100000 in
theorem refWeighted_any (s0 s1 s2 s3 s4 s5 s6 s7 w0 w1 w2 w3 w4 w5 w6 w7 : Int) (w : World) (hgood : weightedErr [s0, s1, s2, s3, s4, s5, s6, s7] [w0, w1, w2, w3, w4, w5, w6, w7] = 0) :
    Calls Tryz.prog 65 #[.agg #[.int .i64 s0, .int .i64 s1, .int .i64 s2, .int .i64 s3, .int .i64 s4, .int .i64 s5, .int .i64 s6, .int .i64 s7], .agg #[.int .i64 w0, .int .i64 w1, .int .i64 w2, .int .i64 w3, .int .i64 w4, .int .i64 w5, .int .i64 w6, .int .i64 w7]] w fun e w' => e = .returned (.agg #[.int .i64 (wgt s0 w0), .int .i64 (wgt s1 w1), .int .i64 (wgt s2 w2), .int .i64 (wgt s3 w3), .int .i64 (wgt s4 w4), .int .i64 (wgt s5 w5), .int .i64 (wgt s6 w6), .int .i64 (wgt s7 w7)]) ∧ Below w.heap.size w w' := by
  have hz := firstE2_zero hgood
  have HS : Hid (∀ i, i < 8 → 0 ≤ [s0, s1, s2, s3, s4, s5, s6, s7].getD i 0 ∧ [s0, s1, s2, s3, s4, s5, s6, s7].getD i 0 ≤ 10000000000000) := fun i hi => withinE_zero (firstInE_zero hz.1 i hi)
  have HV : Hid (∀ i, i < 8 → 0 ≤ [w0, w1, w2, w3, w4, w5, w6, w7].getD i 0 ∧ [w0, w1, w2, w3, w4, w5, w6, w7].getD i 0 ≤ 1000) := fun i hi => withinE_zero (firstInE_zero hz.2 i hi)
  clear hgood hz
  go_enter Tryz.func65, Tryz.ntmps65
  go_wp2_with fail
  obtain ⟨W0, hW0⟩ : ∃ W0, W0 = (((w.alloc (.cells #[.int .i64 s0, .int .i64 s1, .int .i64 s2, .int .i64 s3, .int .i64 s4, .int .i64 s5, .int .i64 s6, .int .i64 s7] 81)).alloc (.cells #[.int .i64 w0, .int .i64 w1, .int .i64 w2, .int .i64 w3, .int .i64 w4, .int .i64 w5, .int .i64 w6, .int .i64 w7] 80)).alloc (.cells #[.int .i64 0, .int .i64 0, .int .i64 0, .int .i64 0, .int .i64 0, .int .i64 0, .int .i64 0, .int .i64 0] 81)) := ⟨_, rfl⟩
  rw [← hW0]
  have B0 : Blk W0 w.heap.size 81 #[.int .i64 s0, .int .i64 s1, .int .i64 s2, .int .i64 s3, .int .i64 s4, .int .i64 s5, .int .i64 s6, .int .i64 s7] := by rw [hW0]; exact ((Blk.new w _ _).alloc _).alloc _
  have B1 : Blk W0 (w.heap.size + 1) 80 #[.int .i64 w0, .int .i64 w1, .int .i64 w2, .int .i64 w3, .int .i64 w4, .int .i64 w5, .int .i64 w6, .int .i64 w7] := by rw [hW0]; simpa using (Blk.new (w.alloc (.cells #[.int .i64 s0, .int .i64 s1, .int .i64 s2, .int .i64 s3, .int .i64 s4, .int .i64 s5, .int .i64 s6, .int .i64 s7] 81)) 80 #[.int .i64 w0, .int .i64 w1, .int .i64 w2, .int .i64 w3, .int .i64 w4, .int .i64 w5, .int .i64 w6, .int .i64 w7]).alloc (.cells #[.int .i64 0, .int .i64 0, .int .i64 0, .int .i64 0, .int .i64 0, .int .i64 0, .int .i64 0, .int .i64 0] 81)
  have B2 : Blk W0 (w.heap.size + 1 + 1) 81 #[.int .i64 0, .int .i64 0, .int .i64 0, .int .i64 0, .int .i64 0, .int .i64 0, .int .i64 0, .int .i64 0] := by rw [hW0]; simpa using Blk.new ((w.alloc (.cells #[.int .i64 s0, .int .i64 s1, .int .i64 s2, .int .i64 s3, .int .i64 s4, .int .i64 s5, .int .i64 s6, .int .i64 s7] 81)).alloc (.cells #[.int .i64 w0, .int .i64 w1, .int .i64 w2, .int .i64 w3, .int .i64 w4, .int .i64 w5, .int .i64 w6, .int .i64 w7] 80)) 81 #[.int .i64 0, .int .i64 0, .int .i64 0, .int .i64 0, .int .i64 0, .int .i64 0, .int .i64 0, .int .i64 0]
  have hB : Below w.heap.size w W0 := by rw [hW0]; exact (((Below.refl _ w).alloc (Nat.le_refl _) _).alloc (by simp) _).alloc (by simp; omega) _
  have E0 : Blk W0 w.heap.size 81 (arrK [s0, s1, s2, s3, s4, s5, s6, s7] [w0, w1, w2, w3, w4, w5, w6, w7] 0) := B0
  have I1 : IntsAt W0 (some ⟨w.heap.size + 1, 0, none⟩) 8 [w0, w1, w2, w3, w4, w5, w6, w7] := IntsAt.of8 B1
  obtain ⟨S, hS⟩ : ∃ S, S = [s0, s1, s2, s3, s4, s5, s6, s7] := ⟨_, rfl⟩
  obtain ⟨V, hV⟩ : ∃ V, V = [w0, w1, w2, w3, w4, w5, w6, w7] := ⟨_, rfl⟩
  rw [← hS] at E0 HS
  rw [← hV] at E0 HV I1
  have HSS := Lib.hid hS
  have HVV := Lib.hid hV
  have HE0 := Lib.hid E0
  have HI1 := Lib.hid I1
  have HB2 := Lib.hid B2
  have HBW := Lib.hid hB
  clear hS hV hB hW0 B0 B1 B2 E0 I1
  go_loopw [5] (fun i wr => ∃ k : Nat, k ≤ 8 ∧ i = .int .i64 k ∧ Blk wr w.heap.size 81 (arrK S V k) ∧ IntsAt wr (some ⟨w.heap.size + 1, 0, none⟩) 8 V ∧ Blk wr (w.heap.size + 1 + 1) 81 #[.int .i64 0, .int .i64 0, .int .i64 0, .int .i64 0, .int .i64 0, .int .i64 0, .int .i64 0, .int .i64 0] ∧ Below w.heap.size w wr) (fun i _ => 8 - (intOf i).toNat)
  case atStart => exact ⟨0, Nat.zero_le _, rfl, HE0.out, HI1.out, HB2.out, HBW.out⟩
  case round =>
    clear HE0 HI1 HB2 HBW
    obtain ⟨k, hk, rfl, hblk, hI1, hb2, hbw⟩ := hrel
    have HK := Lib.hid hblk
    have HB := Lib.hid hbw
    have HB2 := Lib.hid hb2
    have HI := Lib.hid hI1
    by_cases hlt : k < 8
    · obtain ⟨b, off, hbo, hcc⟩ := hI1.2 (by omega)
      simp only [Option.some.injEq, Addr.mk.injEq, and_true] at hbo
      obtain ⟨rfl, rfl⟩ := hbo
      have cv := hcc k hlt
      rw [Nat.zero_add] at cv
      have ck : wr.cell? ⟨w.heap.size, k, none⟩ = some (.int .i64 (S.getD k 0)) := by
        rw [hblk.cell k, arrK_at S V k k hlt, mix, if_neg (by omega)]
      have fk := hblk.frozen k
      have h0 := HS.out k hlt
      have h00 := HV.out k hlt
      have HX : Hid (wgt (S.getD k 0) (V.getD k 0) = roundE (S.getD k 0 * V.getD k 0) 1000) := rfl
      obtain ⟨x, hx⟩ : ∃ x, x = S.getD k 0 := ⟨_, rfl⟩
      obtain ⟨v, hv⟩ : ∃ v, v = V.getD k 0 := ⟨_, rfl⟩
      rw [← hx] at ck h0 HX
      rw [← hv] at cv h00 HX
      have HXX := Lib.hid hx
      have HVX := Lib.hid hv
      have m1 := mul_bd h0.1 h0.2 h00.1
      obtain ⟨m11, m12⟩ := m1
      obtain ⟨v1, v2⟩ := h00
      have wr1 : IntKind.i64.wrap (x * v) = x * v := IntWalk.i64_in _ (by omega)
      have HM := Lib.hid (And.intro m11 (show x * v ≤ 4000000000000000000 by omega))
      have hk8 : (k : Int) < 8 := by omega
      clear hx hv h0 hblk hbw hb2 hcc hI1
      go_wp2_with fail
      refine wp_region_still_tail 10 (by kernel_rfl) (by kernel_rfl) ?_
      simp only [List.take_succ_cons, List.take_zero, List.drop_succ_cons, List.drop_zero]
      change wpStill _ _ (World.drew _) _ _ _
      repeat still_step
      still_call (refRound_st _ _ _ HM.out.1 HM.out.2 (by decide) (by decide))
      repeat still_step
      refine wpStill_nil ?_
      change wpList _ _ _ _ _ (World.drew _)
      clear wr1
      go_wp2
      go_roundw
      case rel =>
        refine ⟨k + 1, by omega, by go_num, ?_, ?_, ?_, ?_⟩
        · have := HK.out.set_ k (.int .i64 (wgt x v))
          rw [HXX.out, HVX.out, arrK_set] at this
          rw [← HX.out, HXX.out, HVX.out]
          exact this.drew
        · refine ⟨HI.out.1, fun _ => ⟨_, 0, rfl, fun i hi => ?_⟩⟩
          obtain ⟨b, off, hbo, hcc⟩ := HI.out.2 (by omega)
          simp only [Option.some.injEq, Addr.mk.injEq, and_true] at hbo
          obtain ⟨rfl, rfl⟩ := hbo
          have := hcc i hi
          show World.cell? (World.drew _) _ = _
          rw [show ∀ (W : World) (a : Addr), W.drew.cell? a = W.cell? a from fun _ _ => rfl, World.cell?_setCell_other _ _ _ _ (by simp)]
          exact this
        · exact (HB2.out.far (p := ⟨w.heap.size, k, none⟩) (by simp; omega) _).drew
        · exact (HB.out.setCell (p := ⟨w.heap.size, k, none⟩) (Nat.le_refl _) _).drew
      case measure => simp [intOf]; omega
    · obtain rfl : k = 8 := by omega
      have D7 : Blk wr w.heap.size 81 #[.int .i64 (wgt s0 w0), .int .i64 (wgt s1 w1), .int .i64 (wgt s2 w2), .int .i64 (wgt s3 w3), .int .i64 (wgt s4 w4), .int .i64 (wgt s5 w5), .int .i64 (wgt s6 w6), .int .i64 (wgt s7 w7)] := by rw [HSS.out, HVV.out] at hblk; exact hblk
      have D2 : Blk wr (w.heap.size + 1 + 1) 81 #[.int .i64 0, .int .i64 0, .int .i64 0, .int .i64 0, .int .i64 0, .int .i64 0, .int .i64 0, .int .i64 0] := hb2
      clear hblk hbw hb2 hI1
      have xc0 := D7.cell 0; have xf0 := D7.frozen 0; have xc1 := D7.cell 1; have xf1 := D7.frozen 1; have xc2 := D7.cell 2; have xf2 := D7.frozen 2; have xc3 := D7.cell 3; have xf3 := D7.frozen 3; have xc4 := D7.cell 4; have xf4 := D7.frozen 4; have xc5 := D7.cell 5; have xf5 := D7.frozen 5; have xc6 := D7.cell 6; have xf6 := D7.frozen 6; have xc7 := D7.cell 7; have xf7 := D7.frozen 7
      simp only [List.getElem?_toArray, List.getElem?_cons_zero, List.getElem?_cons_succ] at xc0 xc1 xc2 xc3 xc4 xc5 xc6 xc7
      clear D7
      have zc0 := D2.cell 0; have zf0 := D2.frozen 0; have zc1 := D2.cell 1; have zf1 := D2.frozen 1; have zc2 := D2.cell 2; have zf2 := D2.frozen 2; have zc3 := D2.cell 3; have zf3 := D2.frozen 3; have zc4 := D2.cell 4; have zf4 := D2.frozen 4; have zc5 := D2.cell 5; have zf5 := D2.frozen 5; have zc6 := D2.cell 6; have zf6 := D2.frozen 6; have zc7 := D2.cell 7; have zf7 := D2.frozen 7
      simp only [List.getElem?_toArray, List.getElem?_cons_zero, List.getElem?_cons_succ] at zc0 zc1 zc2 zc3 zc4 zc5 zc6 zc7
      clear D2
      go_wp2
      generalize hWf : World.setCell _ _ _ = Wf
      have D : Blk Wf (w.heap.size + 1 + 1) 81 #[.int .i64 (wgt s0 w0), .int .i64 (wgt s1 w1), .int .i64 (wgt s2 w2), .int .i64 (wgt s3 w3), .int .i64 (wgt s4 w4), .int .i64 (wgt s5 w5), .int .i64 (wgt s6 w6), .int .i64 (wgt s7 w7)] := by rw [← hWf]; exact HB2.out.set8 _ _ _ _ _ _ _ _
      have hBf : Below w.heap.size w Wf := by
        rw [← hWf]
        exact below_set8 HB.out (by omega) _ _ _ _ _ _ _ _
      obtain ⟨d0, d1, d2, d3, d4, d5, d6, d7⟩ := results8 D
      exact bodyPost_ret (v := .agg #[.int .i64 (wgt s0 w0), .int .i64 (wgt s1 w1), .int .i64 (wgt s2 w2), .int .i64 (wgt s3 w3), .int .i64 (wgt s4 w4), .int .i64 (wgt s5 w5), .int .i64 (wgt s6 w6), .int .i64 (wgt s7 w7)]) (by simp [results, Tryz.results65, go_sem, d0, d1, d2, d3, d4, d5, d6, d7]) rfl ⟨rfl, hBf⟩

end Go.Proofs.YtoipafnlcchmbaaGreatDoor
