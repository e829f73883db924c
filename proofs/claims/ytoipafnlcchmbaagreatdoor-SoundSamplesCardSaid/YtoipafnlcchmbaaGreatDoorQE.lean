/- What is left of an interval by factors. What is left, by the reference. -/
import Derived.Test.YtoipafnlcchmbaaGreatDoorQD
import Derived.Deep.RegionHeld3
namespace Go.Proofs.YtoipafnlcchmbaaGreatDoor
open Go.RowKit

def checkFactorE (n : Int) : Int := withinE n 0 1000
theorem checkFactor_st (x : Int) (w : World) :
    Calls Tryz.prog 133 #[.int .i64 x] w fun e w' => e = .returned (.int .i64 (checkFactorE x)) ∧ w' = w := by
  go_enter Tryz.func133, Tryz.ntmps133
  go_wp2_with fail
  refine (within_any _ _ _ _).mono ?_
  rintro e w' ⟨rfl, rfl⟩
  go_wp2
  go_ret
  exact ⟨rfl, rfl⟩
theorem enters_checkFactor (args : Array Value) (W : World) : (callFunc 133 args).run Tryz.prog W = .ok (.enter 133 args) W := by kernel_rfl

def ordE (low high : Int) : Int := if high < low then 11 else 0
def intervalE (f : Int → Int) (low high : Int) : Int := firstE [f low, f high, ordE low high]
theorem intervalE_ne {f : Int → Int} {low high : Int} (h : firstE [f low, f high] ≠ 0) : intervalE f low high = firstE [f low, f high] := by
  unfold intervalE
  rw [firstE_ne] at h ⊢
  simp only [firstE]
  split at h
  · rename_i h0
    rw [if_pos h0, if_neg h, if_pos h0]
  · rename_i h0
    rw [if_neg h0, if_neg h0]
theorem intervalE_eq {f : Int → Int} {low high : Int} (h : firstE [f low, f high] = 0) : intervalE f low high = ordE low high := by
  have h2 := firstE2_zero h
  unfold intervalE
  simp only [firstE, h2.1, h2.2, if_true]
  split <;> simp_all

set_option maxHeartbeats 1000000 in
set_option maxRecDepth 100000 in
theorem checkInterval_any (F : FuncId) (f : Int → Int) (low high : Int) (w : World)
    (hE : ∀ (args : Array Value) (W : World), (callFunc F args).run Tryz.prog W = .ok (.enter F args) W)
    (hF : ∀ (x : Int) (W : World), Calls Tryz.prog F #[.int .i64 x] W fun e w' => e = .returned (.int .i64 (f x)) ∧ w' = W) :
    Calls Tryz.prog 134 #[.agg #[.int .i64 low, .int .i64 high], .func (.func F) #[] #[]] w fun e w' => e = .returned (.int .i64 (intervalE f low high)) ∧ Below w.heap.size w w' := by
  have HF := Lib.hid hF
  clear hF
  obtain ⟨E, hEE⟩ : ∃ E, E = firstE [f low, f high] := ⟨_, rfl⟩
  have HE := Lib.hid hEE
  clear hEE
  by_cases h : E = 0
  · have h1 : (E != 0) = false := by simp [h]
    have r := Lib.hid (intervalE_eq (HE.out.symm.trans h))
    rw [r.out]
    clear h
    by_cases ho : high < low
    · have r2 : Hid (ordE low high = 11) := by show _ = _; unfold ordE; rw [if_pos ho]
      rw [r2.out]
      go_enter Tryz.func134, Tryz.ntmps134
      go_wp2_with fail
      refine wp_region_still_tail 8 (by kernel_rfl) (by kernel_rfl) ?_
      simp only [List.take_succ_cons, List.take_zero, List.drop_succ_cons, List.drop_zero]
      change wpStill _ _ (World.drew _) _ _ _
      repeat still_step
      still_call (HF.out _ _)
      repeat still_step
      still_call (HF.out _ _)
      repeat still_step
      refine wpStill_nil ?_
      change wpList _ _ _ _ _ (World.drew _)
      go_wp2_with fail
      refine (first2 _ _ (f low) (f high) _ (by go_simp) (by go_simp)).mono ?_
      rw [← HE.out]
      rintro x w' ⟨rfl, rfl⟩
      go_wp2
      go_ret
      exact ⟨rfl, ((((Below.refl _ _).alloc (Nat.le_refl _) _).alloc (by simp) _).drew)⟩
    · have r2 : Hid (ordE low high = 0) := by show _ = _; unfold ordE; rw [if_neg ho]
      rw [r2.out]
      go_enter Tryz.func134, Tryz.ntmps134
      go_wp2_with fail
      refine wp_region_still_tail 8 (by kernel_rfl) (by kernel_rfl) ?_
      simp only [List.take_succ_cons, List.take_zero, List.drop_succ_cons, List.drop_zero]
      change wpStill _ _ (World.drew _) _ _ _
      repeat still_step
      still_call (HF.out _ _)
      repeat still_step
      still_call (HF.out _ _)
      repeat still_step
      refine wpStill_nil ?_
      change wpList _ _ _ _ _ (World.drew _)
      go_wp2_with fail
      refine (first2 _ _ (f low) (f high) _ (by go_simp) (by go_simp)).mono ?_
      rw [← HE.out]
      rintro x w' ⟨rfl, rfl⟩
      go_wp2
      go_ret
      exact ⟨rfl, ((((Below.refl _ _).alloc (Nat.le_refl _) _).alloc (by simp) _).drew)⟩
  · have h1 : (E != 0) = true := by simp [h]
    have r : Hid (intervalE f low high = E) := by show _ = _; rw [intervalE_ne (by rw [← HE.out]; exact h)]; exact HE.out.symm
    rw [r.out]
    clear h
    go_enter Tryz.func134, Tryz.ntmps134
    go_wp2_with fail
    refine wp_region_still_tail 8 (by kernel_rfl) (by kernel_rfl) ?_
    simp only [List.take_succ_cons, List.take_zero, List.drop_succ_cons, List.drop_zero]
    change wpStill _ _ (World.drew _) _ _ _
    repeat still_step
    still_call (HF.out _ _)
    repeat still_step
    still_call (HF.out _ _)
    repeat still_step
    refine wpStill_nil ?_
    change wpList _ _ _ _ _ (World.drew _)
    go_wp2_with fail
    refine (first2 _ _ (f low) (f high) _ (by go_simp) (by go_simp)).mono ?_
    rw [← HE.out]
    rintro x w' ⟨rfl, rfl⟩
    go_wp2
    go_ret
    exact ⟨rfl, ((((Below.refl _ _).alloc (Nat.le_refl _) _).alloc (by simp) _).drew)⟩

def throughErr (el eh fl fh : Int) : Int := firstE [intervalE checkEnergyE el eh, intervalE checkFactorE fl fh]
def throughLow (el eh fl fh : Int) : Int := if throughErr el eh fl fh = 0 then el * fl / 1000 else 0
def throughHigh (el eh fl fh : Int) : Int := if throughErr el eh fl fh = 0 then (eh * fh + 999) / 1000 else 0

theorem checkEnergyE_zero {e : Int} (h : checkEnergyE e = 0) : 0 ≤ e ∧ e ≤ 10000000000000 := withinE_zero h
theorem checkFactorE_zero {e : Int} (h : checkFactorE e = 0) : 0 ≤ e ∧ e ≤ 1000 := withinE_zero h
theorem intervalE_zero {f : Int → Int} {low high : Int} (h : intervalE f low high = 0) : f low = 0 ∧ f high = 0 ∧ low ≤ high := by
  have h2 := firstE_zero h
  refine ⟨h2 _ (by simp), h2 _ (by simp), ?_⟩
  have := h2 (ordE low high) (by simp)
  unfold ordE at this
  split at this <;> omega

set_option maxHeartbeats 4000000 in
set_option maxRecDepth 100000 in
theorem Through_any (el eh fl fh : Int) (w : World) :
    Calls Tryz.prog 61 #[.agg #[.int .i64 el, .int .i64 eh], .agg #[.int .i64 fl, .int .i64 fh]] w fun e w' => e = .returned (.tuple #[.agg #[.int .i64 (throughLow el eh fl fh), .int .i64 (throughHigh el eh fl fh)], .int .i64 (throughErr el eh fl fh)]) ∧ Below w.heap.size w w' := by
  obtain ⟨E, hE⟩ : ∃ E, E = throughErr el eh fl fh := ⟨_, rfl⟩
  have HE := Lib.hid hE
  rw [← hE]
  clear hE
  have hcase : (E = 0 ∧ throughLow el eh fl fh = el * fl / 1000 ∧ throughHigh el eh fl fh = (eh * fh + 999) / 1000) ∨ (E ≠ 0 ∧ throughLow el eh fl fh = 0 ∧ throughHigh el eh fl fh = 0) := by
    by_cases h : E = 0
    · exact .inl ⟨h, by unfold throughLow; rw [if_pos (HE.out.symm.trans h)], by unfold throughHigh; rw [if_pos (HE.out.symm.trans h)]⟩
    · exact .inr ⟨h, by unfold throughLow; rw [if_neg (by rw [← HE.out]; exact h)], by unfold throughHigh; rw [if_neg (by rw [← HE.out]; exact h)]⟩
  have HC := Lib.hid hcase
  clear hcase
  go_enter Tryz.func61, Tryz.ntmps61
  go_wp2_with fail
  obtain ⟨W0, hW0⟩ : ∃ W0, W0 = (((w.alloc (.cells #[.int .i64 el, .int .i64 eh] 49)).alloc (.cells #[.int .i64 fl, .int .i64 fh] 49)).alloc (.cells #[.int .i64 0, .int .i64 0] 49)) := ⟨_, rfl⟩
  rw [← hW0]
  have B0 : Blk W0 w.heap.size 49 #[.int .i64 el, .int .i64 eh] := by rw [hW0]; exact ((Blk.new w _ _).alloc _).alloc _
  have B1 : Blk W0 (w.heap.size + 1) 49 #[.int .i64 fl, .int .i64 fh] := by rw [hW0]; simpa using (Blk.new (w.alloc (.cells #[.int .i64 el, .int .i64 eh] 49)) 49 #[.int .i64 fl, .int .i64 fh]).alloc (.cells #[.int .i64 0, .int .i64 0] 49)
  have B2 : Blk W0 (w.heap.size + 1 + 1) 49 #[.int .i64 0, .int .i64 0] := by rw [hW0]; simpa using Blk.new ((w.alloc (.cells #[.int .i64 el, .int .i64 eh] 49)).alloc (.cells #[.int .i64 fl, .int .i64 fh] 49)) 49 #[.int .i64 0, .int .i64 0]
  have hB : Below w.heap.size w W0 := by rw [hW0]; exact (((Below.refl _ w).alloc (Nat.le_refl _) _).alloc (by simp) _).alloc (by simp; omega) _
  have HB0 := Lib.hid B0
  have HB1 := Lib.hid B1
  have HB2 := Lib.hid B2
  have HBW := Lib.hid hB
  clear hB
  clear hW0
  have xc0 := B0.cell 0; have xf0 := B0.frozen 0; have xc1 := B0.cell 1; have xf1 := B0.frozen 1
  simp only [List.getElem?_toArray, List.getElem?_cons_zero, List.getElem?_cons_succ] at xc0 xc1
  clear B0
  have yc0 := B1.cell 0; have yf0 := B1.frozen 0; have yc1 := B1.cell 1; have yf1 := B1.frozen 1
  simp only [List.getElem?_toArray, List.getElem?_cons_zero, List.getElem?_cons_succ] at yc0 yc1
  clear B1
  clear B2
  go_region_held3 (fun W => W.cell? ⟨w.heap.size, 0, none⟩ = some (.int .i64 el) ∧ W.cell? ⟨w.heap.size, 1, none⟩ = some (.int .i64 eh) ∧ W.cell? ⟨w.heap.size + 1, 0, none⟩ = some (.int .i64 fl) ∧ W.cell? ⟨w.heap.size + 1, 1, none⟩ = some (.int .i64 fh)) (first | go_keep | exact ⟨K.out.1, K.out.2.1, K.out.2.2.1, K.out.2.2.2⟩ | exact ⟨K2.out.1, K2.out.2.1, K2.out.2.2.1, K2.out.2.2.2⟩)
    (first
      | (go_at_call_of 134 (Value.agg #[Value.int .i64 el, Value.int .i64 eh]); refine (checkInterval_any _ checkEnergyE el eh _ enters_checkEnergy checkEnergy_st).mono ?_; rintro e w1 ⟨rfl, hb1⟩; have K : Hid (w1.cell? ⟨w.heap.size, 0, none⟩ = some (.int .i64 el) ∧ w1.cell? ⟨w.heap.size, 1, none⟩ = some (.int .i64 eh) ∧ w1.cell? ⟨w.heap.size + 1, 0, none⟩ = some (.int .i64 fl) ∧ w1.cell? ⟨w.heap.size + 1, 1, none⟩ = some (.int .i64 fh)) := ⟨(HB0.out.drew.below hb1).cell 0, (HB0.out.drew.below hb1).cell 1, (HB1.out.drew.below hb1).cell 0, (HB1.out.drew.below hb1).cell 1⟩; have G1 := Lib.hid hb1; clear hb1)
      | (go_at_call_of 134 (Value.agg #[Value.int .i64 fl, Value.int .i64 fh]); refine (checkInterval_any _ checkFactorE fl fh _ enters_checkFactor checkFactor_st).mono ?_; rintro e w2 ⟨rfl, hb2⟩; have K2 : Hid (w2.cell? ⟨w.heap.size, 0, none⟩ = some (.int .i64 el) ∧ w2.cell? ⟨w.heap.size, 1, none⟩ = some (.int .i64 eh) ∧ w2.cell? ⟨w.heap.size + 1, 0, none⟩ = some (.int .i64 fl) ∧ w2.cell? ⟨w.heap.size + 1, 1, none⟩ = some (.int .i64 fh)) := ⟨((HB0.out.drew.below G1.out).below hb2).cell 0, ((HB0.out.drew.below G1.out).below hb2).cell 1, ((HB1.out.drew.below G1.out).below hb2).cell 0, ((HB1.out.drew.below G1.out).below hb2).cell 1⟩; have G2 := Lib.hid hb2; clear hb2)
      | (go_at_call 103; refine (first2 _ _ (intervalE checkEnergyE el eh) (intervalE checkFactorE fl fh) _ (by go_simp) (by go_simp)).mono ?_; rw [show firstE [intervalE checkEnergyE el eh, intervalE checkFactorE fl fh] = E from HE.out.symm]; rintro e w3 ⟨rfl, rfl⟩))
  have C0 := (HB0.out.drew.below G1.out).below G2.out
  have C1 := (HB1.out.drew.below G1.out).below G2.out
  have C2 := (HB2.out.drew.below G1.out).below G2.out
  have HBZ : Hid (Below w.heap.size w w2) := (HBW.out.drew.trans (G1.out.mono HBW.out.size)).trans (G2.out.mono (by have := HBW.out.size; have := G1.out.size; simp at this; omega))
  have sz := lt_of_block C2
  have HC2 := Lib.hid C2
  clear xc0 xc1 xf0 xf1 yc0 yc1 yf0 yf1
  have xc0 := C0.cell 0; have xf0 := C0.frozen 0; have xc1 := C0.cell 1; have xf1 := C0.frozen 1
  simp only [List.getElem?_toArray, List.getElem?_cons_zero, List.getElem?_cons_succ] at xc0 xc1
  clear C0
  have yc0 := C1.cell 0; have yf0 := C1.frozen 0; have yc1 := C1.cell 1; have yf1 := C1.frozen 1
  simp only [List.getElem?_toArray, List.getElem?_cons_zero, List.getElem?_cons_succ] at yc0 yc1
  clear C1
  have zc0 := C2.cell 0; have zf0 := C2.frozen 0; have zc1 := C2.cell 1; have zf1 := C2.frozen 1
  simp only [List.getElem?_toArray, List.getElem?_cons_zero, List.getElem?_cons_succ] at zc0 zc1
  clear C2
  rcases HC.out with ⟨h, e1, e2⟩ | ⟨h, e1, e2⟩
  · have h1 : (E != 0) = false := by simp [h]
    have hz := firstE2_zero (HE.out.symm.trans h)
    have i1 := intervalE_zero hz.1
    have i2 := intervalE_zero hz.2
    have p1 := checkEnergyE_zero i1.1
    have p2 := checkEnergyE_zero i1.2.1
    have p3 := checkFactorE_zero i2.1
    have p4 := checkFactorE_zero i2.2.1
    have m1 := mul_bd p1.1 p1.2 p3.1
    have m2 := mul_bd p2.1 p2.2 p4.1
    have H0 := Lib.hid h
    have H1 := Lib.hid e1
    have H2 := Lib.hid e2
    obtain ⟨m11, m12⟩ := m1
    obtain ⟨m21, m22⟩ := m2
    obtain ⟨p31, p32⟩ := p3
    obtain ⟨p41, p42⟩ := p4
    clear h e1 e2 hz i1 i2 p1 p2
    go_wp2
    generalize hWf : World.alloc _ _ = Wf
    have D : Blk Wf (w.heap.size + 1 + 1) 49 #[.int .i64 (el * fl / 1000), .int .i64 ((eh * fh + 1000 - 1) / 1000)] := by rw [← hWf]; exact ((HC2.out.set_ 0 _).set_ 1 _).alloc _
    have hBf : Below w.heap.size w Wf := by
      rw [← hWf]
      exact ((HBZ.out.setCell (p := ⟨w.heap.size + 1 + 1, 0, none⟩) (by simp; omega) _).setCell (p := ⟨w.heap.size + 1 + 1, 1, none⟩) (by simp; omega) _).alloc (by have := HBZ.out.size; simpa [World.setCell] using this) _
    have d0 := D.cell 0
    have d1 := D.cell 1
    simp only [List.getElem?_toArray, List.getElem?_cons_zero, List.getElem?_cons_succ] at d0 d1
    exact bodyPost_ret (v := .tuple #[.agg #[.int .i64 (el * fl / 1000), .int .i64 ((eh * fh + 1000 - 1) / 1000)], .int .i64 0]) (by simp [results, Tryz.results61, go_sem, d0, d1]) rfl ⟨by rw [H0.out, H1.out, H2.out, show eh * fh + 999 = eh * fh + 1000 - 1 from by omega], hBf⟩
  · have h1 : (E != 0) = true := by simp [h]
    have H1 := Lib.hid e1
    have H2 := Lib.hid e2
    clear h e1 e2
    go_wp2
    generalize hWf : World.alloc _ _ = Wf
    have D : Blk Wf (w.heap.size + 1 + 1) 49 #[.int .i64 0, .int .i64 0] := by rw [← hWf]; exact ((HC2.out.set_ 0 _).set_ 1 _).alloc _
    have hBf : Below w.heap.size w Wf := by
      rw [← hWf]
      exact ((HBZ.out.setCell (p := ⟨w.heap.size + 1 + 1, 0, none⟩) (by simp; omega) _).setCell (p := ⟨w.heap.size + 1 + 1, 1, none⟩) (by simp; omega) _).alloc (by have := HBZ.out.size; simpa [World.setCell] using this) _
    have d0 := D.cell 0
    have d1 := D.cell 1
    simp only [List.getElem?_toArray, List.getElem?_cons_zero, List.getElem?_cons_succ] at d0 d1
    exact bodyPost_ret (v := .tuple #[.agg #[.int .i64 0, .int .i64 0], .int .i64 E]) (by simp [results, Tryz.results61, go_sem, d0, d1]) rfl ⟨by rw [H1.out, H2.out], hBf⟩

end Go.Proofs.YtoipafnlcchmbaaGreatDoor
namespace Go.Proofs.YtoipafnlcchmbaaGreatDoor
open Go.RowKit

theorem refWhen_st (b : Bool) (x : Int) (w : World) :
    Calls Tryz.prog 79 #[.bool b, .int .i64 x] w fun e w' => e = .returned (.int .i64 (if b then x else 0)) ∧ w' = w :=
  (refWhen_any b x w).mono fun _ _ ⟨h, e⟩ => ⟨h, e.symm⟩

def rangeI (a b : Int) (n : Int) : Int := withinE n a b

set_option maxHeartbeats 2000000 in
set_option maxRecDepth 100000 in
theorem refCheckInterval_any (low high a b : Int) (w : World) :
    Calls Tryz.prog 64 #[.agg #[.int .i64 low, .int .i64 high], .int .i64 a, .int .i64 b] w fun e w' => e = .returned (.int .i64 (intervalE (rangeI a b) low high)) ∧ Below w.heap.size w w' := by
  by_cases h : high < low
  · have hd : decide (high < low) = true := decide_eq_true h
    have hr : Hid (ordE low high = 11) := by show _ = _; unfold ordE; rw [if_pos h]
    go_enter Tryz.func64, Tryz.ntmps64
    go_wp2_with fail
    refine wp_region_still_tail 16 (by kernel_rfl) (by kernel_rfl) ?_
    simp only [List.take_succ_cons, List.take_zero, List.drop_succ_cons, List.drop_zero]
    change wpStill _ _ (World.drew _) _ _ _
    repeat still_step
    still_call (refCheckRange_st _ _ _ _)
    repeat still_step
    still_call (refCheckRange_st _ _ _ _)
    repeat still_step
    still_call (refWhen_st _ _ _)
    repeat still_step
    refine wpStill_nil ?_
    change wpList _ _ _ _ _ (World.drew _)
    go_wp2_with fail
    refine (refFirst3 _ _ (withinE low a b) (withinE high a b) 11 _ (by go_simp) (by go_simp) (by go_simp)).mono ?_
    rintro x w' ⟨rfl, rfl⟩
    go_wp2
    go_ret
    exact ⟨by unfold intervalE; rw [hr.out]; rfl, ((((Below.refl _ _).alloc (Nat.le_refl _) _).alloc (by simp) _).drew)⟩
  · have hd : decide (high < low) = false := decide_eq_false h
    have hr : Hid (ordE low high = 0) := by show _ = _; unfold ordE; rw [if_neg h]
    go_enter Tryz.func64, Tryz.ntmps64
    go_wp2_with fail
    refine wp_region_still_tail 16 (by kernel_rfl) (by kernel_rfl) ?_
    simp only [List.take_succ_cons, List.take_zero, List.drop_succ_cons, List.drop_zero]
    change wpStill _ _ (World.drew _) _ _ _
    repeat still_step
    still_call (refCheckRange_st _ _ _ _)
    repeat still_step
    still_call (refCheckRange_st _ _ _ _)
    repeat still_step
    still_call (refWhen_st _ _ _)
    repeat still_step
    refine wpStill_nil ?_
    change wpList _ _ _ _ _ (World.drew _)
    go_wp2_with fail
    refine (refFirst3 _ _ (withinE low a b) (withinE high a b) 0 _ (by go_simp) (by go_simp) (by go_simp)).mono ?_
    rintro x w' ⟨rfl, rfl⟩
    go_wp2
    go_ret
    exact ⟨by unfold intervalE; rw [hr.out]; rfl, ((((Below.refl _ _).alloc (Nat.le_refl _) _).alloc (by simp) _).drew)⟩

set_option maxHeartbeats 1000000 in
theorem refFloorNeg_any (x : Int) (w : World) (h1 : 0 ≤ x) (h2 : x ≤ 100000000000000000) :
    Calls Tryz.prog 135 #[.int .i64 (-x), .int .i64 1000] w fun e w' => e = .returned (.int .i64 (-((x + 999) / 1000))) ∧ w = w' := by
  have t1 : Hid ((-x).tdiv 1000 = -(x / 1000)) := by
    show _ = _
    rw [Int.neg_tdiv, Int.tdiv_eq_ediv_of_nonneg h1]
  obtain ⟨q, hq⟩ : ∃ q, (-x).tdiv 1000 = -q := ⟨x / 1000, t1.out⟩
  have hq2 : q = x / 1000 := by have := t1.out; omega
  have k1 : 0 ≤ q := by omega
  have k2 : q * 1000 ≤ x := by omega
  have k3 : x < q * 1000 + 1000 := by omega
  have HQ := Lib.hid hq2
  clear hq2 t1
  by_cases h : x = q * 1000
  · have hn : ¬ -x < -q * 1000 := by omega
    have H := Lib.hid h
    clear h
    go_enter Tryz.func135, Tryz.ntmps135
    go_wp2
    go_ret
    exact ⟨ret_int (by have := H.out; omega), rfl⟩
  · have hn : -x < -q * 1000 ∨ True := .inr trivial
    have hy : -x < -(q * 1000) := by omega
    clear hn h
    go_enter Tryz.func135, Tryz.ntmps135
    go_wp2
    go_ret
    exact ⟨ret_int (by omega), rfl⟩

set_option maxHeartbeats 1000000 in
theorem refCeil_any (x : Int) (w : World) (h1 : 0 ≤ x) (h2 : x ≤ 100000000000000000) :
    Calls Tryz.prog 136 #[.int .i64 x, .int .i64 1000] w fun e w' => e = .returned (.int .i64 ((x + 999) / 1000)) ∧ w' = w := by
  go_enter Tryz.func136, Tryz.ntmps136
  go_wp2_with fail
  refine (refFloorNeg_any x _ h1 h2).mono ?_
  rintro e w' ⟨rfl, rfl⟩
  go_wp2
  go_ret
  exact ⟨ret_int (by omega), rfl⟩
theorem refFloor_st (x d : Int) (w : World) (h1 : 0 ≤ x) (h2 : x ≤ 9000000000000000000) (h3 : 1 ≤ d) (h4 : d ≤ 10000000) :
    Calls Tryz.prog 135 #[.int .i64 x, .int .i64 d] w fun e w' => e = .returned (.int .i64 (x / d)) ∧ w' = w :=
  (refFloor_any x d w h1 h2 h3 h4).mono fun _ _ ⟨h, e⟩ => ⟨h, e.symm⟩

set_option maxHeartbeats 2000000 in
set_option maxRecDepth 100000 in
theorem refThrough_any (el eh fl fh : Int) (w : World) (h0 : throughErr el eh fl fh = 0) :
    Calls Tryz.prog 66 #[.agg #[.int .i64 el, .int .i64 eh], .agg #[.int .i64 fl, .int .i64 fh]] w fun e w' => e = .returned (.agg #[.int .i64 (throughLow el eh fl fh), .int .i64 (throughHigh el eh fl fh)]) ∧ Below w.heap.size w w' := by
  have e1 : Hid (throughLow el eh fl fh = el * fl / 1000) := by show _ = _; unfold throughLow; rw [if_pos h0]
  have e2 : Hid (throughHigh el eh fl fh = (eh * fh + 999) / 1000) := by show _ = _; unfold throughHigh; rw [if_pos h0]
  rw [e1.out, e2.out]
  have hz := firstE2_zero h0
  have i1 := intervalE_zero hz.1
  have i2 := intervalE_zero hz.2
  have p1 := checkEnergyE_zero i1.1
  have p2 := checkEnergyE_zero i1.2.1
  have p3 := checkFactorE_zero i2.1
  have p4 := checkFactorE_zero i2.2.1
  have m1 := mul_bd p1.1 p1.2 p3.1
  have m2 := mul_bd p2.1 p2.2 p4.1
  obtain ⟨m11, m12⟩ := m1
  obtain ⟨m21, m22⟩ := m2
  obtain ⟨p31, p32⟩ := p3
  obtain ⟨p41, p42⟩ := p4
  clear hz i1 i2 p1 p2 h0
  have wr1 : IntKind.i64.wrap (el * fl) = el * fl := IntWalk.i64_in _ (by omega)
  have wr2 : IntKind.i64.wrap (eh * fh) = eh * fh := IntWalk.i64_in _ (by omega)
  have HM := Lib.hid (And.intro (show el * fl ≤ 100000000000000000 by omega) (show eh * fh ≤ 100000000000000000 by omega))
  have HP := Lib.hid (And.intro m11 m21)
  go_enter Tryz.func66, Tryz.ntmps66
  go_wp2_with fail
  refine wp_region_still_tail 13 (by kernel_rfl) (by kernel_rfl) ?_
  simp only [List.take_succ_cons, List.take_zero, List.drop_succ_cons, List.drop_zero]
  change wpStill _ _ (World.drew _) _ _ _
  repeat still_step
  still_call (refFloor_st _ _ _ HP.out.1 (by have := HM.out.1; omega) (by decide) (by decide))
  repeat still_step
  still_call (refCeil_any _ _ HP.out.2 HM.out.2)
  repeat still_step
  refine wpStill_nil ?_
  change wpList _ _ _ _ _ (World.drew _)
  clear wr1 wr2
  go_wp2
  refine bodyPost_ret (v := .agg #[.int .i64 (el * fl / 1000), .int .i64 ((eh * fh + 999) / 1000)]) (by simp [results, Tryz.results66, go_sem]) rfl ⟨rfl, ?_⟩
  exact ((((Below.refl _ w).alloc (Nat.le_refl _) _).alloc (by simp) _).alloc (by simp; omega) _).drew

/-! Spectra and weights: arrays of eight integers. -/
theorem cells8_at (s0 s1 s2 s3 s4 s5 s6 s7 : Int) (i : Nat) (h : i < 8) : (#[.int .i64 s0, .int .i64 s1, .int .i64 s2, .int .i64 s3, .int .i64 s4, .int .i64 s5, .int .i64 s6, .int .i64 s7] : Array Value)[i]? = some (.int .i64 ([s0, s1, s2, s3, s4, s5, s6, s7].getD i 0)) := by
  match i, h with
  | 0, _ => rfl
  | 1, _ => rfl
  | 2, _ => rfl
  | 3, _ => rfl
  | 4, _ => rfl
  | 5, _ => rfl
  | 6, _ => rfl
  | 7, _ => rfl
theorem IntsAt.of8 {w : World} {g : Nat} {t : TypeId} {s0 s1 s2 s3 s4 s5 s6 s7 : Int} (h : Blk w g t #[.int .i64 s0, .int .i64 s1, .int .i64 s2, .int .i64 s3, .int .i64 s4, .int .i64 s5, .int .i64 s6, .int .i64 s7]) : IntsAt w (some ⟨g, 0, none⟩) 8 [s0, s1, s2, s3, s4, s5, s6, s7] :=
  ⟨rfl, fun _ => ⟨g, 0, rfl, fun i hi => by rw [Nat.zero_add, h.cell, cells8_at s0 s1 s2 s3 s4 s5 s6 s7 i hi]⟩⟩

set_option maxHeartbeats 2000000 in
set_option maxRecDepth 100000 in
theorem refCheckSpectrum_any (s0 s1 s2 s3 s4 s5 s6 s7 : Int) (w : World) :
    Calls Tryz.prog 62 #[.agg #[.int .i64 s0, .int .i64 s1, .int .i64 s2, .int .i64 s3, .int .i64 s4, .int .i64 s5, .int .i64 s6, .int .i64 s7]] w fun e w' => e = .returned (.int .i64 (firstInE checkEnergyE [s0, s1, s2, s3, s4, s5, s6, s7])) ∧ Below w.heap.size w w' := by
  obtain ⟨zs, hzs⟩ : ∃ zs, zs = [s0, s1, s2, s3, s4, s5, s6, s7] := ⟨_, rfl⟩
  have HL : Hid (zs.length = 8) := by show _ = _; rw [hzs]; rfl
  go_enter Tryz.func62, Tryz.ntmps62
  go_wp2
  obtain ⟨W0, hW0⟩ : ∃ W0, W0 = w.alloc (.cells #[.int .i64 s0, .int .i64 s1, .int .i64 s2, .int .i64 s3, .int .i64 s4, .int .i64 s5, .int .i64 s6, .int .i64 s7] 81) := ⟨_, rfl⟩
  rw [← hW0]
  have HZ : Hid (IntsAt W0 (some ⟨w.heap.size, 0, none⟩) 8 zs) := by rw [hW0, hzs]; exact IntsAt.of8 (Blk.new w _ _)
  have HB : Hid (Below w.heap.size w W0) := by rw [hW0]; exact (Below.refl _ _).alloc (Nat.le_refl _) _
  have HS := Lib.hid hzs
  clear hzs hW0
  go_loop [3, 4] (fun i _ => ∃ k : Nat, k ≤ 8 ∧ i = .int .i64 k ∧ Hid (∀ i, i < k → checkEnergyE (zs.getD i 0) = 0)) (fun i _ => 8 - (intOf i).toNat)
  case atStart => exact ⟨0, Nat.zero_le _, rfl, fun i hi => by omega⟩
  case round =>
    obtain ⟨k, hk, rfl, hz⟩ := hrel
    by_cases hlt : k < 8
    · obtain ⟨b, off, hbo, hcc⟩ := HZ.out.2 (by omega)
      simp only [Option.some.injEq, Addr.mk.injEq, and_true] at hbo
      obtain ⟨rfl, rfl⟩ := hbo
      obtain ⟨x, hx⟩ : ∃ x, x = zs.getD k 0 := ⟨_, rfl⟩
      have h0 := hcc k hlt
      rw [Nat.zero_add] at h0
      clear hcc
      rw [← hx] at h0
      have HX := Lib.hid hx
      clear hx
      go_wp2_with fail
      refine (refCheckEnergy_any x _).mono ?_
      rintro e w' ⟨rfl, rfl⟩
      obtain ⟨y, hy⟩ : ∃ y, y = checkEnergyE x := ⟨_, rfl⟩
      rw [show checkEnergyE x = y from hy.symm]
      have HY := Lib.hid hy
      clear hy
      by_cases he : y = 0
      · have h1 : (y != 0) = false := by simp [he]
        have HE := Lib.hid he
        clear he
        go_wp2
        go_round
        case rel =>
          refine ⟨k + 1, by omega, by go_num, fun i hi => ?_⟩
          by_cases hik : i < k
          · exact hz.out i hik
          · obtain rfl : i = k := by omega
            rw [← HX.out, ← HY.out]; exact HE.out
        case measure => simp [intOf]; omega
      · have h1 : (y != 0) = true := by simp [he]
        have HE := Lib.hid he
        clear he
        go_wp2
        go_ret
        exact ⟨ret_int (by rw [← HS.out, firstInE_hit checkEnergyE zs k (by rw [HL.out]; exact hlt) hz.out (by rw [← HX.out, ← HY.out]; exact HE.out), ← HX.out]; exact HY.out), HB.out⟩
    · go_wp2
      go_ret
      exact ⟨ret_int (by rw [← HS.out]; exact (firstInE_miss checkEnergyE zs (fun i hi => hz.out i (by rw [HL.out] at hi; omega))).symm), HB.out⟩

set_option maxHeartbeats 2000000 in
set_option maxRecDepth 100000 in
theorem refCheckWeights_any (s0 s1 s2 s3 s4 s5 s6 s7 : Int) (w : World) :
    Calls Tryz.prog 63 #[.agg #[.int .i64 s0, .int .i64 s1, .int .i64 s2, .int .i64 s3, .int .i64 s4, .int .i64 s5, .int .i64 s6, .int .i64 s7]] w fun e w' => e = .returned (.int .i64 (firstInE checkFactorE [s0, s1, s2, s3, s4, s5, s6, s7])) ∧ Below w.heap.size w w' := by
  obtain ⟨zs, hzs⟩ : ∃ zs, zs = [s0, s1, s2, s3, s4, s5, s6, s7] := ⟨_, rfl⟩
  have HL : Hid (zs.length = 8) := by show _ = _; rw [hzs]; rfl
  go_enter Tryz.func63, Tryz.ntmps63
  go_wp2
  obtain ⟨W0, hW0⟩ : ∃ W0, W0 = w.alloc (.cells #[.int .i64 s0, .int .i64 s1, .int .i64 s2, .int .i64 s3, .int .i64 s4, .int .i64 s5, .int .i64 s6, .int .i64 s7] 80) := ⟨_, rfl⟩
  rw [← hW0]
  have HZ : Hid (IntsAt W0 (some ⟨w.heap.size, 0, none⟩) 8 zs) := by rw [hW0, hzs]; exact IntsAt.of8 (Blk.new w _ _)
  have HB : Hid (Below w.heap.size w W0) := by rw [hW0]; exact (Below.refl _ _).alloc (Nat.le_refl _) _
  have HS := Lib.hid hzs
  clear hzs hW0
  go_loop [3, 4] (fun i _ => ∃ k : Nat, k ≤ 8 ∧ i = .int .i64 k ∧ Hid (∀ i, i < k → checkFactorE (zs.getD i 0) = 0)) (fun i _ => 8 - (intOf i).toNat)
  case atStart => exact ⟨0, Nat.zero_le _, rfl, fun i hi => by omega⟩
  case round =>
    obtain ⟨k, hk, rfl, hz⟩ := hrel
    by_cases hlt : k < 8
    · obtain ⟨b, off, hbo, hcc⟩ := HZ.out.2 (by omega)
      simp only [Option.some.injEq, Addr.mk.injEq, and_true] at hbo
      obtain ⟨rfl, rfl⟩ := hbo
      obtain ⟨x, hx⟩ : ∃ x, x = zs.getD k 0 := ⟨_, rfl⟩
      have h0 := hcc k hlt
      rw [Nat.zero_add] at h0
      clear hcc
      rw [← hx] at h0
      have HX := Lib.hid hx
      clear hx
      go_wp2_with fail
      refine (refCheckRange_any x 0 1000 _).mono ?_
      rintro e w' ⟨rfl, rfl⟩
      obtain ⟨y, hy⟩ : ∃ y, y = checkFactorE x := ⟨_, rfl⟩
      rw [show withinE x 0 1000 = y from hy.symm]
      have HY := Lib.hid hy
      clear hy
      by_cases he : y = 0
      · have h1 : (y != 0) = false := by simp [he]
        have HE := Lib.hid he
        clear he
        go_wp2
        go_round
        case rel =>
          refine ⟨k + 1, by omega, by go_num, fun i hi => ?_⟩
          by_cases hik : i < k
          · exact hz.out i hik
          · obtain rfl : i = k := by omega
            rw [← HX.out, ← HY.out]; exact HE.out
        case measure => simp [intOf]; omega
      · have h1 : (y != 0) = true := by simp [he]
        have HE := Lib.hid he
        clear he
        go_wp2
        go_ret
        exact ⟨ret_int (by rw [← HS.out, firstInE_hit checkFactorE zs k (by rw [HL.out]; exact hlt) hz.out (by rw [← HX.out, ← HY.out]; exact HE.out), ← HX.out]; exact HY.out), HB.out⟩
    · go_wp2
      go_ret
      exact ⟨ret_int (by rw [← HS.out]; exact (firstInE_miss checkFactorE zs (fun i hi => hz.out i (by rw [HL.out] at hi; omega))).symm), HB.out⟩

end Go.Proofs.YtoipafnlcchmbaaGreatDoor
