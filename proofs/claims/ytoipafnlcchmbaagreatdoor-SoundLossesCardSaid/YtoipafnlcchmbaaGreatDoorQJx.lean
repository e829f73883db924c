/- Panels: their check. The samples of a transform. The cross-spectrum of two panels. -/
import Derived.Test.YtoipafnlcchmbaaGreatDoorQJ
import Derived.Test.YtoipafnlcchmbaaGreatDoorQF
import Derived.Deep.RegionHeld3
import Derived.BigQuiet
namespace Go.Proofs.YtoipafnlcchmbaaGreatDoor
open Go.RowKit

set_option maxHeartbeats 1000000 in
set_option maxRecDepth 100000 in
theorem each_float_q (F : FuncId) (A : Option Addr) (n c : Nat) (fs : List Nat) (w : World) (hn : n ≤ 140737488351232)
    (hE : ∀ (args : Array Value) (W : World), (callFunc F args).run Tryz.prog W = .ok (.enter F args) W)
    (hF : ∀ i, i < n → ∀ (W : World), Calls Tryz.prog F #[.float .f32 (fs.getD i 0)] W fun e w' => e = .returned (.int .i64 0) ∧ W = w')
    (hz : FlAt w A n fs) :
    Calls Tryz.prog 112 #[.slice A n c, .func (.func F) #[] #[]] w fun e w' => e = .returned (.int .i64 0) ∧ w' = w := by
  have HZ := Lib.hid hz
  have HF := Lib.hid hF
  clear hz hF
  go_enter Tryz.func112, Tryz.ntmps112
  go_wp2
  go_loop [7, 10] (fun _ i => ∃ k : Nat, k ≤ n ∧ i = .int .i64 k) (fun _ i => n - (intOf i).toNat)
  case atStart => exact ⟨0, Nat.zero_le _, rfl⟩
  case round =>
    obtain ⟨k, hk, rfl⟩ := hrel
    by_cases hlt : k < n
    · obtain ⟨b, off, rfl, hcc⟩ := HZ.out.2 (by omega)
      have hf := HF.out k hlt
      obtain ⟨x, hx⟩ : ∃ x, x = fs.getD k 0 := ⟨_, rfl⟩
      have h0 := hcc k hlt
      rw [← hx] at h0 hf
      have HFX := Lib.hid hf
      clear hcc hx hf
      go_wp2_with fail
      refine (HFX.out _).mono ?_
      rintro e w' ⟨rfl, rfl⟩
      go_wp2
      go_round
      case rel => exact ⟨k + 1, by omega, by go_num⟩
      case measure => simp [intOf]; omega
    · go_wp2
      go_ret
      exact ⟨rfl, rfl⟩

theorem enters_finite (args : Array Value) (W : World) : (callFunc 108 args).run Tryz.prog W = .ok (.enter 108 args) W := by kernel_rfl
theorem enters_panel1 (args : Array Value) (W : World) : (callFunc 188 args).run Tryz.prog W = .ok (.enter 188 args) W := by kernel_rfl
theorem panel1_of (b : Nat) (w : World) (h : Good 1166016512 b) : Calls Tryz.prog 188 #[.float .f32 b] w fun e w' => e = .returned (.int .i64 0) ∧ w = w' := by
  have H := Lib.hid h
  clear h
  go_enter Tryz.func188, Tryz.ntmps188
  go_wp2_with fail
  refine (H.out _).2.mono ?_
  rintro e w' ⟨rfl, rfl⟩
  go_wp2
  go_ret
  exact ⟨rfl, rfl⟩

def fl8 (z : Nat → Nat × Nat) : List Nat := [(z 0).1, (z 0).2, (z 1).1, (z 1).2, (z 2).1, (z 2).2, (z 3).1, (z 3).2]
def part8 (z : Nat → Nat × Nat) (k : Nat) : Array Value := ((List.range 8).map fun i => if i < 2 * k then Value.float .f32 ((fl8 z).getD i 0) else .float .f32 0).toArray
theorem part8_set (z : Nat → Nat × Nat) (k : Nat) (hk : k < 4) : ((part8 z k).setIfInBounds (2 * k) (.float .f32 (z k).1)).setIfInBounds (2 * k + 1) (.float .f32 (z k).2) = part8 z (k + 1) := by
  match k, hk with
  | 0, _ => rfl
  | 1, _ => rfl
  | 2, _ => rfl
  | 3, _ => rfl
theorem part8_at (z : Nat → Nat × Nat) (k i : Nat) (hi : i < 8) : (part8 z k)[i]? = some (if i < 2 * k then Value.float .f32 ((fl8 z).getD i 0) else .float .f32 0) := by
  unfold part8
  simp [hi]
theorem fl8_all (z : Nat → Nat × Nat) (Q : Nat → Prop) (h : ∀ i, i < 4 → Q (z i).1 ∧ Q (z i).2) : ∀ i, i < 8 → Q ((fl8 z).getD i 0) := by
  intro i hi
  match i, hi with
  | 0, _ => exact (h 0 (by omega)).1
  | 1, _ => exact (h 0 (by omega)).2
  | 2, _ => exact (h 1 (by omega)).1
  | 3, _ => exact (h 1 (by omega)).2
  | 4, _ => exact (h 2 (by omega)).1
  | 5, _ => exact (h 2 (by omega)).2
  | 6, _ => exact (h 3 (by omega)).1
  | 7, _ => exact (h 3 (by omega)).2

set_option maxHeartbeats 2000000 in
set_option maxRecDepth 100000 in
theorem checkPanel_of (z : Nat → Nat × Nat) (hg : ∀ i, i < 4 → Good 1166016512 (z i).1 ∧ Good 1166016512 (z i).2) (w : World) :
    Calls Tryz.prog 167 #[.agg #[cV (z 0), cV (z 1), cV (z 2), cV (z 3)]] w fun e w' => e = .returned (.int .i64 0) ∧ Below w.heap.size w w' := by
  have HG := Lib.hid (fl8_all z (Good 1166016512) hg)
  have HI := Lib.hid (fun k hk W => index4 k hk (fun n => cV (z n)) W)
  clear hg
  unfold cV
  go_enter Tryz.func167, Tryz.ntmps167
  go_upto_region 2 with fail
  obtain ⟨W0, hW0⟩ : ∃ W0, W0 = (w.alloc (.cells #[.complex .f32 (z 0).1 (z 0).2, .complex .f32 (z 1).1 (z 1).2, .complex .f32 (z 2).1 (z 2).2, .complex .f32 (z 3).1 (z 3).2] 167)).alloc (.cells #[.float .f32 0, .float .f32 0, .float .f32 0, .float .f32 0, .float .f32 0, .float .f32 0, .float .f32 0, .float .f32 0] 273) := ⟨_, rfl⟩
  rw [← hW0]
  have B0 : Blk W0 w.heap.size 167 #[.complex .f32 (z 0).1 (z 0).2, .complex .f32 (z 1).1 (z 1).2, .complex .f32 (z 2).1 (z 2).2, .complex .f32 (z 3).1 (z 3).2] := by rw [hW0]; exact (Blk.new w _ _).alloc _
  have B1 : Hid (Blk W0 (w.heap.size + 1) 273 (part8 z 0)) := by rw [hW0]; have := Blk.new (w.alloc (.cells #[.complex .f32 (z 0).1 (z 0).2, .complex .f32 (z 1).1 (z 1).2, .complex .f32 (z 2).1 (z 2).2, .complex .f32 (z 3).1 (z 3).2] 167)) 273 #[.float .f32 0, .float .f32 0, .float .f32 0, .float .f32 0, .float .f32 0, .float .f32 0, .float .f32 0, .float .f32 0]; rw [World.size_alloc] at this; exact this
  have HB : Hid (Below w.heap.size w W0) := by rw [hW0]; exact ((Below.refl _ w).alloc (Nat.le_refl _) _).alloc (by simp) _
  clear hW0
  have xc0 := B0.cell 0; have xf0 := B0.frozen 0; have xc1 := B0.cell 1; have xf1 := B0.frozen 1; have xc2 := B0.cell 2; have xf2 := B0.frozen 2; have xc3 := B0.cell 3; have xf3 := B0.frozen 3
  simp only [List.getElem?_toArray, List.getElem?_cons_zero, List.getElem?_cons_succ] at xc0 xc1 xc2 xc3
  clear B0
  clear xf0 xf1 xf2 xf3
  go_wp2_with fail
  go_loopw [4, 5, 8] (fun _ _ i wr => ∃ k : Nat, k ≤ 4 ∧ i = .int .i64 k ∧ Blk wr (w.heap.size + 1) 273 (part8 z k) ∧ Below w.heap.size w wr) (fun _ _ i _ => 4 - (intOf i).toNat)
  case atStart => exact ⟨0, Nat.zero_le _, rfl, B1.out, HB.out⟩
  case round =>
    clear B1 HB
    obtain ⟨k, hk, rfl, b1, hb⟩ := hrel
    have B1 := Lib.hid b1
    have HB := Lib.hid hb
    clear hb
    by_cases hlt : k < 4
    · have hc := (b1.cell (2 * k)).trans (part8_at z k _ (by omega))
      have hd := (b1.cell (2 * k + 1)).trans (part8_at z k _ (by omega))
      rw [if_neg (by omega)] at hc hd
      have hf := b1.frozen (2 * k)
      have hf2 := b1.frozen (2 * k + 1)
      clear b1
      have hi := HI.out k hlt
      unfold cV at hi
      have hk4 : (k : Int) < 4 := by omega
      have e1 : (2 * (k : Int)).toNat = 2 * k := by omega
      have e2 : (2 * (k : Int) + 1).toNat = 2 * k + 1 := by omega
      go_wp2
      go_roundw
      case rel =>
        refine ⟨k + 1, by omega, by go_num, ?_, (HB.out.setCell (p := ⟨w.heap.size + 1, 2 * k, none⟩) (by simp) _).setCell (p := ⟨w.heap.size + 1, 2 * k + 1, none⟩) (by simp) _⟩
        have := (B1.out.set_ (2 * k) (.float .f32 (z k).1)).set_ (2 * k + 1) (.float .f32 (z k).2)
        rw [part8_set z k hlt] at this
        exact this
      case measure => simp [intOf]; omega
    · obtain rfl : k = 4 := by omega
      clear b1
      have HF : Hid (FlAt wr.drew (some ⟨w.heap.size + 1, 0, none⟩) 8 (fl8 z)) := ⟨rfl, fun _ => ⟨w.heap.size + 1, 0, rfl, fun i hi => by
        rw [Nat.zero_add, B1.out.drew.cell i, part8_at z 4 i hi, if_pos (by omega)]⟩⟩
      go_wp2_with fail
      refine wp_region_still_tail 5 (by kernel_rfl) (by kernel_rfl) ?_
      simp only [List.take_succ_cons, List.take_zero, List.drop_succ_cons, List.drop_zero]
      change wpStill _ _ (World.drew _) _ _ _
      repeat still_step
      still_call (each_float_q 108 (some ⟨w.heap.size + 1, 0, none⟩) 8 8 (fl8 z) _ (by omega) enters_finite (fun i hi W => (HG.out i hi W).1) HF.out)
      repeat still_step
      still_call (each_float_q 188 (some ⟨w.heap.size + 1, 0, none⟩) 8 8 (fl8 z) _ (by omega) enters_panel1 (fun i hi W => panel1_of _ W (HG.out i hi)) HF.out)
      repeat still_step
      refine wpStill_nil ?_
      change wpList _ _ _ _ _ (World.drew _)
      go_wp2_with fail
      refine (first2 _ _ 0 0 _ (by go_simp) (by go_simp)).mono ?_
      rw [show firstE [0, 0] = 0 from rfl]
      rintro e w' ⟨rfl, rfl⟩
      go_wp2
      go_ret
      exact ⟨rfl, (HB.out.alloc HB.out.size _).drew⟩
end Go.Proofs.YtoipafnlcchmbaaGreatDoor
namespace Go.Proofs.YtoipafnlcchmbaaGreatDoor
open Go.RowKit

set_option maxHeartbeats 2000000 in
set_option maxRecDepth 100000 in
theorem Unfour_of (z m : Nat → Nat × Nat) (y : Nat → Nat) (hg : ∀ i, i < 4 → Good 1166016512 (z i).1 ∧ Good 1166016512 (z i).2)
    (hT : ∀ k : Nat, k < 4 → ∀ W, Calls Tryz.prog 166 #[.agg #[cV (z 0), cV (z 1), cV (z 2), cV (z 3)], .complex .f32 0 1065353216, .int .i64 (k : Int)] W fun e w' => e = .returned (cV (m k)) ∧ Below W.heap.size W w')
    (hq : ∀ k, k < 4 → floatBits .quo .f32 (m k).1 1082130432 = some (y k)) (hi : ∀ k, k < 4 → (FloatKind.f32.format.order (m k).2 0 != some .eq) = false) (hy : ∀ k, k < 4 → Good 1149239296 (y k)) (w : World) :
    Calls Tryz.prog 99 #[.agg #[cV (z 0), cV (z 1), cV (z 2), cV (z 3)]] w fun e w' => e = .returned (.tuple #[.agg #[flV (y 0), flV (y 1), flV (y 2), flV (y 3)], .int .i64 0]) ∧ Below w.heap.size w w' := by
  have HG := Lib.hid hg
  have HT := Lib.hid hT
  have HQ := Lib.hid hq
  have HI := Lib.hid hi
  have HY := Lib.hid hy
  clear hg hT hq hi hy
  unfold cV
  go_enter Tryz.func99, Tryz.ntmps99
  go_upto_region 1 with fail
  obtain ⟨W0, hW0⟩ : ∃ W0, W0 = (w.alloc (.cells #[.complex .f32 (z 0).1 (z 0).2, .complex .f32 (z 1).1 (z 1).2, .complex .f32 (z 2).1 (z 2).2, .complex .f32 (z 3).1 (z 3).2] 167)).alloc (.cells #[.float .f32 0, .float .f32 0, .float .f32 0, .float .f32 0] 164) := ⟨_, rfl⟩
  rw [← hW0]
  have B0 : Blk W0 w.heap.size 167 #[.complex .f32 (z 0).1 (z 0).2, .complex .f32 (z 1).1 (z 1).2, .complex .f32 (z 2).1 (z 2).2, .complex .f32 (z 3).1 (z 3).2] := by rw [hW0]; exact (Blk.new w _ _).alloc _
  have HB0 := Lib.hid B0
  have B1 : Hid (Blk W0 (w.heap.size + 1) 164 #[.float .f32 0, .float .f32 0, .float .f32 0, .float .f32 0]) := by rw [hW0]; have := Blk.new (w.alloc (.cells #[.complex .f32 (z 0).1 (z 0).2, .complex .f32 (z 1).1 (z 1).2, .complex .f32 (z 2).1 (z 2).2, .complex .f32 (z 3).1 (z 3).2] 167)) 164 #[.float .f32 0, .float .f32 0, .float .f32 0, .float .f32 0]; rw [World.size_alloc] at this; exact this
  have HB : Hid (Below w.heap.size w W0) := by rw [hW0]; exact ((Below.refl _ w).alloc (Nat.le_refl _) _).alloc (by simp) _
  clear hW0
  have xc0 := B0.cell 0; have xf0 := B0.frozen 0; have xc1 := B0.cell 1; have xf1 := B0.frozen 1; have xc2 := B0.cell 2; have xf2 := B0.frozen 2; have xc3 := B0.cell 3; have xf3 := B0.frozen 3
  simp only [List.getElem?_toArray, List.getElem?_cons_zero, List.getElem?_cons_succ] at xc0 xc1 xc2 xc3
  clear B0
  clear xf0 xf1 xf2 xf3
  go_wp2_with fail
  refine (checkPanel_of z HG.out _).mono ?_
  rintro e w1 ⟨rfl, hb⟩
  have C0 := Lib.hid (HB0.out.below hb)
  have C1 := Lib.hid (B1.out.below hb)
  have HC := Lib.hid (HB.out.trans (hb.mono HB.out.size))
  clear hb HB0 B1 HB xc0 xc1 xc2 xc3
  go_upto_region 5 with fail
  obtain ⟨g, hg⟩ : ∃ g, g = w1.heap.size := ⟨_, rfl⟩
  obtain ⟨W2, hW2⟩ : ∃ W2, W2 = w1.alloc (.cells #[.float .f32 0, .float .f32 0, .float .f32 0, .float .f32 0] 164) := ⟨_, rfl⟩
  have D0 : Hid (Blk W2 w.heap.size 167 #[.complex .f32 (z 0).1 (z 0).2, .complex .f32 (z 1).1 (z 1).2, .complex .f32 (z 2).1 (z 2).2, .complex .f32 (z 3).1 (z 3).2]) := by rw [hW2]; exact C0.out.alloc _
  have D1 : Hid (Blk W2 (w.heap.size + 1) 164 #[.float .f32 0, .float .f32 0, .float .f32 0, .float .f32 0]) := by rw [hW2]; exact C1.out.alloc _
  have D5 : Hid (Blk W2 g 164 (part4 (.float .f32 0) (fun i => flV (y i)) 0)) := by rw [hW2, hg]; exact Blk.new w1 _ _
  have hgw : w.heap.size + 1 < g := by rw [hg]; exact C1.out.below_lt
  have HD : Hid (Below w.heap.size w W2) := by rw [hW2]; exact HC.out.alloc HC.out.size _
  rw [← hW2, ← hg]
  clear hW2 hg C0 C1 HC
  go_wp2_with fail
  go_loopw [6, 7, 8, 15] (fun _ _ _ i wr => ∃ k : Nat, k ≤ 4 ∧ i = .int .i64 k ∧ Blk wr w.heap.size 167 #[.complex .f32 (z 0).1 (z 0).2, .complex .f32 (z 1).1 (z 1).2, .complex .f32 (z 2).1 (z 2).2, .complex .f32 (z 3).1 (z 3).2] ∧ Blk wr (w.heap.size + 1) 164 #[.float .f32 0, .float .f32 0, .float .f32 0, .float .f32 0] ∧ Blk wr g 164 (part4 (.float .f32 0) (fun i => flV (y i)) k) ∧ Below w.heap.size w wr) (fun _ _ _ i _ => 4 - (intOf i).toNat)
  case atStart => exact ⟨0, Nat.zero_le _, rfl, D0.out, D1.out, D5.out, HD.out⟩
  case round =>
    clear D0 D1 D5 HD
    obtain ⟨k, hk, rfl, b0, b1, b5, hb⟩ := hrel
    have B0 := Lib.hid b0
    have B1 := Lib.hid b1
    have B5 := Lib.hid b5
    have HB := Lib.hid hb
    clear hb
    by_cases hlt : k < 4
    · clear b1 b5
      have xc0 := b0.cell 0; have xf0 := b0.frozen 0; have xc1 := b0.cell 1; have xf1 := b0.frozen 1; have xc2 := b0.cell 2; have xf2 := b0.frozen 2; have xc3 := b0.cell 3; have xf3 := b0.frozen 3
      simp only [List.getElem?_toArray, List.getElem?_cons_zero, List.getElem?_cons_succ] at xc0 xc1 xc2 xc3
      clear b0
      clear xf0 xf1 xf2 xf3
      have hk4 : (k : Int) < 4 := by omega
      go_wp2_with fail
      refine (HT.out k hlt _).mono ?_
      rintro e w3 ⟨rfl, hb3⟩
      have E0 := Lib.hid (B0.out.below hb3)
      have E1 := Lib.hid (B1.out.below hb3)
      have E5 := Lib.hid (B5.out.below hb3)
      have HE := Lib.hid (HB.out.trans (hb3.mono HB.out.size))
      clear hb3 B0 B1 B5 HB xc0 xc1 xc2 xc3
      have hqq : ∀ w', (binOp .quo 37 (.float .f32 (m k).1) (.float .f32 1082130432)).run Tryz.prog w' = .ok (.float .f32 (y k)) w' := fun w' => run_float_arith w' .quo _ .f32 _ _ _ (HQ.out k hlt)
      have him := HI.out k hlt
      unfold cV
      go_wp2_with fail
      refine (checkSample_good (y k) _ (HY.out k hlt)).mono ?_
      rintro e w4 ⟨rfl, hb4⟩
      have F0 := Lib.hid (E0.out.below hb4)
      have F1 := Lib.hid (E1.out.below hb4)
      have F5 := Lib.hid (E5.out.below hb4)
      have HF := Lib.hid (HE.out.trans (hb4.mono HE.out.size))
      have hc := (F5.out.cell k).trans (part4_at _ _ k k hlt)
      rw [if_neg (Nat.lt_irrefl k)] at hc
      have hf := F5.out.frozen k
      clear hb4 E0 E1 E5 HE hqq
      go_wp2
      go_roundw
      case rel =>
        have R : Blk (w4.setCell ⟨g, k, none⟩ (.float .f32 (y k))) g 164 (part4 (.float .f32 0) (fun i => flV (y i)) (k + 1)) := by
          have := F5.out.set_ k (flV (y k))
          rw [show flV (y k) = (fun i => flV (y i)) k from rfl, part4_set] at this
          exact this
        first
          | exact ⟨k + 1, by omega, by go_num, F0.out.far (p := ⟨g, k, none⟩) (by simp; omega) _, F1.out.far (p := ⟨g, k, none⟩) (by simp; omega) _, R, HF.out.setCell (p := ⟨g, k, none⟩) (by simp; omega) _⟩
          | ((repeat apply Exists.intro); exact ⟨⟨k + 1, by omega, by go_num, F0.out.far (p := ⟨g, k, none⟩) (by simp; omega) _, F1.out.far (p := ⟨g, k, none⟩) (by simp; omega) _, R, HF.out.setCell (p := ⟨g, k, none⟩) (by simp; omega) _⟩, rfl⟩)
      case measure => simp [intOf]; omega
    · obtain rfl : k = 4 := by omega
      clear b0
      rw [part4_four] at b5
      unfold flV at b5
      have yc0 := b5.cell 0; have yf0 := b5.frozen 0; have yc1 := b5.cell 1; have yf1 := b5.frozen 1; have yc2 := b5.cell 2; have yf2 := b5.frozen 2; have yc3 := b5.cell 3; have yf3 := b5.frozen 3
      simp only [List.getElem?_toArray, List.getElem?_cons_zero, List.getElem?_cons_succ] at yc0 yc1 yc2 yc3
      clear b5
      have zc0 := b1.cell 0; have zf0 := b1.frozen 0; have zc1 := b1.cell 1; have zf1 := b1.frozen 1; have zc2 := b1.cell 2; have zf2 := b1.frozen 2; have zc3 := b1.cell 3; have zf3 := b1.frozen 3
      simp only [List.getElem?_toArray, List.getElem?_cons_zero, List.getElem?_cons_succ] at zc0 zc1 zc2 zc3
      clear b1
      clear yf0 yf1 yf2 yf3
      go_wp2
      generalize hWf : World.setCell _ _ _ = Wf
      have D : Blk Wf (w.heap.size + 1) 164 #[flV (y 0), flV (y 1), flV (y 2), flV (y 3)] := by rw [← hWf]; exact B1.out.set4 _ _ _ _
      have hBf : Below w.heap.size w Wf := by
        rw [← hWf]
        exact below_set4 HB.out (by omega) _ _ _ _
      obtain ⟨d0, d1, d2, d3⟩ := results4 D
      exact bodyPost_ret (v := .tuple #[.agg #[flV (y 0), flV (y 1), flV (y 2), flV (y 3)], .int .i64 0]) (by simp [results, Tryz.results99, go_sem, d0, d1, d2, d3]) rfl ⟨rfl, hBf⟩
end Go.Proofs.YtoipafnlcchmbaaGreatDoor
namespace Go.Proofs.YtoipafnlcchmbaaGreatDoor
open Go.RowKit

def gl8 (r : Nat → Int × Int) : List Int := [(r 0).1, (r 0).2, (r 1).1, (r 1).2, (r 2).1, (r 2).2, (r 3).1, (r 3).2]
def partG (r : Nat → Int × Int) (k : Nat) : Array Value := ((List.range 8).map fun i => if i < 2 * k then Value.int .i64 ((gl8 r).getD i 0) else .int .i64 0).toArray
theorem partG_set (r : Nat → Int × Int) (k : Nat) (hk : k < 4) : ((partG r k).setIfInBounds (k * 2) (.int .i64 (r k).1)).setIfInBounds (k * 2 + 1) (.int .i64 (r k).2) = partG r (k + 1) := by
  match k, hk with
  | 0, _ => rfl
  | 1, _ => rfl
  | 2, _ => rfl
  | 3, _ => rfl
theorem partG_at (r : Nat → Int × Int) (k i : Nat) (hi : i < 8) : (partG r k)[i]? = some (if i < 2 * k then Value.int .i64 ((gl8 r).getD i 0) else .int .i64 0) := by
  unfold partG
  simp [hi]
theorem partG_four (r : Nat → Int × Int) : partG r 4 = #[.int .i64 (r 0).1, .int .i64 (r 0).2, .int .i64 (r 1).1, .int .i64 (r 1).2, .int .i64 (r 2).1, .int .i64 (r 2).2, .int .i64 (r 3).1, .int .i64 (r 3).2] := rfl
theorem Blk.partG {W : World} {g k : Nat} {t : TypeId} {r : Nat → Int × Int} (h : Blk W g t (partG r k)) (hk : k < 4) : Blk ((W.setCell ⟨g, k * 2, none⟩ (.int .i64 (r k).1)).setCell ⟨g, k * 2 + 1, none⟩ (.int .i64 (r k).2)) g t (Go.Proofs.YtoipafnlcchmbaaGreatDoor.partG r (k + 1)) := by
  have := (h.set_ (k * 2) (.int .i64 (r k).1)).set_ (k * 2 + 1) (.int .i64 (r k).2)
  rw [partG_set r k hk] at this
  exact this
theorem cells44 {W : World} {g h : Nat} {t u : TypeId} {a0 a1 a2 a3 b0 b1 b2 b3 : Value} (hA : Blk W g t #[a0, a1, a2, a3]) (hB : Blk W h u #[b0, b1, b2, b3]) :
    (W.cell? ⟨g, 0, none⟩ = some a0 ∧ W.cell? ⟨g, 1, none⟩ = some a1 ∧ W.cell? ⟨g, 2, none⟩ = some a2 ∧ W.cell? ⟨g, 3, none⟩ = some a3) ∧ W.cell? ⟨h, 0, none⟩ = some b0 ∧ W.cell? ⟨h, 1, none⟩ = some b1 ∧ W.cell? ⟨h, 2, none⟩ = some b2 ∧ W.cell? ⟨h, 3, none⟩ = some b3 :=
  ⟨⟨hA.cell 0, hA.cell 1, hA.cell 2, hA.cell 3⟩, hB.cell 0, hB.cell 1, hB.cell 2, hB.cell 3⟩

set_option maxHeartbeats 4000000 in
set_option maxRecDepth 100000 in
theorem Cross_of (z o a b c d e : Nat → Nat × Nat) (nb : Nat → Nat) (r : Nat → Int × Int) (hz : ∀ i, i < 4 → Good 1166016512 (z i).1 ∧ Good 1166016512 (z i).2) (ho : ∀ i, i < 4 → Good 1166016512 (o i).1 ∧ Good 1166016512 (o i).2)
    (h1 : ∀ k, k < 4 → ∀ w, (convert 166 253 (.complex .f32 (z k).1 (z k).2)).run Tryz.prog w = .ok (.complex .f64 (a k).1 (a k).2) w)
    (h2 : ∀ k, k < 4 → ∀ w, (convert 166 253 (.complex .f32 (o k).1 (o k).2)).run Tryz.prog w = .ok (.complex .f64 (b k).1 (b k).2) w)
    (h3 : ∀ k, k < 4 → ∀ w, (binOp .mul 253 (.complex .f64 (a k).1 (a k).2) (.complex .f64 4625196817309499392 0)).run Tryz.prog w = .ok (.complex .f64 (c k).1 (c k).2) w)
    (h4 : ∀ k, k < 4 → ∀ w, (binOp .mul 253 (.complex .f64 (b k).1 (b k).2) (.complex .f64 4625196817309499392 0)).run Tryz.prog w = .ok (.complex .f64 (d k).1 (d k).2) w)
    (h5 : ∀ k, k < 4 → Op.negFloat .f64 (d k).2 = nb k)
    (h6 : ∀ k, k < 4 → ∀ w, (binOp .mul 253 (.complex .f64 (c k).1 (c k).2) (.complex .f64 (d k).1 (nb k))).run Tryz.prog w = .ok (.complex .f64 (e k).1 (e k).2) w)
    (h7 : ∀ k, k < 4 → ∀ w, (convert 254 3 (.float .f64 (e k).1)).run Tryz.prog w = .ok (.int .i64 (r k).1) w)
    (h8 : ∀ k, k < 4 → ∀ w, (convert 254 3 (.float .f64 (e k).2)).run Tryz.prog w = .ok (.int .i64 (r k).2) w) (w : World) :
    Calls Tryz.prog 100 #[.agg #[cV (z 0), cV (z 1), cV (z 2), cV (z 3)], .agg #[cV (o 0), cV (o 1), cV (o 2), cV (o 3)]] w fun x w' => x = .returned (.tuple #[.agg (partG r 4), .int .i64 0]) ∧ Below w.heap.size w w' := by
  have HZ := Lib.hid hz
  have HO := Lib.hid ho
  have H1 := Lib.hid h1
  have H2 := Lib.hid h2
  have H3 := Lib.hid h3
  have H4 := Lib.hid h4
  have H5 := Lib.hid h5
  have H6 := Lib.hid h6
  have H7 := Lib.hid h7
  have H8 := Lib.hid h8
  clear hz ho h1 h2 h3 h4 h5 h6 h7 h8
  unfold cV
  go_enter Tryz.func100, Tryz.ntmps100
  go_upto_region 1 with fail
  obtain ⟨W0, hW0⟩ : ∃ W0, W0 = ((w.alloc (.cells #[.complex .f32 (z 0).1 (z 0).2, .complex .f32 (z 1).1 (z 1).2, .complex .f32 (z 2).1 (z 2).2, .complex .f32 (z 3).1 (z 3).2] 167)).alloc (.cells #[.complex .f32 (o 0).1 (o 0).2, .complex .f32 (o 1).1 (o 1).2, .complex .f32 (o 2).1 (o 2).2, .complex .f32 (o 3).1 (o 3).2] 167)).alloc (.cells #[.int .i64 0, .int .i64 0, .int .i64 0, .int .i64 0, .int .i64 0, .int .i64 0, .int .i64 0, .int .i64 0] 175) := ⟨_, rfl⟩
  rw [← hW0]
  have B0 : Blk W0 w.heap.size 167 #[.complex .f32 (z 0).1 (z 0).2, .complex .f32 (z 1).1 (z 1).2, .complex .f32 (z 2).1 (z 2).2, .complex .f32 (z 3).1 (z 3).2] := by rw [hW0]; exact ((Blk.new w _ _).alloc _).alloc _
  have B1 : Blk W0 (w.heap.size + 1) 167 #[.complex .f32 (o 0).1 (o 0).2, .complex .f32 (o 1).1 (o 1).2, .complex .f32 (o 2).1 (o 2).2, .complex .f32 (o 3).1 (o 3).2] := by
    rw [hW0]; have := Blk.new (w.alloc (.cells #[.complex .f32 (z 0).1 (z 0).2, .complex .f32 (z 1).1 (z 1).2, .complex .f32 (z 2).1 (z 2).2, .complex .f32 (z 3).1 (z 3).2] 167)) 167 #[.complex .f32 (o 0).1 (o 0).2, .complex .f32 (o 1).1 (o 1).2, .complex .f32 (o 2).1 (o 2).2, .complex .f32 (o 3).1 (o 3).2]; rw [World.size_alloc] at this; exact this.alloc _
  have B2 : Hid (Blk W0 (w.heap.size + 1 + 1) 175 #[.int .i64 0, .int .i64 0, .int .i64 0, .int .i64 0, .int .i64 0, .int .i64 0, .int .i64 0, .int .i64 0]) := by
    rw [hW0]; have := Blk.new ((w.alloc (.cells #[.complex .f32 (z 0).1 (z 0).2, .complex .f32 (z 1).1 (z 1).2, .complex .f32 (z 2).1 (z 2).2, .complex .f32 (z 3).1 (z 3).2] 167)).alloc (.cells #[.complex .f32 (o 0).1 (o 0).2, .complex .f32 (o 1).1 (o 1).2, .complex .f32 (o 2).1 (o 2).2, .complex .f32 (o 3).1 (o 3).2] 167)) 175 #[.int .i64 0, .int .i64 0, .int .i64 0, .int .i64 0, .int .i64 0, .int .i64 0, .int .i64 0, .int .i64 0]; rw [World.size_alloc, World.size_alloc] at this; exact this
  have HB : Hid (Below w.heap.size w W0) := by rw [hW0]; exact (((Below.refl _ w).alloc (Nat.le_refl _) _).alloc (by simp) _).alloc (by simp; omega) _
  clear hW0
  have HB0 := Lib.hid B0
  have HB1 := Lib.hid B1
  have HPz : Hid (∀ W, Calls Tryz.prog 167 #[.agg #[.complex .f32 (z 0).1 (z 0).2, .complex .f32 (z 1).1 (z 1).2, .complex .f32 (z 2).1 (z 2).2, .complex .f32 (z 3).1 (z 3).2]] W fun x w' => x = .returned (.int .i64 0) ∧ Below W.heap.size W w') := fun W => checkPanel_of z HZ.out W
  have HPo : Hid (∀ W, Calls Tryz.prog 167 #[.agg #[.complex .f32 (o 0).1 (o 0).2, .complex .f32 (o 1).1 (o 1).2, .complex .f32 (o 2).1 (o 2).2, .complex .f32 (o 3).1 (o 3).2]] W fun x w' => x = .returned (.int .i64 0) ∧ Below W.heap.size W w') := fun W => checkPanel_of o HO.out W
  clear B0 B1
  go_region_held3 (fun W => (W.cell? ⟨w.heap.size, 0, none⟩ = some (.complex .f32 (z 0).1 (z 0).2) ∧ W.cell? ⟨w.heap.size, 1, none⟩ = some (.complex .f32 (z 1).1 (z 1).2) ∧ W.cell? ⟨w.heap.size, 2, none⟩ = some (.complex .f32 (z 2).1 (z 2).2) ∧ W.cell? ⟨w.heap.size, 3, none⟩ = some (.complex .f32 (z 3).1 (z 3).2)) ∧ W.cell? ⟨w.heap.size + 1, 0, none⟩ = some (.complex .f32 (o 0).1 (o 0).2) ∧ W.cell? ⟨w.heap.size + 1, 1, none⟩ = some (.complex .f32 (o 1).1 (o 1).2) ∧ W.cell? ⟨w.heap.size + 1, 2, none⟩ = some (.complex .f32 (o 2).1 (o 2).2) ∧ W.cell? ⟨w.heap.size + 1, 3, none⟩ = some (.complex .f32 (o 3).1 (o 3).2))
    (first | with_reducible exact cells44 HB0.out.drew HB1.out.drew | with_reducible exact cells44 X0.out X1.out | with_reducible exact cells44 Y0.out Y1.out | with_reducible exact cells44 (Y0.out.alloc _) (Y1.out.alloc _))
    (first
      | (go_at_call 167; (with_reducible refine (HPz.out _).mono ?_); rintro x w4 ⟨rfl, hb4⟩; have X0 := Lib.hid (HB0.out.drew.below hb4); have X1 := Lib.hid (HB1.out.drew.below hb4); have X2 := Lib.hid (B2.out.drew.below hb4); have XB := Lib.hid (HB.out.drew.trans (hb4.mono HB.out.drew.size)); clear hb4)
      | (go_at_call 167; (with_reducible refine (HPo.out _).mono ?_); rintro x w5 ⟨rfl, hb5⟩; have Y0 := Lib.hid (X0.out.below hb5); have Y1 := Lib.hid (X1.out.below hb5); have Y2 := Lib.hid (X2.out.below hb5); have YB := Lib.hid (XB.out.trans (hb5.mono XB.out.size)); clear hb5)
      | (go_at_call 103; (with_reducible refine (first2 _ _ 0 0 _ (by go_simp) (by go_simp)).mono ?_); rintro x w6 ⟨rfl, rfl⟩))
  simp only [show firstE [0, 0] = 0 from rfl]
  obtain ⟨W1, hW1⟩ : ∃ W1, W1 = w5.alloc (.cells #[.int .i64 0, .int .i64 0] 27) := ⟨_, rfl⟩
  have C0 : Hid (Blk W1 w.heap.size 167 (part4 (.complex .f32 0 0) (fun i => .complex .f32 (z i).1 (z i).2) 4)) := by rw [hW1]; exact Y0.out.alloc _
  have C1 : Hid (Blk W1 (w.heap.size + 1) 167 (part4 (.complex .f32 0 0) (fun i => .complex .f32 (o i).1 (o i).2) 4)) := by rw [hW1]; exact Y1.out.alloc _
  have C2 : Hid (Blk W1 (w.heap.size + 1 + 1) 175 #[.int .i64 0, .int .i64 0, .int .i64 0, .int .i64 0, .int .i64 0, .int .i64 0, .int .i64 0, .int .i64 0]) := by rw [hW1]; exact Y2.out.alloc _
  have HC : Hid (Below w.heap.size w W1) := by rw [hW1]; exact YB.out.alloc YB.out.size _
  rw [← hW1]
  clear hW1 HB0 HB1 B2 HB X0 X1 X2 XB Y0 Y1 Y2 YB HPz HPo
  go_upto_region 5 with fail
  obtain ⟨g, hg⟩ : ∃ g, g = W1.heap.size := ⟨_, rfl⟩
  obtain ⟨W2, hW2⟩ : ∃ W2, W2 = W1.alloc (.cells #[.int .i64 0, .int .i64 0, .int .i64 0, .int .i64 0, .int .i64 0, .int .i64 0, .int .i64 0, .int .i64 0] 175) := ⟨_, rfl⟩
  have D0 : Hid (Blk W2 w.heap.size 167 (part4 (.complex .f32 0 0) (fun i => .complex .f32 (z i).1 (z i).2) 4)) := by rw [hW2]; exact C0.out.alloc _
  have D1 : Hid (Blk W2 (w.heap.size + 1) 167 (part4 (.complex .f32 0 0) (fun i => .complex .f32 (o i).1 (o i).2) 4)) := by rw [hW2]; exact C1.out.alloc _
  have D2 : Hid (Blk W2 (w.heap.size + 1 + 1) 175 #[.int .i64 0, .int .i64 0, .int .i64 0, .int .i64 0, .int .i64 0, .int .i64 0, .int .i64 0, .int .i64 0]) := by rw [hW2]; exact C2.out.alloc _
  have D5 : Hid (Blk W2 g 175 (partG r 0)) := by rw [hW2, hg]; exact Blk.new W1 _ _
  have hgw : w.heap.size + 1 + 1 < g := by rw [hg]; exact C2.out.below_lt
  have HD : Hid (Below w.heap.size w W2) := by rw [hW2]; exact HC.out.alloc HC.out.size _
  rw [← hW2, ← hg]
  clear hW2 hg C0 C1 C2 HC
  go_wp2_with fail
  go_loopw [8, 9, 10, 11, 22] (fun _ _ _ _ i wr => ∃ k : Nat, k ≤ 4 ∧ i = .int .i64 k ∧ Blk wr w.heap.size 167 (part4 (.complex .f32 0 0) (fun i => .complex .f32 (z i).1 (z i).2) 4) ∧ Blk wr (w.heap.size + 1) 167 (part4 (.complex .f32 0 0) (fun i => .complex .f32 (o i).1 (o i).2) 4) ∧ Blk wr (w.heap.size + 1 + 1) 175 #[.int .i64 0, .int .i64 0, .int .i64 0, .int .i64 0, .int .i64 0, .int .i64 0, .int .i64 0, .int .i64 0] ∧ Blk wr g 175 (partG r k) ∧ Below w.heap.size w wr) (fun _ _ _ _ i _ => 4 - (intOf i).toNat)
  case atStart => exact ⟨0, Nat.zero_le _, rfl, D0.out, D1.out, D2.out, D5.out, HD.out⟩
  case round =>
    clear D0 D1 D2 D5 HD
    obtain ⟨k, hk, rfl, b0, b1, b2, b5, hb⟩ := hrel
    have B0 := Lib.hid b0
    have B1 := Lib.hid b1
    have B2 := Lib.hid b2
    have B5 := Lib.hid b5
    have HB := Lib.hid hb
    clear hb
    by_cases hlt : k < 4
    · have c0 := (b0.cell k).trans (part4_at _ _ 4 k hlt)
      have c1 := (b1.cell k).trans (part4_at _ _ 4 k hlt)
      rw [if_pos hlt] at c0 c1
      have c5 := (b5.cell (k * 2)).trans (partG_at r k _ (by omega))
      have c6 := (b5.cell (k * 2 + 1)).trans (partG_at r k _ (by omega))
      rw [if_neg (by omega)] at c5 c6
      have f5 := b5.frozen (k * 2)
      have f6 := b5.frozen (k * 2 + 1)
      clear b0 b1 b2 b5
      have hk4 : (k : Int) < 4 := by omega
      have q1 := H1.out k hlt
      have q2 := H2.out k hlt
      have q3 := H3.out k hlt
      have q4 := H4.out k hlt
      go_wp2_with fail
      go_quiet (fail)
      clear q1 q2 q3 q4
      have q5 : ∀ w', (Op.unary .neg (.float .f64 (d k).2)).run Tryz.prog w' = .ok (.float .f64 (nb k)) w' := fun w' => by rw [← H5.out k hlt]; rfl
      have q6 := H6.out k hlt
      have q7 := H7.out k hlt
      have q8 := H8.out k hlt
      go_wp2
      go_roundw
      case rel =>
        first
          | exact ⟨k + 1, by omega, by go_num, ((B0.out.drewN _).far (p := ⟨g, k * 2, none⟩) (by simp; omega) _).far (p := ⟨g, k * 2 + 1, none⟩) (by simp; omega) _, ((B1.out.drewN _).far (p := ⟨g, k * 2, none⟩) (by simp; omega) _).far (p := ⟨g, k * 2 + 1, none⟩) (by simp; omega) _, ((B2.out.drewN _).far (p := ⟨g, k * 2, none⟩) (by simp; omega) _).far (p := ⟨g, k * 2 + 1, none⟩) (by simp; omega) _, (B5.out.drewN _).partG hlt, ((below_drewN' HB.out _).setCell (p := ⟨g, k * 2, none⟩) (by simp; omega) _).setCell (p := ⟨g, k * 2 + 1, none⟩) (by simp; omega) _⟩
          | ((repeat apply Exists.intro); exact ⟨⟨k + 1, by omega, by go_num, ((B0.out.drewN _).far (p := ⟨g, k * 2, none⟩) (by simp; omega) _).far (p := ⟨g, k * 2 + 1, none⟩) (by simp; omega) _, ((B1.out.drewN _).far (p := ⟨g, k * 2, none⟩) (by simp; omega) _).far (p := ⟨g, k * 2 + 1, none⟩) (by simp; omega) _, ((B2.out.drewN _).far (p := ⟨g, k * 2, none⟩) (by simp; omega) _).far (p := ⟨g, k * 2 + 1, none⟩) (by simp; omega) _, (B5.out.drewN _).partG hlt, ((below_drewN' HB.out _).setCell (p := ⟨g, k * 2, none⟩) (by simp; omega) _).setCell (p := ⟨g, k * 2 + 1, none⟩) (by simp; omega) _⟩, rfl⟩)
      case measure => simp [intOf]; omega
    · obtain rfl : k = 4 := by omega
      clear b0 b1
      rw [partG_four] at b5
      have yc0 := b5.cell 0; have yf0 := b5.frozen 0; have yc1 := b5.cell 1; have yf1 := b5.frozen 1; have yc2 := b5.cell 2; have yf2 := b5.frozen 2; have yc3 := b5.cell 3; have yf3 := b5.frozen 3; have yc4 := b5.cell 4; have yf4 := b5.frozen 4; have yc5 := b5.cell 5; have yf5 := b5.frozen 5; have yc6 := b5.cell 6; have yf6 := b5.frozen 6; have yc7 := b5.cell 7; have yf7 := b5.frozen 7
      simp only [List.getElem?_toArray, List.getElem?_cons_zero, List.getElem?_cons_succ] at yc0 yc1 yc2 yc3 yc4 yc5 yc6 yc7
      clear b5
      have zc0 := b2.cell 0; have zf0 := b2.frozen 0; have zc1 := b2.cell 1; have zf1 := b2.frozen 1; have zc2 := b2.cell 2; have zf2 := b2.frozen 2; have zc3 := b2.cell 3; have zf3 := b2.frozen 3; have zc4 := b2.cell 4; have zf4 := b2.frozen 4; have zc5 := b2.cell 5; have zf5 := b2.frozen 5; have zc6 := b2.cell 6; have zf6 := b2.frozen 6; have zc7 := b2.cell 7; have zf7 := b2.frozen 7
      simp only [List.getElem?_toArray, List.getElem?_cons_zero, List.getElem?_cons_succ] at zc0 zc1 zc2 zc3 zc4 zc5 zc6 zc7
      clear b2
      clear yf0 yf1 yf2 yf3 yf4 yf5 yf6 yf7
      go_wp2
      generalize hWf : World.setCell _ _ _ = Wf
      have D : Blk Wf (w.heap.size + 1 + 1) 175 #[.int .i64 (r 0).1, .int .i64 (r 0).2, .int .i64 (r 1).1, .int .i64 (r 1).2, .int .i64 (r 2).1, .int .i64 (r 2).2, .int .i64 (r 3).1, .int .i64 (r 3).2] := by rw [← hWf]; exact B2.out.set8 _ _ _ _ _ _ _ _
      have hBf : Below w.heap.size w Wf := by
        rw [← hWf]
        exact below_set8 HB.out (by omega) _ _ _ _ _ _ _ _
      obtain ⟨d0, d1, d2, d3, d4, d5, d6, d7⟩ := results8 D
      exact bodyPost_ret (v := .tuple #[.agg #[.int .i64 (r 0).1, .int .i64 (r 0).2, .int .i64 (r 1).1, .int .i64 (r 1).2, .int .i64 (r 2).1, .int .i64 (r 2).2, .int .i64 (r 3).1, .int .i64 (r 3).2], .int .i64 0]) (by simp [results, Tryz.results100, go_sem, d0, d1, d2, d3, d4, d5, d6, d7]) rfl ⟨rfl, hBf⟩
end Go.Proofs.YtoipafnlcchmbaaGreatDoor
