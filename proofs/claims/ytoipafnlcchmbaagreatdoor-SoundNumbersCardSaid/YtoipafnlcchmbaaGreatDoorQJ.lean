/- Floats: the checks of a sample, at bits whose steps are known. Samples whose checks find nothing. The turn of complex numbers, and floats in which the checks find nothing. The transform of four samples. -/
import Derived.Test.YtoipafnlcchmbaaGreatDoorQA
import Derived.Laws.FloatArith
import Derived.Laws.ComplexArith
import Derived.Test.YtoipafnlcchmbaaGreatDoorQB
import Derived.StillTailTactics
import Derived.Deep.DeepCutAuto
namespace Go.Proofs.YtoipafnlcchmbaaGreatDoor
open Go.RowKit

@[go_sem] theorem run_store_complexJ {P : Program} {w : World} {a : Addr} {m : Mode} (k : FloatKind) (x y : Nat) : (store a (.complex k x y) m).run P w = stored P w a (.complex k x y) m := run_store P w a _ m rfl
@[go_sem] theorem run_store_floatJ {P : Program} {w : World} {a : Addr} {m : Mode} (k : FloatKind) (x : Nat) : (store a (.float k x) m).run P w = stored P w a (.float k x) m := run_store P w a _ m rfl
@[go_sem] theorem call_f32bits (b : Nat) (w : World) : (callFunc 176 #[.float .f32 b]).run Tryz.prog w = .ok (.value (.int .u32 (b : Int))) w := by
  rw [run_callFunc_extern Tryz.func176 (by kernel_rfl) (by kernel_rfl) (by kernel_rfl) (e := Extern.MathFloatBits.float32bits) (by kernel_rfl)]
  rfl
@[go_sem] theorem call_f32from (b : Int) (w : World) : (callFunc 179 #[.int .u32 b]).run Tryz.prog w = .ok (.value (.float .f32 b.toNat)) w := by
  rw [run_callFunc_extern Tryz.func179 (by kernel_rfl) (by kernel_rfl) (by kernel_rfl) (e := Extern.MathFloatBits.float32frombits) (by kernel_rfl)]
  rfl
@[go_sem] theorem call_f64bits (b : Nat) (w : World) : (callFunc 201 #[.float .f64 b]).run Tryz.prog w = .ok (.value (.int .u64 (b : Int))) w := by
  rw [run_callFunc_extern Tryz.func201 (by kernel_rfl) (by kernel_rfl) (by kernel_rfl) (e := Extern.MathFloatBits.float64bits) (by kernel_rfl)]
  rfl
@[go_sem] theorem call_f64from (b : Int) (w : World) : (callFunc 200 #[.int .u64 b]).run Tryz.prog w = .ok (.value (.float .f64 b.toNat)) w := by
  rw [run_callFunc_extern Tryz.func200 (by kernel_rfl) (by kernel_rfl) (by kernel_rfl) (e := Extern.MathFloatBits.float64frombits) (by kernel_rfl)]
  rfl
theorem call_trunc (z t : Nat) (h : ∀ w, (Extern.MathFloor.toIntegral "math.archTrunc" .zero #[.float .f64 z]).run Tryz.prog w = .ok (.float .f64 t) w) (w : World) : (callFunc 190 #[.float .f64 z]).run Tryz.prog w = .ok (.value (.float .f64 t)) w := by
  rw [run_callFunc_extern Tryz.func190 (by kernel_rfl) (by kernel_rfl) (by kernel_rfl) (e := Extern.MathFloor.toIntegral "math.archTrunc" .zero) (by kernel_rfl), h]
  rfl

theorem isNaN_of (y : Nat) (w : World) (hn : (FloatKind.f64.format.order y y != some .eq) = false) :
    Calls Tryz.prog 168 #[.float .f64 y] w fun e w' => e = .returned (.bool false) ∧ w = w' := by
  go_enter Tryz.func168, Tryz.ntmps168
  go_wp2
  go_ret
  exact ⟨rfl, rfl⟩

theorem abs_of (y a : Nat) (w : World) (ha : (bits .andNot .u64 (y : Int) 9223372036854775808).toNat = a) :
    Calls Tryz.prog 189 #[.float .f64 y] w fun e w' => e = .returned (.float .f64 a) ∧ w = w' := by
  go_enter Tryz.func189, Tryz.ntmps189
  go_wp2
  go_ret
  exact ⟨rfl, rfl⟩

theorem isInf_of (y a : Nat) (w : World) (ha : (bits .andNot .u64 (y : Int) 9223372036854775808).toNat = a)
    (hi : (FloatKind.f64.format.order a 9218868437227405311 == some .gt) = false) :
    Calls Tryz.prog 169 #[.float .f64 y, .int .i64 0] w fun e w' => e = .returned (.bool false) ∧ w = w' := by
  go_enter Tryz.func169, Tryz.ntmps169
  go_wp2_with fail
  refine (abs_of y a _ ha).mono ?_
  rintro e w' ⟨rfl, rfl⟩
  go_wp2
  go_ret
  exact ⟨rfl, rfl⟩

theorem trunc_of (z t : Nat) (w : World) (h : ∀ w, (Extern.MathFloor.toIntegral "math.archTrunc" .zero #[.float .f64 z]).run Tryz.prog w = .ok (.float .f64 t) w) :
    Calls Tryz.prog 170 #[.float .f64 z] w fun e w' => e = .returned (.float .f64 t) ∧ w = w' := by
  have hc := call_trunc z t h
  clear h
  go_enter Tryz.func170, Tryz.ntmps170
  go_wp2
  go_ret
  exact ⟨rfl, rfl⟩

theorem finite_of (b y a : Nat) (w : World) (hc : floatToFloatBits .f32 b .f64 = some y) (hn : (FloatKind.f64.format.order y y != some .eq) = false)
    (ha : (bits .andNot .u64 (y : Int) 9223372036854775808).toNat = a)
    (hi : (FloatKind.f64.format.order a 9218868437227405311 == some .gt) = false) :
    Calls Tryz.prog 108 #[.float .f32 b] w fun e w' => e = .returned (.int .i64 0) ∧ w = w' := by
  have hcv : ∀ w', (convert 37 254 (.float .f32 b)).run Tryz.prog w' = .ok (.float .f64 y) w' := fun w' => run_convert_float_float w' _ _ .f32 .f64 b y (by rw [Tryz.underlying37]; rfl) Tryz.underlying254 hc
  clear hc
  go_enter Tryz.func108, Tryz.ntmps108
  go_wp2_with fail
  refine (isNaN_of y _ hn).mono ?_
  rintro e w' ⟨rfl, rfl⟩
  go_wp2_with fail
  refine (isInf_of y a _ ha hi).mono ?_
  rintro e w' ⟨rfl, rfl⟩
  go_wp2
  go_ret
  exact ⟨rfl, rfl⟩

theorem stepped_of (b l nl y z t : Nat) (w : World) (hc : floatToFloatBits .f32 b .f64 = some y) (hm : floatBits .mul .f64 y 4625196817309499392 = some z) (hng : Op.negFloat .f32 l = nl)
    (h1 : (FloatKind.f32.format.order b nl == some .lt) = false) (h2 : (FloatKind.f32.format.order b l == some .gt) = false)
    (ht : ∀ w, (Extern.MathFloor.toIntegral "math.archTrunc" .zero #[.float .f64 z]).run Tryz.prog w = .ok (.float .f64 t) w) (hz : (FloatKind.f64.format.order z t != some .eq) = false) :
    Calls Tryz.prog 109 #[.float .f32 b, .float .f32 l] w fun e w' => e = .returned (.int .i64 0) ∧ w = w' := by
  have hcv : ∀ w', (convert 37 254 (.float .f32 b)).run Tryz.prog w' = .ok (.float .f64 y) w' := fun w' => run_convert_float_float w' _ _ .f32 .f64 b y (by rw [Tryz.underlying37]; rfl) Tryz.underlying254 hc
  have hml : ∀ w', (binOp .mul 254 (.float .f64 y) (.float .f64 4625196817309499392)).run Tryz.prog w' = .ok (.float .f64 z) w' := fun w' => run_float_arith w' .mul _ .f64 y _ z hm
  have hne : ∀ w', (Op.unary .neg (.float .f32 l)).run Tryz.prog w' = .ok (.float .f32 nl) w' := fun w' => by subst hng; rfl
  have HT := Lib.hid ht
  clear hc hm ht hng
  go_enter Tryz.func109, Tryz.ntmps109
  go_wp2_with fail
  refine (trunc_of z t _ HT.out).mono ?_
  rintro e w' ⟨rfl, rfl⟩
  go_wp2
  go_ret
  exact ⟨rfl, rfl⟩
end Go.Proofs.YtoipafnlcchmbaaGreatDoor
namespace Go.Proofs.YtoipafnlcchmbaaGreatDoor
open Go.RowKit

/-- A float in which the checks find nothing within a limit. -/
def Good (l b : Nat) : Prop := ∀ w, (Calls Tryz.prog 108 #[.float .f32 b] w fun e w' => e = .returned (.int .i64 0) ∧ w = w') ∧ (Calls Tryz.prog 109 #[.float .f32 b, .float .f32 l] w fun e w' => e = .returned (.int .i64 0) ∧ w = w')

set_option maxRecDepth 100000 in
theorem checkSample_good (b : Nat) (w : World) (h : Good 1149239296 b) :
    Calls Tryz.prog 27 #[.float .f32 b] w fun e w' => e = .returned (.int .i64 0) ∧ Below w.heap.size w w' := by
  have H := Lib.hid h
  clear h
  go_enter Tryz.func27, Tryz.ntmps27
  go_wp2_with fail
  refine (H.out _).1.mono ?_
  rintro e w' ⟨rfl, rfl⟩
  go_wp2_with fail
  refine (H.out _).2.mono ?_
  rintro e w' ⟨rfl, rfl⟩
  go_wp2_with fail
  refine (first2 _ _ 0 0 _ (by go_simp) (by go_simp)).mono ?_
  rw [show firstE [0, 0] = 0 from rfl]
  rintro e w' ⟨rfl, rfl⟩
  go_wp2
  go_ret
  exact ⟨rfl, (Below.refl _ _).alloc (Nat.le_refl _) _⟩

/-- A slice of floats reads as a list of bits. -/
def FlAt (w : World) (A : Option Addr) (n : Nat) (fs : List Nat) : Prop :=
  fs.length = n ∧ (0 < n → ∃ b off, A = some ⟨b, off, none⟩ ∧ ∀ i, i < n → w.cell? ⟨b, off + i, none⟩ = some (.float .f32 (fs.getD i 0)))
theorem FlAt.keep {w w' : World} {A : Option Addr} {n : Nat} {zs : List Nat} (h : FlAt w A n zs) (hb : Below w.heap.size w w') : FlAt w' A n zs := by
  refine ⟨h.1, fun hn => ?_⟩
  obtain ⟨b, off, rfl, hc⟩ := h.2 hn
  exact ⟨b, off, rfl, fun i hi => by
    have h1 := hc i hi
    rw [hb.cell (p := ⟨b, off + i, none⟩) (World.block_lt_of_cell? _ _ h1)]
    exact h1⟩

set_option maxHeartbeats 1000000 in
set_option maxRecDepth 100000 in
theorem each_float (F : FuncId) (A : Option Addr) (n c : Nat) (fs : List Nat) (w : World) (hn : n ≤ 140737488351232)
    (hE : ∀ (args : Array Value) (W : World), (callFunc F args).run Tryz.prog W = .ok (.enter F args) W)
    (hF : ∀ i, i < n → ∀ (W : World), Calls Tryz.prog F #[.float .f32 (fs.getD i 0)] W fun e w' => e = .returned (.int .i64 0) ∧ Below W.heap.size W w')
    (hz : FlAt w A n fs) :
    Calls Tryz.prog 112 #[.slice A n c, .func (.func F) #[] #[]] w fun e w' => e = .returned (.int .i64 0) ∧ Below w.heap.size w w' := by
  have HZ := Lib.hid hz
  have HF := Lib.hid hF
  clear hz hF
  go_enter Tryz.func112, Tryz.ntmps112
  go_wp2
  go_loopw [7, 10] (fun _ i wr => ∃ k : Nat, k ≤ n ∧ i = .int .i64 k ∧ Below w.heap.size w wr) (fun _ i _ => n - (intOf i).toNat)
  case atStart => exact ⟨0, Nat.zero_le _, rfl, Below.refl _ _⟩
  case round =>
    obtain ⟨k, hk, rfl, hb⟩ := hrel
    have HB := Lib.hid hb
    by_cases hlt : k < n
    · obtain ⟨b, off, rfl, hcc⟩ := (HZ.out.keep hb).2 (by omega)
      clear hb
      have hf := HF.out k hlt
      obtain ⟨x, hx⟩ : ∃ x, x = fs.getD k 0 := ⟨_, rfl⟩
      have h0 := hcc k hlt
      rw [← hx] at h0 hf
      have HFX := Lib.hid hf
      clear hcc hx hf
      go_wp2_with fail
      refine (HFX.out _).mono ?_
      rintro e w1 ⟨rfl, hb1⟩
      have HB1 : Hid (Below w.heap.size w w1) := HB.out.trans (hb1.mono HB.out.size)
      clear hb1
      go_wp2
      go_roundw
      case rel => exact ⟨k + 1, by omega, by go_num, HB1.out⟩
      case measure => simp [intOf]; omega
    · clear hb
      go_wp2
      go_ret
      exact ⟨rfl, HB.out⟩

theorem atMost_float (A : Option Addr) (n c : Nat) (w : World) (h : n ≤ 4096) :
    Calls Tryz.prog 111 #[.slice A n c, .int .i64 4096] w fun e w' => e = .returned (.int .i64 0) ∧ w = w' := by
  go_enter Tryz.func111, Tryz.ntmps111
  go_wp2
  go_ret
  exact ⟨rfl, rfl⟩

theorem enters_checkSample (args : Array Value) (W : World) : (callFunc 27 args).run Tryz.prog W = .ok (.enter 27 args) W := by kernel_rfl

set_option maxRecDepth 100000 in
theorem checkSamples_good (A : Option Addr) (n c : Nat) (fs : List Nat) (w : World) (hn : n ≤ 4096) (hz : FlAt w A n fs) (hg : ∀ i, i < n → Good 1149239296 (fs.getD i 0)) :
    Calls Tryz.prog 29 #[.slice A n c] w fun e w' => e = .returned (.int .i64 0) ∧ Below w.heap.size w w' := by
  have HZ := Lib.hid hz
  have HG := Lib.hid hg
  clear hz hg
  go_enter Tryz.func29, Tryz.ntmps29
  go_wp2_with fail
  refine (atMost_float _ _ _ _ hn).mono ?_
  rintro e w' ⟨rfl, rfl⟩
  go_wp2_with fail
  refine (each_float 27 A n c fs _ (by omega) enters_checkSample (fun i hi W => checkSample_good _ W (HG.out i hi)) HZ.out).mono ?_
  rintro e w1 ⟨rfl, hb⟩
  have HB := Lib.hid hb
  clear hb
  go_wp2_with fail
  refine (first2 _ _ 0 0 _ (by go_simp) (by go_simp)).mono ?_
  rw [show firstE [0, 0] = 0 from rfl]
  rintro e w' ⟨rfl, rfl⟩
  go_wp2
  go_ret
  exact ⟨rfl, HB.out.alloc HB.out.size _⟩
end Go.Proofs.YtoipafnlcchmbaaGreatDoor
namespace Go.Proofs.YtoipafnlcchmbaaGreatDoor
open Go.RowKit

theorem good_1 : Good 1149239296 1065353216 := fun w => ⟨finite_of 1065353216 4607182418800017408 4607182418800017408 w (by kernel_rfl) (by kernel_rfl) (by kernel_rfl) (by kernel_rfl), stepped_of 1065353216 1149239296 3296722944 4607182418800017408 4625196817309499392 4625196817309499392 w (by kernel_rfl) (by kernel_rfl) (by kernel_rfl) (by kernel_rfl) (by kernel_rfl) (fun w => by kernel_rfl) (by kernel_rfl)⟩
theorem good_2 : Good 1149239296 1073741824 := fun w => ⟨finite_of 1073741824 4611686018427387904 4611686018427387904 w (by kernel_rfl) (by kernel_rfl) (by kernel_rfl) (by kernel_rfl), stepped_of 1073741824 1149239296 3296722944 4611686018427387904 4629700416936869888 4629700416936869888 w (by kernel_rfl) (by kernel_rfl) (by kernel_rfl) (by kernel_rfl) (by kernel_rfl) (fun w => by kernel_rfl) (by kernel_rfl)⟩
theorem good_3 : Good 1149239296 1077936128 := fun w => ⟨finite_of 1077936128 4613937818241073152 4613937818241073152 w (by kernel_rfl) (by kernel_rfl) (by kernel_rfl) (by kernel_rfl), stepped_of 1077936128 1149239296 3296722944 4613937818241073152 4631952216750555136 4631952216750555136 w (by kernel_rfl) (by kernel_rfl) (by kernel_rfl) (by kernel_rfl) (by kernel_rfl) (fun w => by kernel_rfl) (by kernel_rfl)⟩
theorem good_4 : Good 1149239296 1082130432 := fun w => ⟨finite_of 1082130432 4616189618054758400 4616189618054758400 w (by kernel_rfl) (by kernel_rfl) (by kernel_rfl) (by kernel_rfl), stepped_of 1082130432 1149239296 3296722944 4616189618054758400 4634204016564240384 4634204016564240384 w (by kernel_rfl) (by kernel_rfl) (by kernel_rfl) (by kernel_rfl) (by kernel_rfl) (fun w => by kernel_rfl) (by kernel_rfl)⟩
theorem good_half : Good 1149239296 3204448256 := fun w => ⟨finite_of 3204448256 13826050856027422720 4602678819172646912 w (by kernel_rfl) (by kernel_rfl) (by kernel_rfl) (by kernel_rfl), stepped_of 3204448256 1149239296 3296722944 13826050856027422720 13844065254536904704 13844065254536904704 w (by kernel_rfl) (by kernel_rfl) (by kernel_rfl) (by kernel_rfl) (by kernel_rfl) (fun w => by kernel_rfl) (by kernel_rfl)⟩
theorem part_10 : Good 1166016512 1092616192 := fun w => ⟨finite_of 1092616192 4621819117588971520 4621819117588971520 w (by kernel_rfl) (by kernel_rfl) (by kernel_rfl) (by kernel_rfl), stepped_of 1092616192 1166016512 3313500160 4621819117588971520 4639833516098453504 4639833516098453504 w (by kernel_rfl) (by kernel_rfl) (by kernel_rfl) (by kernel_rfl) (by kernel_rfl) (fun w => by kernel_rfl) (by kernel_rfl)⟩
theorem part_0 : Good 1166016512 0 := fun w => ⟨finite_of 0 0 0 w (by kernel_rfl) (by kernel_rfl) (by kernel_rfl) (by kernel_rfl), stepped_of 0 1166016512 3313500160 0 0 0 w (by kernel_rfl) (by kernel_rfl) (by kernel_rfl) (by kernel_rfl) (by kernel_rfl) (fun w => by kernel_rfl) (by kernel_rfl)⟩
theorem part_m2 : Good 1166016512 3221225472 := fun w => ⟨finite_of 3221225472 13835058055282163712 4611686018427387904 w (by kernel_rfl) (by kernel_rfl) (by kernel_rfl) (by kernel_rfl), stepped_of 3221225472 1166016512 3313500160 13835058055282163712 13853072453791645696 13853072453791645696 w (by kernel_rfl) (by kernel_rfl) (by kernel_rfl) (by kernel_rfl) (by kernel_rfl) (fun w => by kernel_rfl) (by kernel_rfl)⟩
theorem part_2 : Good 1166016512 1073741824 := fun w => ⟨finite_of 1073741824 4611686018427387904 4611686018427387904 w (by kernel_rfl) (by kernel_rfl) (by kernel_rfl) (by kernel_rfl), stepped_of 1073741824 1166016512 3313500160 4611686018427387904 4629700416936869888 4629700416936869888 w (by kernel_rfl) (by kernel_rfl) (by kernel_rfl) (by kernel_rfl) (by kernel_rfl) (fun w => by kernel_rfl) (by kernel_rfl)⟩
theorem part_1 : Good 1166016512 1065353216 := fun w => ⟨finite_of 1065353216 4607182418800017408 4607182418800017408 w (by kernel_rfl) (by kernel_rfl) (by kernel_rfl) (by kernel_rfl), stepped_of 1065353216 1166016512 3313500160 4607182418800017408 4625196817309499392 4625196817309499392 w (by kernel_rfl) (by kernel_rfl) (by kernel_rfl) (by kernel_rfl) (by kernel_rfl) (fun w => by kernel_rfl) (by kernel_rfl)⟩

/-- A product, a sum of two complex numbers, in every world. -/
def MulC (a b r : Nat × Nat) : Prop := ∀ w : World, (binOp .mul 166 (.complex .f32 a.1 a.2) (.complex .f32 b.1 b.2)).run Tryz.prog w = .ok (.complex .f32 r.1 r.2) w
def AddC (a b r : Nat × Nat) : Prop := ∀ w : World, (binOp .add 166 (.complex .f32 a.1 a.2) (.complex .f32 b.1 b.2)).run Tryz.prog w = .ok (.complex .f32 r.1 r.2) w
def cV (a : Nat × Nat) : Value := .complex .f32 a.1 a.2

theorem index4 (k : Nat) (hk : k < 4) (v : Nat → Value) (W : World) : (Instr.index 167 (.agg #[v 0, v 1, v 2, v 3]) (.int .i64 (k : Int))).run Tryz.prog W = .ok (v k) W := by
  match k, hk with
  | 0, _ => show _ = _; kernel_rfl
  | 1, _ => show _ = _; kernel_rfl
  | 2, _ => show _ = _; kernel_rfl
  | 3, _ => show _ = _; kernel_rfl

set_option maxHeartbeats 1000000 in
set_option maxRecDepth 100000 in
theorem turned_of (z s t p m : Nat → Nat × Nat) (u : Nat × Nat) (k : Nat) (hk : k ≤ 3) (hs0 : s 0 = (1065353216, 0)) (hs : ∀ j, j < k → MulC (s j) u (s (j + 1)))
    (ht0 : t 0 = (1065353216, 0)) (ht : ∀ n, n < 4 → MulC (t n) (s k) (t (n + 1))) (hp : ∀ n, n < 4 → MulC (z n) (t n) (p n)) (hm0 : m 0 = (0, 0)) (hm : ∀ n, n < 4 → AddC (m n) (p n) (m (n + 1))) (w : World) :
    Calls Tryz.prog 166 #[.agg #[cV (z 0), cV (z 1), cV (z 2), cV (z 3)], .complex .f32 u.1 u.2, .int .i64 (k : Int)] w fun e w' => e = .returned (.complex .f32 (m 4).1 (m 4).2) ∧ Below w.heap.size w w' := by
  have HS0 := Lib.hid hs0
  have HS := Lib.hid hs
  have HT0 := Lib.hid ht0
  have HT := Lib.hid ht
  have HP := Lib.hid hp
  have HM0 := Lib.hid hm0
  have HM := Lib.hid hm
  have HI := Lib.hid (fun k hk W => index4 k hk (fun n => cV (z n)) W)
  clear hs0 hs ht0 ht hp hm0 hm
  unfold cV
  go_enter Tryz.func166, Tryz.ntmps166
  go_wp2
  go_loop [9, 13] (fun st i => ∃ j : Nat, j ≤ k ∧ i = .int .i64 j ∧ st = .complex .f32 (s j).1 (s j).2) (fun _ i => k - (intOf i).toNat)
  case atStart => exact ⟨0, Nat.zero_le _, rfl, by rw [HS0.out]⟩
  case round =>
    obtain ⟨j, hj, rfl, rfl⟩ := hrel
    by_cases hlt : j < k
    · have h := HS.out j hlt
      unfold MulC at h
      go_wp2
      go_round
      case rel => exact ⟨j + 1, by omega, by go_num, rfl⟩
      case measure => simp [intOf]; omega
    · obtain rfl : j = k := by omega
      go_wp2
      go_loop [7, 8, 11, 20] (fun sm tn _ i => ∃ n : Nat, n ≤ 4 ∧ i = .int .i64 n ∧ sm = .complex .f32 (m n).1 (m n).2 ∧ tn = .complex .f32 (t n).1 (t n).2) (fun _ _ _ i => 4 - (intOf i).toNat)
      case atStart => exact ⟨0, Nat.zero_le _, rfl, by rw [HM0.out], by rw [HT0.out]⟩
      case round =>
        obtain ⟨n, hn, rfl, rfl, rfl⟩ := hrel
        by_cases hl4 : n < 4
        · have h1 := HT.out n hl4
          have h2 := HP.out n hl4
          have h3 := HM.out n hl4
          have h4 := HI.out n hl4
          unfold MulC at h1 h2
          unfold AddC at h3
          unfold cV at h4
          have hi4 : (n : Int) < 4 := by omega
          go_wp2
          go_round
          case rel => exact ⟨n + 1, by omega, by go_num, rfl, rfl⟩
          case measure => simp [intOf]; omega
        · obtain rfl : n = 4 := by omega
          go_wp2
          go_ret
          exact ⟨rfl, (Below.refl _ _).alloc (Nat.le_refl _) _⟩
end Go.Proofs.YtoipafnlcchmbaaGreatDoor
namespace Go.Proofs.YtoipafnlcchmbaaGreatDoor
open Go.RowKit

/-- Four cells of which the first ones are laid. -/
def part4 (z : Value) (f : Nat → Value) (k : Nat) : Array Value := ((List.range 4).map fun i => if i < k then f i else z).toArray
theorem part4_at (z : Value) (f : Nat → Value) (k i : Nat) (hi : i < 4) : (part4 z f k)[i]? = some (if i < k then f i else z) := by
  unfold part4
  simp [hi]
theorem part4_set (z : Value) (f : Nat → Value) (k : Nat) : (part4 z f k).setIfInBounds k (f k) = part4 z f (k + 1) := by
  apply Array.ext
  · simp [part4]
  · intro i h1 h2
    simp only [part4, List.size_toArray, List.length_map, List.length_range] at h2
    rw [Array.getElem_setIfInBounds]
    simp only [part4, List.getElem_toArray, List.getElem_map, List.getElem_range]
    by_cases h : k = i
    · subst h; simp
    · rw [if_neg h]
      by_cases h3 : i < k
      · rw [if_pos h3, if_pos (by omega)]
      · rw [if_neg h3, if_neg (by omega)]
    · simp [part4]; omega
theorem part4_zero (z : Value) (f : Nat → Value) : part4 z f 0 = #[z, z, z, z] := rfl
theorem part4_four (z : Value) (f : Nat → Value) : part4 z f 4 = #[f 0, f 1, f 2, f 3] := rfl
theorem Blk.set4 {w : World} {g : Nat} {t : TypeId} {a0 a1 a2 a3 : Value} (h : Blk w g t #[a0, a1, a2, a3]) (b0 b1 b2 b3 : Value) : Blk ((((w.setCell ⟨g, 0, none⟩ b0).setCell ⟨g, 1, none⟩ b1).setCell ⟨g, 2, none⟩ b2).setCell ⟨g, 3, none⟩ b3) g t #[b0, b1, b2, b3] := by
  have h1 : Blk _ g t #[b0, a1, a2, a3] := h.set_ 0 b0
  have h2 : Blk _ g t #[b0, b1, a2, a3] := h1.set_ 1 b1
  have h3 : Blk _ g t #[b0, b1, b2, a3] := h2.set_ 2 b2
  exact h3.set_ 3 b3
theorem below_set4 {B : Nat} {a w : World} {g : Nat} (h : Below B a w) (hp : B ≤ g) (b0 b1 b2 b3 : Value) : Below B a ((((w.setCell ⟨g, 0, none⟩ b0).setCell ⟨g, 1, none⟩ b1).setCell ⟨g, 2, none⟩ b2).setCell ⟨g, 3, none⟩ b3) :=
  (((h.setCell (p := ⟨g, 0, none⟩) hp b0).setCell (p := ⟨g, 1, none⟩) hp b1).setCell (p := ⟨g, 2, none⟩) hp b2).setCell (p := ⟨g, 3, none⟩) hp b3
theorem results4 {w : World} {g : Nat} {t : TypeId} {a0 a1 a2 a3 : Value} (h : Blk w g t #[a0, a1, a2, a3]) :
    w.cell? ⟨g, 0, none⟩ = some a0 ∧ w.cell? ⟨g, 1, none⟩ = some a1 ∧ w.cell? ⟨g, 2, none⟩ = some a2 ∧ w.cell? ⟨g, 3, none⟩ = some a3 := ⟨h.cell 0, h.cell 1, h.cell 2, h.cell 3⟩
theorem Blk.below_lt {w : World} {g : Nat} {t : TypeId} {cs : Array Value} (h : Blk w g t cs) : g < w.heap.size := lt_of_block h

def flV (b : Nat) : Value := .float .f32 b
theorem index4f (k : Nat) (hk : k < 4) (v : Nat → Value) (W : World) : (Instr.index 164 (.agg #[v 0, v 1, v 2, v 3]) (.int .i64 (k : Int))).run Tryz.prog W = .ok (v k) W := by
  match k, hk with
  | 0, _ => show _ = _; kernel_rfl
  | 1, _ => show _ = _; kernel_rfl
  | 2, _ => show _ = _; kernel_rfl
  | 3, _ => show _ = _; kernel_rfl

set_option maxHeartbeats 2000000 in
set_option maxRecDepth 100000 in
theorem Four_of (x : Nat → Nat) (r : Nat → Nat × Nat) (hx : ∀ i, i < 4 → Good 1149239296 (x i))
    (hT : ∀ k : Nat, k < 4 → ∀ W, Calls Tryz.prog 166 #[.agg #[.complex .f32 (x 0) 0, .complex .f32 (x 1) 0, .complex .f32 (x 2) 0, .complex .f32 (x 3) 0], .complex .f32 0 3212836864, .int .i64 (k : Int)] W fun e w' => e = .returned (cV (r k)) ∧ Below W.heap.size W w') (w : World) :
    Calls Tryz.prog 97 #[.agg #[flV (x 0), flV (x 1), flV (x 2), flV (x 3)]] w fun e w' => e = .returned (.tuple #[.agg #[cV (r 0), cV (r 1), cV (r 2), cV (r 3)], .int .i64 0]) ∧ Below w.heap.size w w' := by
  have HX := Lib.hid hx
  have HT := Lib.hid hT
  have HI := Lib.hid (fun k hk W => index4f k hk (fun n => flV (x n)) W)
  clear hx hT
  unfold flV
  go_enter Tryz.func97, Tryz.ntmps97
  go_wp2_with fail
  obtain ⟨W0, hW0⟩ : ∃ W0, W0 = (w.alloc (.cells #[.float .f32 (x 0), .float .f32 (x 1), .float .f32 (x 2), .float .f32 (x 3)] 164)).alloc (.cells #[.complex .f32 0 0, .complex .f32 0 0, .complex .f32 0 0, .complex .f32 0 0] 167) := ⟨_, rfl⟩
  rw [← hW0]
  have B0 : Blk W0 w.heap.size 164 #[.float .f32 (x 0), .float .f32 (x 1), .float .f32 (x 2), .float .f32 (x 3)] := by rw [hW0]; exact (Blk.new w _ _).alloc _
  have B1 : Blk W0 (w.heap.size + 1) 167 #[.complex .f32 0 0, .complex .f32 0 0, .complex .f32 0 0, .complex .f32 0 0] := by rw [hW0]; simpa using Blk.new (w.alloc (.cells #[.float .f32 (x 0), .float .f32 (x 1), .float .f32 (x 2), .float .f32 (x 3)] 164)) 167 #[.complex .f32 0 0, .complex .f32 0 0, .complex .f32 0 0, .complex .f32 0 0]
  have hB : Below w.heap.size w W0 := by rw [hW0]; exact ((Below.refl _ w).alloc (Nat.le_refl _) _).alloc (by simp) _
  have hF : FlAt W0 (some ⟨w.heap.size, 0, none⟩) 4 [x 0, x 1, x 2, x 3] := ⟨rfl, fun _ => ⟨w.heap.size, 0, rfl, fun i hi => by
    rw [Nat.zero_add, B0.cell i]
    match i, hi with
    | 0, _ => rfl
    | 1, _ => rfl
    | 2, _ => rfl
    | 3, _ => rfl⟩⟩
  have HB0 := Lib.hid B0
  have HB1 := Lib.hid B1
  have HB := Lib.hid hB
  clear hW0 B0 B1 hB
  refine (each_float 27 (some ⟨w.heap.size, 0, none⟩) 4 4 [x 0, x 1, x 2, x 3] W0 (by omega) enters_checkSample (fun i hi W => checkSample_good _ W (by
    match i, hi with
    | 0, _ => exact HX.out 0 (by omega)
    | 1, _ => exact HX.out 1 (by omega)
    | 2, _ => exact HX.out 2 (by omega)
    | 3, _ => exact HX.out 3 (by omega))) hF).mono ?_
  rintro e w1 ⟨rfl, hb⟩
  have C0 := HB0.out.below hb
  have C1 := Lib.hid (HB1.out.below hb)
  have HC := Lib.hid (HB.out.trans (hb.mono HB.out.size))
  have HC0 := Lib.hid C0
  clear hb HB0 HB1 HB hF
  clear C0
  go_upto_region 5 with fail
  obtain ⟨g, hg⟩ : ∃ g, g = w1.heap.size := ⟨_, rfl⟩
  obtain ⟨W2, hW2⟩ : ∃ W2, W2 = (w1.alloc (.cells #[.complex .f32 0 0, .complex .f32 0 0, .complex .f32 0 0, .complex .f32 0 0] 167)).alloc (.cells #[.complex .f32 0 0, .complex .f32 0 0, .complex .f32 0 0, .complex .f32 0 0] 167) := ⟨_, rfl⟩
  have D1 : Hid (Blk W2 (w.heap.size + 1) 167 #[.complex .f32 0 0, .complex .f32 0 0, .complex .f32 0 0, .complex .f32 0 0]) := by rw [hW2]; exact (C1.out.alloc _).alloc _
  have D5 : Hid (Blk W2 g 167 (part4 (.complex .f32 0 0) (fun i => .complex .f32 (x i) 0) 0)) := by rw [hW2, hg]; exact (Blk.new w1 _ _).alloc _
  have D6 : Hid (Blk W2 (g + 1) 167 (part4 (.complex .f32 0 0) (fun i => cV (r i)) 0)) := by rw [hW2, hg]; have := Blk.new (w1.alloc (.cells #[.complex .f32 0 0, .complex .f32 0 0, .complex .f32 0 0, .complex .f32 0 0] 167)) 167 #[.complex .f32 0 0, .complex .f32 0 0, .complex .f32 0 0, .complex .f32 0 0]; rw [World.size_alloc] at this; exact this
  have hgw : w.heap.size + 1 < g := by rw [hg]; exact C1.out.below_lt
  have HD : Hid (Below w.heap.size w W2) := by rw [hW2]; exact (HC.out.alloc HC.out.size _).alloc (by have := HC.out.size; simp; omega) _
  have D0 : Blk W2 w.heap.size 164 #[.float .f32 (x 0), .float .f32 (x 1), .float .f32 (x 2), .float .f32 (x 3)] := by rw [hW2]; exact (HC0.out.alloc _).alloc _
  rw [← hW2, ← hg]
  clear hW2 hg C1 HC HC0
  have xc0 := D0.cell 0; have xf0 := D0.frozen 0; have xc1 := D0.cell 1; have xf1 := D0.frozen 1; have xc2 := D0.cell 2; have xf2 := D0.frozen 2; have xc3 := D0.cell 3; have xf3 := D0.frozen 3
  simp only [List.getElem?_toArray, List.getElem?_cons_zero, List.getElem?_cons_succ] at xc0 xc1 xc2 xc3
  clear D0
  clear xf0 xf1 xf2 xf3
  go_wp2_with fail
  go_loopw [7, 8, 17] (fun _ _ i wr => ∃ k : Nat, k ≤ 4 ∧ i = .int .i64 k ∧ Blk wr (w.heap.size + 1) 167 #[.complex .f32 0 0, .complex .f32 0 0, .complex .f32 0 0, .complex .f32 0 0] ∧ Blk wr g 167 (part4 (.complex .f32 0 0) (fun i => .complex .f32 (x i) 0) k) ∧ Blk wr (g + 1) 167 (part4 (.complex .f32 0 0) (fun i => cV (r i)) 0) ∧ Below w.heap.size w wr) (fun _ _ i _ => 4 - (intOf i).toNat)
  case atStart => exact ⟨0, Nat.zero_le _, rfl, D1.out, D5.out, D6.out, HD.out⟩
  case round =>
    clear D1 D5 D6 HD
    obtain ⟨k, hk, rfl, b1, b5, b6, hb⟩ := hrel
    have B1 := Lib.hid b1
    have B5 := Lib.hid b5
    have B6 := Lib.hid b6
    have HB := Lib.hid hb
    clear b1 b6 hb
    by_cases hlt : k < 4
    · have hc := (b5.cell k).trans (part4_at _ _ k k hlt)
      rw [if_neg (Nat.lt_irrefl k)] at hc
      have hf := b5.frozen k
      clear b5
      have hi := HI.out k hlt
      unfold flV at hi
      have hk4 : (k : Int) < 4 := by omega
      go_wp2
      go_roundw
      case rel =>
        refine ⟨k + 1, by omega, by go_num, B1.out.far (p := ⟨g, k, none⟩) (by simp; omega) _, ?_, B6.out.far (p := ⟨g, k, none⟩) (by simp) _, HB.out.setCell (p := ⟨g, k, none⟩) (by simp; omega) _⟩
        have := B5.out.set_ k (.complex .f32 (x k) 0)
        rw [show (Value.complex .f32 (x k) 0) = (fun i => Value.complex .f32 (x i) 0) k from rfl, part4_set] at this
        exact this
      case measure => simp [intOf]; omega
    · obtain rfl : k = 4 := by omega
      clear b5
      go_wp2
      go_loopw [9, 26] (fun _ i wr => ∃ k : Nat, k ≤ 4 ∧ i = .int .i64 k ∧ Blk wr (w.heap.size + 1) 167 #[.complex .f32 0 0, .complex .f32 0 0, .complex .f32 0 0, .complex .f32 0 0] ∧ Blk wr g 167 (part4 (.complex .f32 0 0) (fun i => .complex .f32 (x i) 0) 4) ∧ Blk wr (g + 1) 167 (part4 (.complex .f32 0 0) (fun i => cV (r i)) k) ∧ Below w.heap.size w wr) (fun _ i _ => 4 - (intOf i).toNat)
      case atStart => exact ⟨0, Nat.zero_le _, rfl, B1.out, B5.out, B6.out, HB.out⟩
      case round =>
        clear B1 B5 B6 HB
        obtain ⟨k, hk, rfl, b1, b5, b6, hb⟩ := hrel
        have B1 := Lib.hid b1
        have B5 := Lib.hid b5
        have B6 := Lib.hid b6
        have HB := Lib.hid hb
        clear hb
        by_cases hlt : k < 4
        · clear b1 b6
          rw [part4_four] at b5
          have xc0 := b5.cell 0; have xf0 := b5.frozen 0; have xc1 := b5.cell 1; have xf1 := b5.frozen 1; have xc2 := b5.cell 2; have xf2 := b5.frozen 2; have xc3 := b5.cell 3; have xf3 := b5.frozen 3
          simp only [List.getElem?_toArray, List.getElem?_cons_zero, List.getElem?_cons_succ] at xc0 xc1 xc2 xc3
          clear b5
          clear xf0 xf1 xf2 xf3
          have hk4 : (k : Int) < 4 := by omega
          go_wp2_with fail
          refine (HT.out k hlt _).mono ?_
          rintro e w3 ⟨rfl, hb3⟩
          have E1 := Lib.hid (B1.out.below hb3)
          have E5 := Lib.hid (B5.out.below hb3)
          have E6 := Lib.hid (B6.out.below hb3)
          have HE := Lib.hid (HB.out.trans (hb3.mono HB.out.size))
          have hc := (E6.out.cell k).trans (part4_at _ _ k k hlt)
          rw [if_neg (Nat.lt_irrefl k)] at hc
          have hf := E6.out.frozen k
          clear hb3 B1 B5 B6 HB xc0 xc1 xc2 xc3
          unfold cV
          go_wp2
          go_roundw
          case rel =>
            have R : Blk (w3.setCell ⟨g + 1, k, none⟩ (.complex .f32 (r k).1 (r k).2)) (g + 1) 167 (part4 (.complex .f32 0 0) (fun i => cV (r i)) (k + 1)) := by
              have := E6.out.set_ k (cV (r k))
              rw [show cV (r k) = (fun i => cV (r i)) k from rfl, part4_set] at this
              exact this
            refine ⟨_, _, _, _, _, _, _, _, _, _, ⟨k + 1, by omega, by go_num, E1.out.far (p := ⟨g + 1, k, none⟩) (by simp; omega) _, E5.out.far (p := ⟨g + 1, k, none⟩) (by simp) _, R, HE.out.setCell (p := ⟨g + 1, k, none⟩) (by simp; omega) _⟩, rfl⟩
          case measure => simp [intOf]; omega
        · obtain rfl : k = 4 := by omega
          clear b5
          rw [part4_four] at b6
          unfold cV at b6
          have yc0 := b6.cell 0; have yf0 := b6.frozen 0; have yc1 := b6.cell 1; have yf1 := b6.frozen 1; have yc2 := b6.cell 2; have yf2 := b6.frozen 2; have yc3 := b6.cell 3; have yf3 := b6.frozen 3
          simp only [List.getElem?_toArray, List.getElem?_cons_zero, List.getElem?_cons_succ] at yc0 yc1 yc2 yc3
          clear b6
          have zc0 := b1.cell 0; have zf0 := b1.frozen 0; have zc1 := b1.cell 1; have zf1 := b1.frozen 1; have zc2 := b1.cell 2; have zf2 := b1.frozen 2; have zc3 := b1.cell 3; have zf3 := b1.frozen 3
          simp only [List.getElem?_toArray, List.getElem?_cons_zero, List.getElem?_cons_succ] at zc0 zc1 zc2 zc3
          clear b1
          clear yf0 yf1 yf2 yf3
          go_wp2
          generalize hWf : World.setCell _ _ _ = Wf
          have D : Blk Wf (w.heap.size + 1) 167 #[cV (r 0), cV (r 1), cV (r 2), cV (r 3)] := by rw [← hWf]; exact B1.out.set4 _ _ _ _
          have hBf : Below w.heap.size w Wf := by
            rw [← hWf]
            exact below_set4 HB.out (by omega) _ _ _ _
          obtain ⟨d0, d1, d2, d3⟩ := results4 D
          exact bodyPost_ret (v := .tuple #[.agg #[cV (r 0), cV (r 1), cV (r 2), cV (r 3)], .int .i64 0]) (by simp [results, Tryz.results97, go_sem, d0, d1, d2, d3]) rfl ⟨rfl, hBf⟩
end Go.Proofs.YtoipafnlcchmbaaGreatDoor
