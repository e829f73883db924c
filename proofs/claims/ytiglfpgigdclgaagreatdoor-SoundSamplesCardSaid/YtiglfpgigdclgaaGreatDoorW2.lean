/- The program's checks of samples, at any floats. -/
import Derived.Test.YtiglfpgigdclgaaGreatDoorQJ
import Derived.Test.YtiglfpgigdclgaaGreatDoorQA
import Derived.Test.YtiglfpgigdclgaaGreatDoorW1
namespace Go.Proofs.YtiglfpgigdclgaaGreatDoor
open Go.RowKit Ieee

/-- Bits of a NaN. -/
def NaN64 (r : Nat) : Prop := ∃ s t, double.read r = .nan s t
theorem nan_word (n : Nat) : NaN64 (n % 2 * 2 ^ 63 + 0x7ff0000000000000 + 1 + n / 2 % (2 ^ 52 - 1)) := by
  unfold NaN64 Format.read
  simp only [dplace, dbin, dinf, dsign]
  have h1 : (n % 2 * 2 ^ 63 + 0x7ff0000000000000 + 1 + n / 2 % (2 ^ 52 - 1)) % 9223372036854775808 = 9218868437227405312 + 1 + n / 2 % 4503599627370495 := by omega
  rw [h1, if_neg (by omega), if_neg (by omega), if_neg (by omega)]
  exact ⟨_, _, rfl⟩
theorem NaN64.order_l {r : Nat} (h : NaN64 r) (x : Nat) : double.order r x = none := by
  obtain ⟨s, t, h⟩ := h
  unfold Format.order
  rw [h]
  rfl
theorem NaN64.order_r {r : Nat} (h : NaN64 r) (x : Nat) : double.order x r = none := by
  obtain ⟨s, t, h⟩ := h
  unfold Format.order
  rw [h]
  cases double.read x <;> rfl
theorem drew_below {B : Nat} {w w' : World} (h : Below B w w') : Below B w w'.drew := h.drew
/-- A NaN as a float64, in a world. -/
theorem convert_nan (b : Nat) (s : Bool) (t : Nat) (h : single.read b = .nan s t) (w : World) : ∃ r, NaN64 r ∧ (convert 37 253 (.float .f32 b)).run Tryz.prog w = .ok (.float .f64 r) w.drew := by
  refine ⟨_, nan_word (w.tape w.drawn (.nanConv .f64 b)), ?_⟩
  have e1 : FloatKind.f32.decode b = .nan s t := h
  obtain ⟨u, hu⟩ : ∃ u, Tryz.prog.underlying 37 = some u := ⟨_, Tryz.underlying37⟩
  cases u <;> simp [convert, run_underlying hu, run_underlying Tryz.underlying253, Conv.floatToFloat, e1, Question.forced, Question.cut]
theorem mul_nan (r : Nat) (h : NaN64 r) (w : World) : ∃ q, NaN64 q ∧ (binOp .mul 253 (.float .f64 r) (.float .f64 4625196817309499392)).run Tryz.prog w = .ok (.float .f64 q) w.drew := by
  refine ⟨_, nan_word (w.tape w.drawn (.nanBits .f64 r 4625196817309499392)), ?_⟩
  obtain ⟨s, t, h⟩ := h
  have e : FloatKind.f64.format.mul r 4625196817309499392 = none := by
    show (Option.map _ _) = none
    have e1 : FloatKind.f64.format.read r = .nan s t := h
    rw [e1]
    rfl
  simp [binOp, Op.floatArith, e, Question.forced, Question.cut]

theorem isNaN_yes (y : Nat) (w : World) (hn : (FloatKind.f64.format.order y y != some .eq) = true) :
    Calls Tryz.prog 167 #[.float .f64 y] w fun e w' => e = .returned (.bool true) ∧ w = w' := by
  go_enter Tryz.func167, Tryz.ntmps167
  go_wp2
  go_ret
  exact ⟨rfl, rfl⟩
set_option maxRecDepth 100000 in
theorem isInf_yes (y a : Nat) (w : World) (ha : (bits .andNot .u64 (y : Int) 9223372036854775808).toNat = a)
    (hi : (FloatKind.f64.format.order a 9218868437227405311 == some .gt) = true) :
    Calls Tryz.prog 168 #[.float .f64 y, .int .i64 0] w fun e w' => e = .returned (.bool true) ∧ w = w' := by
  go_enter Tryz.func168, Tryz.ntmps168
  go_wp2_with fail
  refine (abs_of y a _ ha).mono ?_
  rintro e w' ⟨rfl, rfl⟩
  go_wp2
  go_ret
  exact ⟨rfl, rfl⟩
theorem toIntegral_of (z : Nat) : Extern.MathFloor.toIntegral "math.archTrunc" .zero #[.float .f64 z] = (match FloatKind.f64.decode z with
    | .nan s t =>
      if FloatKind.f64.format.quiet t = t then pure (.float .f64 z) else do
      let kept ← choose (.extern "math.Floor,Ceil,Trunc,RoundToEven.signallingNaN kept" 2)
      pure (.float .f64 (if kept == 1 then z else FloatKind.f64.encode (.nan s (FloatKind.f64.format.quiet t))))
    | d => pure (.float .f64 (FloatKind.f64.encode (d.integral .zero)))) := rfl
/-- Trunc of a NaN: some bits. -/
theorem call_trunc_nan (z : Nat) (h : NaN64 z) (w : World) : ∃ (t : Nat) (w' : World), (w' = w ∨ w' = w.drew) ∧ (callFunc 192 #[.float .f64 z]).run Tryz.prog w = .ok (.value (.float .f64 t)) w' := by
  obtain ⟨s, t, h⟩ := h
  have e1 : FloatKind.f64.decode z = .nan s t := h
  have he : ∃ (r : Nat) (w' : World), (w' = w ∨ w' = w.drew) ∧ (Extern.MathFloor.toIntegral "math.archTrunc" .zero #[.float .f64 z]).run Tryz.prog w = .ok (.float .f64 r) w' := by
    by_cases hq : FloatKind.f64.format.quiet t = t
    · exact ⟨z, w, Or.inl rfl, by rw [toIntegral_of, e1]; simp [hq]⟩
    · obtain ⟨r, hr⟩ : ∃ r, (Extern.MathFloor.toIntegral "math.archTrunc" .zero #[.float .f64 z]).run Tryz.prog w = .ok (.float .f64 r) w.drew := by
        rw [toIntegral_of, e1]
        simp [hq, Question.forced]
      exact ⟨r, w.drew, Or.inr rfl, hr⟩
  obtain ⟨r, w', hw, he⟩ := he
  refine ⟨r, w', hw, ?_⟩
  rw [run_callFunc_extern Tryz.func192 (by kernel_rfl) (by kernel_rfl) (by kernel_rfl) (e := Extern.MathFloor.toIntegral "math.archTrunc" .zero) (by kernel_rfl), he]
  rfl
set_option maxRecDepth 100000 in
theorem trunc_nan (z : Nat) (h : NaN64 z) (w : World) :
    Calls Tryz.prog 169 #[.float .f64 z] w fun e w' => ∃ t : Nat, e = .returned (.float .f64 t) ∧ Below w.heap.size w w' := by
  obtain ⟨t, w1, hw, hc⟩ := call_trunc_nan z h w
  have HB : Hid (Below w.heap.size w w1) := by
    rcases hw with rfl | rfl
    · exact Below.refl _ _
    · exact (Below.refl _ _).drew
  clear hw h
  go_enter Tryz.func169, Tryz.ntmps169
  go_wp2
  go_ret
  exact ⟨_, rfl, HB.out⟩

def finiteE (b : Nat) : Int := match single.read b with | .number _ _ _ => 0 | _ => 1
set_option maxHeartbeats 1000000 in
theorem finite_any (b : Nat) (w : World) : Calls Tryz.prog 108 #[.float .f32 b] w fun e w' => e = .returned (.int .i64 (finiteE b)) ∧ Below w.heap.size w w' := by
  rcases single_cases b with ⟨s, m, e, h, h1, h2, h3⟩ | ⟨s, h⟩ | ⟨s, t, h⟩
  · obtain ⟨y, z, m2, e2, N⟩ := num_facts h h1 h2 h3
    obtain ⟨a, ha, hi⟩ := N.inf
    have hE : finiteE b = 0 := by unfold finiteE; rw [h]
    rw [hE]
    refine (finite_of b y a w N.wide N.self ha hi).mono ?_
    rintro e w' ⟨rfl, rfl⟩
    exact ⟨rfl, Below.refl _ _⟩
  · have hE : finiteE b = 1 := by unfold finiteE; rw [h]
    rw [hE]
    obtain ⟨y, hy⟩ : ∃ y, y = double.word s double.infRung := ⟨_, rfl⟩
    have hc : floatToFloatBits .f32 b .f64 = some y := by
      unfold floatToFloatBits
      rw [if_neg (by decide)]
      have e1 : FloatKind.f32.decode b = .infinity s := h
      rw [e1, hy]
      rfl
    have hn : (FloatKind.f64.format.order y y != some .eq) = false := by rw [hy]; cases s <;> kernel_rfl
    have ha : (bits .andNot .u64 (y : Int) 9223372036854775808).toNat = 9218868437227405312 := by rw [hy]; cases s <;> kernel_rfl
    have hcv : ∀ w', (convert 37 253 (.float .f32 b)).run Tryz.prog w' = .ok (.float .f64 y) w' := fun w' => run_convert_float_float w' _ _ .f32 .f64 b y (by rw [Tryz.underlying37]; rfl) Tryz.underlying253 hc
    clear hc hy h hE
    go_enter Tryz.func108, Tryz.ntmps108
    go_wp2_with fail
    refine (isNaN_of y _ hn).mono ?_
    rintro e w' ⟨rfl, rfl⟩
    go_wp2_with fail
    refine (isInf_yes y 9218868437227405312 _ ha (by kernel_rfl)).mono ?_
    rintro e w' ⟨rfl, rfl⟩
    go_wp2
    go_ret
    exact ⟨rfl, Below.refl _ _⟩
  · have hE : finiteE b = 1 := by unfold finiteE; rw [h]
    rw [hE]
    obtain ⟨r, hr, hcv⟩ := convert_nan b s t h w
    have hn : (FloatKind.f64.format.order r r != some .eq) = true := by rw [show FloatKind.f64.format.order r r = none from hr.order_l r]; rfl
    clear h hE
    go_enter Tryz.func108, Tryz.ntmps108
    go_wp2_with fail
    refine (isNaN_yes r _ hn).mono ?_
    rintro e w' ⟨rfl, rfl⟩
    go_wp2
    go_ret
    exact ⟨rfl, (Below.refl _ _).drew⟩

/-- Whether a number lies within a limit and has its steps; of what is no number: never. -/
def stepE (c b : Nat) : Int := match single.read b with
  | .number _ m e => if 2 ^ (c + 149) < bigM m e then 3 else if 16 * bigM m e % 2 ^ 149 = 0 then 0 else 3
  | _ => 3
theorem stepE_number {c b m : Nat} {s : Bool} {e : Int} (h : single.read b = .number s m e) : stepE c b = if 2 ^ (c + 149) < bigM m e then 3 else if 16 * bigM m e % 2 ^ 149 = 0 then 0 else 3 := by unfold stepE; rw [h]
theorem first0 (x : Int) : firstE [0, x] = x := by
  simp only [firstE, if_true]
  split <;> simp_all
theorem partE_two (c b : Nat) : firstE [finiteE b, stepE c b] = partE c b := by
  unfold finiteE stepE partE
  cases single.read b
  · exact first0 _
  · rfl
  · rfl

set_option maxHeartbeats 2000000 in
theorem stepped_any (c l nl p q b : Nat) (L : Lims c l nl p q) (hng : Op.negFloat .f32 l = nl) (w : World) : Calls Tryz.prog 109 #[.float .f32 b, .float .f32 l] w fun e w' => e = .returned (.int .i64 (stepE c b)) ∧ Below w.heap.size w w' := by
  have hne : ∀ w', (Op.unary .neg (.float .f32 l)).run Tryz.prog w' = .ok (.float .f32 nl) w' := fun w' => by subst hng; rfl
  clear hng
  rcases single_cases b with ⟨s, m, e, h, h1, h2, h3⟩ | ⟨s, h⟩ | ⟨s, t, h⟩
  · obtain ⟨y, z, m2, e2, N⟩ := num_facts h h1 h2 h3
    have hb := in32 L h h2
    have hcv : ∀ w', (convert 37 253 (.float .f32 b)).run Tryz.prog w' = .ok (.float .f64 y) w' := fun w' => run_convert_float_float w' _ _ .f32 .f64 b y (by rw [Tryz.underlying37]; rfl) Tryz.underlying253 N.wide
    have hml : ∀ w', (binOp .mul 253 (.float .f64 y) (.float .f64 4625196817309499392)).run Tryz.prog w' = .ok (.float .f64 z) w' := fun w' => run_float_arith w' .mul _ .f64 y _ z N.mul
    have hE := Lib.hid (stepE_number (c := c) h)
    have HN := Lib.hid N
    have HC := Lib.hid L.c
    obtain ⟨b1, b2⟩ := hb
    have b1' : (FloatKind.f32.format.order b nl == some .lt) = (s && decide (2 ^ (c + 149) < bigM m e)) := b1
    have b2' : (FloatKind.f32.format.order b l == some .gt) = (!s && decide (2 ^ (c + 149) < bigM m e)) := b2
    clear h b1 b2 N L
    by_cases hout : 2 ^ (c + 149) < bigM m e
    · rw [hE.out, if_pos hout]
      rw [decide_eq_true hout] at b1' b2'
      clear hE hout
      cases s
      · simp only [Bool.false_and, Bool.not_false, Bool.true_and] at b1' b2'
        go_enter Tryz.func109, Tryz.ntmps109
        go_wp2
        go_ret
        exact ⟨rfl, Below.refl _ _⟩
      · simp only [Bool.true_and, Bool.not_true, Bool.false_and] at b1' b2'
        go_enter Tryz.func109, Tryz.ntmps109
        go_wp2
        go_ret
        exact ⟨rfl, Below.refl _ _⟩
    · obtain ⟨t, n, ht, hz, _, _⟩ := HN.out.whole HC.out hout
      rw [hE.out, if_neg hout]
      rw [decide_eq_false hout] at b1' b2'
      simp only [Bool.and_false] at b1' b2'
      have HT : Hid (∀ w, (Extern.MathFloor.toIntegral "math.archTrunc" .zero #[.float .f64 z]).run Tryz.prog w = .ok (.float .f64 t) w) := by
        intro w
        have e1 : FloatKind.f64.decode z = .number s m2 e2 := HN.out.readz
        rw [e1] at ht
        rw [toIntegral_of, e1]
        simp [ht]
      have hz' : (FloatKind.f64.format.order z t != some .eq) = !decide (16 * bigM m e % 2 ^ 149 = 0) := hz
      clear hz ht hE hout
      by_cases hw : 16 * bigM m e % 2 ^ 149 = 0
      · rw [if_pos hw]
        rw [decide_eq_true hw] at hz'
        simp only [Bool.not_true] at hz'
        clear hw
        go_enter Tryz.func109, Tryz.ntmps109
        go_wp2_with fail
        refine (trunc_of z t _ HT.out).mono ?_
        rintro e w' ⟨rfl, rfl⟩
        go_wp2
        go_ret
        exact ⟨rfl, Below.refl _ _⟩
      · rw [if_neg hw]
        rw [decide_eq_false hw] at hz'
        simp only [Bool.not_false] at hz'
        clear hw
        go_enter Tryz.func109, Tryz.ntmps109
        go_wp2_with fail
        refine (trunc_of z t _ HT.out).mono ?_
        rintro e w' ⟨rfl, rfl⟩
        go_wp2
        go_ret
        exact ⟨rfl, Below.refl _ _⟩
  · have hE : stepE c b = 3 := by unfold stepE; rw [h]
    rw [hE]
    obtain ⟨y, hy⟩ : ∃ y, y = double.word s double.infRung := ⟨_, rfl⟩
    have hc : floatToFloatBits .f32 b .f64 = some y := by
      unfold floatToFloatBits
      rw [if_neg (by decide)]
      have e1 : FloatKind.f32.decode b = .infinity s := h
      rw [e1, hy]
      rfl
    have hcv : ∀ w', (convert 37 253 (.float .f32 b)).run Tryz.prog w' = .ok (.float .f64 y) w' := fun w' => run_convert_float_float w' _ _ .f32 .f64 b y (by rw [Tryz.underlying37]; rfl) Tryz.underlying253 hc
    have hm : floatBits .mul .f64 y 4625196817309499392 = some y := by rw [hy]; cases s <;> kernel_rfl
    have hml : ∀ w', (binOp .mul 253 (.float .f64 y) (.float .f64 4625196817309499392)).run Tryz.prog w' = .ok (.float .f64 y) w' := fun w' => run_float_arith w' .mul _ .f64 y _ y hm
    have b1 : (FloatKind.f32.format.order b nl == some .lt) = s := by
      show (Datum.order (single.read b) (single.read nl) == some .lt) = s
      rw [h, L.nl]; cases s <;> rfl
    have b2 : (FloatKind.f32.format.order b l == some .gt) = !s := by
      show (Datum.order (single.read b) (single.read l) == some .gt) = !s
      rw [h, L.l]; cases s <;> rfl
    clear hc hm hy h hE L
    cases s
    · simp only [Bool.not_false] at b2
      go_enter Tryz.func109, Tryz.ntmps109
      go_wp2
      go_ret
      exact ⟨rfl, Below.refl _ _⟩
    · go_enter Tryz.func109, Tryz.ntmps109
      go_wp2
      go_ret
      exact ⟨rfl, Below.refl _ _⟩
  · have hE : stepE c b = 3 := by unfold stepE; rw [h]
    rw [hE]
    obtain ⟨r, hr, hcv⟩ := convert_nan b s t h w
    obtain ⟨q2, hq, hml⟩ := mul_nan r hr w.drew
    have b1 : (FloatKind.f32.format.order b nl == some .lt) = false := by
      show (Datum.order (single.read b) (single.read nl) == some .lt) = false
      rw [h]; rfl
    have b2 : (FloatKind.f32.format.order b l == some .gt) = false := by
      show (Datum.order (single.read b) (single.read l) == some .gt) = false
      rw [h]; rfl
    have HQ := Lib.hid hq
    clear h hE L hr hq
    go_enter Tryz.func109, Tryz.ntmps109
    go_wp2_with fail
    refine (trunc_nan q2 HQ.out _).mono ?_
    rintro e w' ⟨t2, rfl, hb⟩
    have HB := Lib.hid hb
    have hz : (FloatKind.f64.format.order q2 t2 != some .eq) = true := by rw [show FloatKind.f64.format.order q2 t2 = none from HQ.out.order_l t2]; rfl
    clear hb
    go_wp2
    go_ret
    exact ⟨rfl, ((Below.refl _ w).drew.drew).trans HB.out⟩

set_option maxRecDepth 100000 in
theorem checkSample_any (b : Nat) (w : World) :
    Calls Tryz.prog 27 #[.float .f32 b] w fun e w' => e = .returned (.int .i64 (partE 10 b)) ∧ Below w.heap.size w w' := by
  go_enter Tryz.func27, Tryz.ntmps27
  go_wp2_with fail
  refine (finite_any b _).mono ?_
  rintro e w1 ⟨rfl, hb⟩
  have HB := Lib.hid hb
  clear hb
  go_wp2_with fail
  refine (stepped_any 10 1149239296 3296722944 4670232813583204352 13893604850437980160 b lims10 (by kernel_rfl) _).mono ?_
  rintro e w2 ⟨rfl, hb⟩
  have HB2 : Hid (Below w.heap.size w w2) := HB.out.trans (hb.mono HB.out.size)
  clear hb HB
  go_wp2_with fail
  refine (first2 _ _ (finiteE b) (stepE 10 b) _ (by go_simp) (by go_simp)).mono ?_
  rw [partE_two]
  rintro e w' ⟨rfl, rfl⟩
  go_wp2
  go_ret
  exact ⟨rfl, HB2.out.alloc HB2.out.size _⟩

/-- The first error of floats. -/
def firstInF (f : Nat → Int) (fs : List Nat) : Int := firstE (fs.map f)
theorem getD_mapF (f : Nat → Int) (zs : List Nat) (i : Nat) (h : i < zs.length) : (zs.map f).getD i 0 = f (zs.getD i 0) := by
  simp [List.getD_eq_getElem?_getD, List.getElem?_eq_getElem h]
theorem firstInF_hit (f : Nat → Int) (zs : List Nat) (k : Nat) (hk : k < zs.length) (hz : ∀ i, i < k → f (zs.getD i 0) = 0) (h : f (zs.getD k 0) ≠ 0) : firstInF f zs = f (zs.getD k 0) := by
  unfold firstInF
  rw [firstE_hit _ k (by rw [List.length_map]; exact hk) (fun i hi => by rw [getD_mapF f zs i (by omega)]; exact hz i hi) (by rw [getD_mapF f zs k hk]; exact h), getD_mapF f zs k hk]
theorem firstInF_miss (f : Nat → Int) (zs : List Nat) (hz : ∀ i, i < zs.length → f (zs.getD i 0) = 0) : firstInF f zs = 0 := by
  unfold firstInF
  refine firstE_miss _ (fun i hi => ?_)
  rw [List.length_map] at hi
  rw [getD_mapF f zs i hi]; exact hz i hi

set_option maxHeartbeats 1000000 in
set_option maxRecDepth 100000 in
theorem firstIn_float (F : FuncId) (f : Nat → Int) (A : Option Addr) (n c : Nat) (fs : List Nat) (w : World) (hn : n ≤ 140737488351232)
    (hE : ∀ (args : Array Value) (W : World), (callFunc F args).run Tryz.prog W = .ok (.enter F args) W)
    (hF : ∀ (x : Nat) (W : World), Calls Tryz.prog F #[.float .f32 x] W fun e w' => e = .returned (.int .i64 (f x)) ∧ Below W.heap.size W w')
    (hz : FlAt w A n fs) :
    Calls Tryz.prog 112 #[.slice A n c, .func (.func F) #[] #[]] w fun e w' => e = .returned (.int .i64 (firstInF f fs)) ∧ Below w.heap.size w w' := by
  have HZ := Lib.hid hz
  have HF := Lib.hid hF
  clear hz hF
  go_enter Tryz.func112, Tryz.ntmps112
  go_wp2
  go_loopw [7, 10] (fun _ i wr => ∃ k : Nat, k ≤ n ∧ i = .int .i64 k ∧ Hid (∀ i, i < k → f (fs.getD i 0) = 0) ∧ Below w.heap.size w wr) (fun _ i _ => n - (intOf i).toNat)
  case atStart => exact ⟨0, Nat.zero_le _, rfl, fun i hi => by omega, Below.refl _ _⟩
  case round =>
    obtain ⟨k, hk, rfl, hz, hb⟩ := hrel
    have HB := Lib.hid hb
    by_cases hlt : k < n
    · obtain ⟨b, off, rfl, hcc⟩ := (HZ.out.keep hb).2 (by omega)
      clear hb
      obtain ⟨x, hx⟩ : ∃ x, x = fs.getD k 0 := ⟨_, rfl⟩
      have h0 := hcc k hlt
      rw [← hx] at h0
      have HX := Lib.hid hx
      clear hcc hx
      go_wp2_with fail
      refine (HF.out x _).mono ?_
      rintro e w1 ⟨rfl, hb1⟩
      have HB1 : Hid (Below w.heap.size w w1) := HB.out.trans (hb1.mono HB.out.size)
      obtain ⟨y, hy⟩ : ∃ y, y = f x := ⟨_, rfl⟩
      rw [← hy]
      have HY := Lib.hid hy
      clear hb1 hy
      by_cases he : y = 0
      · have h1 : (y != 0) = false := by simp [he]
        have HE := Lib.hid he
        clear he
        go_wp2
        go_roundw
        case rel =>
          refine ⟨k + 1, by omega, by go_num, fun i hi => ?_, HB1.out⟩
          by_cases hik : i < k
          · exact hz.out i hik
          · obtain rfl : i = k := by omega
            rw [← HX.out, ← HY.out]; exact HE.out
        case measure => simp [intOf]; omega
      · have h1 : (y != 0) = true := by simp [he]
        have HE := Lib.hid he
        clear he
        go_wp2
        go_ret
        exact ⟨ret_int (by rw [firstInF_hit f fs k (by rw [HZ.out.1]; exact hlt) hz.out (by rw [← HX.out, ← HY.out]; exact HE.out), ← HX.out]; exact HY.out), HB1.out⟩
    · clear hb
      go_wp2
      go_ret
      exact ⟨ret_int (firstInF_miss f fs (fun i hi => hz.out i (by rw [HZ.out.1] at hi; omega))).symm, HB.out⟩
theorem atMostF_any (A : Option Addr) (n c : Nat) (limit : Int) (w : World) :
    Calls Tryz.prog 111 #[.slice A n c, .int .i64 limit] w fun e w' => e = .returned (.int .i64 (atMostE n limit)) ∧ w = w' := by
  by_cases h : limit < (n : Int)
  · have hr : atMostE n limit = 5 := by simp [atMostE, h]
    rw [hr]; clear hr
    go_enter Tryz.func111, Tryz.ntmps111
    go_wp2
    go_ret
    exact ⟨rfl, rfl⟩
  · have hr : atMostE n limit = 0 := by simp [atMostE, h]
    rw [hr]; clear hr
    go_enter Tryz.func111, Tryz.ntmps111
    go_wp2
    go_ret
    exact ⟨rfl, rfl⟩
def checkSamplesE (fs : List Nat) : Int := firstE [atMostE fs.length 4096, firstInF (partE 10) fs]
set_option maxRecDepth 100000 in
theorem checkSamples_any (A : Option Addr) (n c : Nat) (fs : List Nat) (w : World) (hn : n ≤ 140737488351232) (hz : FlAt w A n fs) :
    Calls Tryz.prog 29 #[.slice A n c] w fun e w' => e = .returned (.int .i64 (checkSamplesE fs)) ∧ Below w.heap.size w w' := by
  have HZ := Lib.hid hz
  have hL := Lib.hid hz.1
  clear hz
  go_enter Tryz.func29, Tryz.ntmps29
  go_wp2_with fail
  refine (atMostF_any _ _ _ _ _).mono ?_
  rintro e w' ⟨rfl, rfl⟩
  go_wp2_with fail
  refine (firstIn_float 27 (partE 10) A n c fs _ hn enters_checkSample checkSample_any HZ.out).mono ?_
  rintro e w1 ⟨rfl, hb⟩
  have HB := Lib.hid hb
  clear hb
  go_wp2_with fail
  refine (first2 _ _ (atMostE n 4096) (firstInF (partE 10) fs) _ (by go_simp) (by go_simp)).mono ?_
  rw [show firstE [atMostE n 4096, firstInF (partE 10) fs] = checkSamplesE fs by unfold checkSamplesE; rw [hL.out]]
  rintro e w' ⟨rfl, rfl⟩
  go_wp2
  go_ret
  exact ⟨rfl, HB.out.alloc HB.out.size _⟩
end Go.Proofs.YtiglfpgigdclgaaGreatDoor
