/- Texts Wn Wf Qm Qo Qq Sh of the proof. -/
import Derived.Test.YtmafmebcgmegeaaGreatDoorFz35
import Derived.Test.YtmafmebcgmegeaaGreatDoorFz37
import Derived.Test.YtmafmebcgmegeaaGreatDoorFz23
import Derived.Test.YtmafmebcgmegeaaGreatDoorFz16
import Derived.Test.YtmafmebcgmegeaaGreatDoorFz17
import Derived.Test.YtmafmebcgmegeaaGreatDoorFz28
import Derived.Shelf.Spec.SlicesGrow
import Derived.Shelf.Strings.Builder1
import Derived.Shelf.Strings.Builder2
import Derived.Shelf.Strings.OnBuilder
import Derived.Shelf.Small.Wraps
import Derived.Shelf.Strconv.Itoa0
import Derived.Shelf.Strconv.Itoa1
import Derived.Shelf.LaysM
import Derived.Shelf.Strconv.Itoa2
import Derived.Shelf.Strconv.Itoa3
import Derived.Shelf.Strings.Search1
import Derived.Shelf.Strings.Search2
import Derived.Shelf.Strings.Search3
import Derived.Shelf.Strings.Count
import Derived.Shelf.Strings.Shaped
import Derived.Shelf.Strings.Prefix
import Derived.Shelf.Unicode.DecodeSlow
import Derived.Test.YtmafmebcgmegeaaGreatDoorProg
namespace Go.Proofs.YtmafmebcgmegeaaGreatDoor
open Go.RowKit Go.Sort
theorem max2_run (P : Program) (a b : Int) (ts : Array TypeId) (t : TypeId) (W : World) : (Builtin.max_ ts t #[.int .i64 a, .int .i64 b]).run P W = .ok (.int .i64 (max a b)) W := by
  have k : ∀ x y : Int, (if y > x then y else x) = max x y := fun x y => by split <;> omega
  simp [Builtin.max_, Builtin.max2, k]
theorem min2_run (P : Program) (a b : Int) (ts : Array TypeId) (t : TypeId) (W : World) : (Builtin.min_ ts t #[.int .i64 a, .int .i64 b]).run P W = .ok (.int .i64 (min a b)) W := by
  have k : ∀ x y : Int, (if y < x then y else x) = min x y := fun x y => by split <;> omega
  simp [Builtin.min_, Builtin.min2, k]
set_option maxHeartbeats 4000000 in
set_option maxRecDepth 100000 in
theorem refExposure_any {cs : Array Value} {nm : ByteArray} {sh : List Int} {T : Bell.Ty} {sa : Option Addr} {sn sc qb qo qn qc gb go gn gc : Nat} (b off n c : Nat) (l : List Bell.Fx) (f t : Int) (r : Bell.Pl) (w : World) (hT : TyAt w cs nm sh T sa sn sc qb qo qn qc gb go gn gc) (hG : GoodT sh T)
    (hl : FixesAt w b off n l) (hg : Bell.GoodTr l) (hr : GoodPl r) (h0 : 0 ≤ f) (hft : f ≤ t) (ht : t ≤ 100000000) :
    Calls Tryz.prog 59 #[.agg cs, .slice (some ⟨b, off, none⟩) n c, .agg #[.int .i64 f, .int .i64 t], .agg (plV r)] w fun e w' => e = .returned (.int .i64 (Bell.expoOf T l r f t)) ∧ Below w.heap.size w w' := by
  have hn := hl.1; have n1 := hg.lo; have n2 := hg.hi; obtain ⟨m, rfl⟩ : ∃ m, n = m + 1 := ⟨n - 1, by omega⟩; have hlm : l.length - 1 = m := by omega
  have HT := Lib.hid hT; have HG := Lib.hid hG; have HL := Lib.hid hl; have IT : Hid ((Tryz.prog.info? 26).map (·.size) = some cs.size) := by show _ = _; rw [hT.cells]; kernel_rfl
  unfold Bell.expoOf; rw [hlm]; obtain ⟨t0, ht0⟩ : ∃ x, x = (Bell.fxAt l 0).t := ⟨_, rfl⟩; obtain ⟨tn, htn⟩ : ∃ x, x = (Bell.fxAt l m).t := ⟨_, rfl⟩; rw [← ht0, ← htn]; obtain ⟨FR, hFR⟩ : ∃ x, x = max f t0 := ⟨_, rfl⟩; obtain ⟨TO, hTO⟩ : ∃ x, x = min t tn := ⟨_, rfl⟩; rw [← hFR, ← hTO]; have HFR := Lib.hid hFR; have HTO := Lib.hid hTO; obtain ⟨V, hV⟩ : ∃ V, V = Bell.sumF (Bell.heardAt T l r) FR (TO - FR).toNat := ⟨_, rfl⟩; rw [← hV]; have HV := Lib.hid hV; clear hV; have hlast := hg.last; rw [hlm, ← ht0, ← htn] at hlast; have HLA := Lib.hid hlast; have hm15 : m ≤ 15 := by omega
  have a0 := (hl.2 0 (by omega)).1; have am := (hl.2 m (by omega)).1; rw [← ht0] at a0; rw [← htn] at am; simp only [Nat.zero_mul, Nat.add_zero] at a0; have A0 := Lib.hid a0; have AM := Lib.hid am; have HBD : Hid (0 ≤ f ∧ t ≤ 100000000) := ⟨h0, ht⟩; have R1 : Hid (∀ ts t' W, (Builtin.max_ ts t' #[.int .i64 f, .int .i64 t0]).run Tryz.prog W = .ok (.int .i64 FR) W) := fun ts t' W => by rw [hFR]; exact max2_run _ _ _ _ _ _
  have R2 : Hid (∀ ts t' W, (Builtin.min_ ts t' #[.int .i64 t, .int .i64 tn]).run Tryz.prog W = .ok (.int .i64 TO) W) := fun ts t' W => by rw [hTO]; exact min2_run _ _ _ _ _ _
  have HAT := Lib.hid (fun (k : Int) W (hb : Below w.heap.size w W) (h1 : t0 ≤ k) (h2 : k < tn) => refAt_any b off (m + 1) c l k W (hl.keep hb) hg (by rw [← ht0]; exact h1) (by rw [hlm, ← htn]; exact h2)); have HHE := Lib.hid (fun (k : Int) W (hb : Below w.heap.size w W) (h1 : t0 ≤ k) (h2 : k < tn) => refHeard_any (Bell.stAt l k) r W (hT.keep hb) hG (Bell.state_ok hg (by rw [← ht0]; exact h1) (by rw [hlm, ← htn]; exact h2)) hr); have HRG := Lib.hid (fun (k : Int) => Bell.heard_range hG.ty (Bell.stAt l k) r); obtain ⟨rv, hrv⟩ : ∃ v, v = plV r := ⟨_, rfl⟩; have ir : Hid ((Tryz.prog.info? 28).map (·.size) = some rv.size) := by show _ = _; rw [hrv]; kernel_rfl
  rw [← hrv] at HHE ⊢; clear hT hG hl hg hr h0 hft ht hn n1 n2 ht0 htn hFR hTO hrv hlast a0 am
  go_enter Tryz.func59, Tryz.ntmps59
  go_upto_region 1 with fail
  obtain ⟨w1, hw1⟩ : ∃ W, W = (((w.alloc (.cells cs 26)).alloc (.cells #[.int .i64 f, .int .i64 t] 93)).alloc (.cells rv 28)) := ⟨_, rfl⟩; rw [← hw1]; have T4 : Hid (Blk w1 (w.heap.size) 26 cs) := by show Blk _ _ _ _; rw [hw1]; exact ((Blk.new _ _ _).alloc _).alloc _
  have S6 : Hid (Blk w1 (w.heap.size + 1) 93 #[.int .i64 f, .int .i64 t]) := by show Blk _ _ _ _; rw [hw1]; exact (Blk.at_size _ _ (by simp)).alloc _
  have R7 : Hid (Blk w1 (w.heap.size + 1 + 1) 28 rv) := by show Blk _ _ _ _; rw [hw1]; exact Blk.at_size _ _ (by simp)
  have hb1 : Below w.heap.size w w1 := by rw [hw1]; exact ((((Below.refl _ _).alloc (Nat.le_refl _) _).alloc (by simp) _).alloc (by simp; omega) _)
  obtain ⟨g4, hg4⟩ : ∃ g, g = w.heap.size := ⟨_, rfl⟩; obtain ⟨g6, hg6⟩ : ∃ g, g = w.heap.size + 1 := ⟨_, rfl⟩; obtain ⟨g7, hg7⟩ : ∃ g, g = w.heap.size + 1 + 1 := ⟨_, rfl⟩; have HGw1 : Hid (g4 = w.heap.size ∧ g6 = w.heap.size + 1 ∧ g7 = w.heap.size + 1 + 1) := ⟨hg4, hg6, hg7⟩; rw [← hg7] at R7
  try rw [← hg7]
  rw [← hg6] at S6
  try rw [← hg6]
  rw [← hg4] at T4
  try rw [← hg4]
  clear hw1 hg4 hg6 hg7; have HB : Hid (Below w.heap.size w w1) := hb1; clear hb1; have r1 := R1.out; have s0 := S6.out.cell 0; simp only [List.getElem?_toArray, List.getElem?_cons_zero, List.getElem?_cons_succ] at s0; have b0 := HB.out.cell (p := ⟨b, off, none⟩) (World.block_lt_of_cell? _ _ A0.out); rw [A0.out] at b0
  go_upto_region 2 with fail
  go_big_quiet (fail)
  obtain ⟨w2, hw2⟩ : ∃ W, W = w1.drewN nq := ⟨_, rfl⟩; rw [← hw2]; have hb2 : Below w1.heap.size w1 w2 := by rw [hw2]; exact below_drewN' (Below.refl _ _) _
  replace HB := Lib.hid (HB.out.trans (hb2.mono HB.out.size)); replace T4 := Lib.hid (T4.out.below hb2); replace S6 := Lib.hid (S6.out.below hb2); replace R7 := Lib.hid (R7.out.below hb2); clear hb2; clear hw2 r1 s0 b0; obtain ⟨h, hh⟩ : ∃ h, h = Bell.heardAt T l r := ⟨_, rfl⟩; have HH := Lib.hid hh; clear hh; go_wp2
  go_loopw [9, 10] (fun s k wr => ∃ j : Nat, k = .int .i64 (FR + j) ∧ s = .int .i64 (Bell.sumF h FR j) ∧ Hid (j ≤ (TO - FR).toNat ∧ 0 ≤ Bell.sumF h FR j ∧ Bell.sumF h FR j ≤ 200000000 * j) ∧ Hid (Below w2.heap.size w2 wr)) (fun _ k _ => (TO - intOf k).toNat)
  case atStart => exact ⟨0, by simp, rfl, ⟨by omega, by simp [Bell.sumF], by simp [Bell.sumF]⟩, Below.refl _ _⟩
  case round =>
    obtain ⟨j, rfl, rfl, hj, hbw⟩ := hrel; have HBx := Lib.hid (HB.out.trans (hbw.out.mono HB.out.size)); have T4x := Lib.hid (T4.out.below hbw.out); have S6x := Lib.hid (S6.out.below hbw.out); have R7x := Lib.hid (R7.out.below hbw.out); have r2 := R2.out; have s1 := S6x.out.cell 1; simp only [List.getElem?_toArray, List.getElem?_cons_zero, List.getElem?_cons_succ] at s1; have bm := HBx.out.cell (p := ⟨b, off + m * 5, none⟩) (World.block_lt_of_cell? _ _ AM.out); rw [AM.out] at bm; obtain ⟨k, hk⟩ : ∃ x, x = FR + (j : Int) := ⟨_, rfl⟩; obtain ⟨s, hs⟩ : ∃ x, x = Bell.sumF h FR j := ⟨_, rfl⟩; rw [← hs] at hj ⊢; rw [← hk]; have HK := Lib.hid hk; have HSM := Lib.hid hs; clear hk hs
    go_upto_region 3 with fail
    go_big_quiet (fail)
    obtain ⟨w3, hw3⟩ : ∃ W, W = wr.drewN nq := ⟨_, rfl⟩; rw [← hw3]; have hb3 : Below wr.heap.size wr w3 := by rw [hw3]; exact below_drewN' (Below.refl _ _) _
    have HW3 := Lib.hid (hbw.out.trans (hb3.mono hbw.out.size)); replace HBx := Lib.hid (HBx.out.trans (hb3.mono HBx.out.size)); replace T4x := Lib.hid (T4x.out.below hb3); replace R7x := Lib.hid (R7x.out.below hb3); clear hb3; clear hw3 r2 s1 bm S6x; obtain ⟨j1, j2, j3⟩ := hj.out; have hla := HLA.out; have hfr := HFR.out; have hto := HTO.out
    by_cases hlt : k < TO
    · have hd : decide (k < TO) = true := decide_eq_true hlt; rw [hd]; have hk1 : t0 ≤ k := by have := HK.out; omega
      have hk2 : k < tn := by omega
      have hj5 : j ≤ 1000 := by omega
      obtain ⟨x, hx⟩ : ∃ x, x = Bell.heardOf T (Bell.stAt l k) r := ⟨_, rfl⟩; have hrg := HRG.out k; rw [← hx] at hrg; have HHk := Lib.hid (fun W (hb : Below w.heap.size w W) => HHE.out k W hb hk1 hk2); rw [← hx] at HHk; have HATk := Lib.hid (fun W (hb : Below w.heap.size w W) => HAT.out k W hb hk1 hk2); obtain ⟨sv, hsv⟩ : ∃ v, v = stV (Bell.stAt l k) := ⟨_, rfl⟩; rw [← hsv] at HHk HATk; have v1 : IntKind.i64.wrap (s + x) = s + x := IntWalk.i64_in _ (by omega)
      have HNX : Hid (Bell.sumF (Bell.heardAt T l r) FR (j + 1) = s + x) := by
        show _ = _
        rw [Bell.sumF, ← HK.out, hx, HSM.out, HH.out]; rfl
      obtain ⟨f0, t1⟩ := HBD.out; have hkk : k + 1 ≤ 100000001 ∧ 0 ≤ k := by have := HK.out; omega
      have hsj : s + x ≤ 200000000 * ((j : Int) + 1) := by omega
      have hjt : j + 1 ≤ (TO - FR).toNat := by have := HK.out; omega
      have v2 : IntKind.i64.wrap (k + 1) = k + 1 := IntWalk.i64_in _ (by omega); have HN := Lib.hid (show j + 1 ≤ (TO - FR).toNat ∧ 0 ≤ s + x ∧ s + x ≤ 200000000 * ((j + 1 : Nat) : Int) ∧ (k + 1 = FR + ((j + 1 : Nat) : Int)) ∧ k < TO from by have := HK.out; omega); clear hx hsv hk1 hk2 hrg hlt j1 j2 j3 hj hj5 hla hfr hto f0 t1 hkk hsj hjt hbw HRG
      go_upto_region 5 with fail
      clear hd; have bw : ∀ d os, Below w3.heap.size w3 (grow (redrawn w3 d) os) := fun d os => below_regrown w3 d os
      have kp : ∀ d os, Below w.heap.size w (grow (redrawn w3 d) os) := fun d os => HBx.out.trans ((bw d os).mono HBx.out.size)
      have lT := fun d os => (T4x.out.below (bw d os)).lv Tryz.prog (T := 26) Tryz.underlying26 rfl IT.out
      have lR := fun d os => (R7x.out.below (bw d os)).lv Tryz.prog (T := 28) Tryz.underlying28 rfl ir.out
      have cA := fun d os => Calls.regrown_of (HATk.out (grow (redrawn w3 d) os) (kp d os))
      have cH := fun d os => Calls.regrown_of (HHk.out (grow (redrawn w3 d) os) (kp d os))
      refine wp_region_quiet_below (by kernel_rfl) (by kernel_rfl) ?_
      quiet_step (fail)
      refine quiet_load _ _ rfl (by rfl) _ _ rfl lT ?_
      iterate 2 (quiet_step (fail))
      quiet_step (exact cA _ _)
      refine quiet_load _ _ rfl (by rfl) _ _ rfl lR ?_
      quiet_step (exact cH _ _)
      repeat (quiet_step (fail))
      refine wpQuiet_nil ?_; intro w4 hw'; obtain ⟨⟨dq, osq⟩, hw''⟩ := hw'; have hb4 := bw dq osq; rw [← hw''] at hb4; replace HW3 := Lib.hid (HW3.out.trans (hb4.mono HW3.out.size)); clear hb4; clear hw'' lT lR cA cH bw kp HBx T4x R7x HATk HHk v1; go_wp2; go_roundw
      case rel =>
        obtain ⟨n1, n2, n3, n4, n5⟩ := HN.out; exact ⟨j + 1, by rw [n4], by rw [HH.out, HNX.out], ⟨n1, by rw [HH.out, HNX.out]; exact n2, by rw [HH.out, HNX.out]; exact n3⟩, HW3.out⟩
      case measure => have := HN.out; simp [intOf]; omega
    · have hd : decide (k < TO) = false := decide_eq_false hlt; rw [hd]; have hjj : j = (TO - FR).toNat := by have := HK.out; omega
      have hv : Hid (s = V) := by show _ = _; rw [HSM.out, HV.out, HH.out, hjj]
      have HBz := Lib.hid (HB.out.trans (HW3.out.mono HB.out.size)); clear hlt hjj hj hla hfr hto j1 j2 j3 HRG HHE HAT; go_wp2
      (try simp only [Exit.inBlock, Exit.then])
      refine bodyPost_ret (v := .int .i64 s) (by simp [results, Tryz.results59, go_sem, asAddr]) rfl ?_; exact ⟨ret_int hv.out, HBz.out⟩
end Go.Proofs.YtmafmebcgmegeaaGreatDoor

namespace Go.Proofs
open Go.Shelf
def Tryz.lays169_ren : Go.Shelf.Ren := ⟨fun | 169 => 152 | n => n, fun | 70 => 225 | 9 => 9 | 0 => 0 | 72 => 228 | 37 => 226 | 127 => 280 | 3 => 3 | 5 => 5 | n => n, fun | n => n⟩
theorem Tryz.lays169 : Go.Proofs.Lays.n169 Tryz.prog Tryz.lays169_ren := {
  mixed := by kernel_rfl
  f169 := Tryz.func152.trans (congrArg some (by kernel_rfl))
  t0 := Tryz.underlying0
  a0 := Tryz.isAgg0
  z0 := Tryz.sizeOf0
  v0 := Tryz.zeroValue0
  t3 := Tryz.underlying3
  a3 := Tryz.isAgg3
  z3 := Tryz.sizeOf3
  v3 := Tryz.zeroValue3
  t9 := Tryz.underlying9
  a9 := Tryz.isAgg9
  z9 := Tryz.sizeOf9
  v9 := Tryz.zeroValue9
  t37 := Tryz.underlying226
  a37 := Tryz.isAgg226
  z37 := Tryz.sizeOf226
  v37 := Tryz.zeroValue226
  t70 := Tryz.underlying225
  a70 := Tryz.isAgg225
  z70 := Tryz.sizeOf225
  v70 := Tryz.zeroValue225
  t72 := Tryz.underlying228
  a72 := Tryz.isAgg228
  z72 := Tryz.sizeOf228
  v72 := Tryz.zeroValue228
  t127 := Tryz.underlying280
  a127 := Tryz.isAgg280
  z127 := Tryz.sizeOf280
  v127 := Tryz.zeroValue280 }
theorem Tryz.Builder_Extra_169 : Builder.Extra Tryz.prog Tryz.lays169_ren := {
  sizeBuilder := by kernel_rfl
  liesBuilder := by kernel_rfl
  t5 := Tryz.underlying5
  a5 := Tryz.isAgg5
  z5 := Tryz.sizeOf5
  v5 := Tryz.zeroValue5
  infoByte := by kernel_rfl
  cellsByte := by kernel_rfl
  sizeByte := by kernel_rfl
  neB5 := by decide }
open Go.RowKit in
theorem Tryz.Builder_String (B b : Nat) (l : List UInt8) (w : World) (h : Lib.IsBuilder 228 5 B b (Lib.byteCells l) w) (h0 : l ≠ []) :
    Calls Tryz.prog 152 #[.pointer (some ⟨b, 0, none⟩)] w fun e w' => e = .returned (.string ⟨l.toArray⟩) ∧ Below B w w' := Any.Builder_String Tryz.lays169 Tryz.Builder_Extra_169 B b l w h h0
open Go.RowKit in
theorem Tryz.Builder_String_any (B b : Nat) (l : List UInt8) (w : World) (h : Lib.IsBuilder 228 5 B b (Lib.byteCells l) w) (hBw : B ≤ w.heap.size) :
    Calls Tryz.prog 152 #[.pointer (some ⟨b, 0, none⟩)] w fun e w' => e = .returned (.string ⟨l.toArray⟩) ∧ Below B w w' := Any.Builder_String_any Tryz.lays169 Tryz.Builder_Extra_169 B b l w h hBw
def Tryz.lays156_ren : Go.Shelf.Ren := ⟨fun | 156 => 202 | 165 => 222 | 166 => 150 | 169 => 152 | 240 => 201 | 241 => 231 | 276 => 221 | 277 => 240 | n => n, fun | 31 => 155 | 9 => 9 | 3 => 3 | 4 => 4 | 0 => 0 | 20 => 20 | 72 => 228 | 76 => 237 | 70 => 225 | 37 => 226 | 75 => 236 | 127 => 280 | 164 => 293 | 5 => 5 | 80 => 240 | n => n, fun | n => n⟩
theorem Tryz.lays156 : Go.Proofs.Lays.n156 Tryz.prog Tryz.lays156_ren := {
  mixed := by kernel_rfl
  f156 := Tryz.func202.trans (congrArg some (by kernel_rfl))
  f165 := Tryz.func222.trans (congrArg some (by kernel_rfl))
  f166 := Tryz.func150.trans (congrArg some (by kernel_rfl))
  f169 := Tryz.func152.trans (congrArg some (by kernel_rfl))
  f240 := Tryz.func201.trans (congrArg some (by kernel_rfl))
  f241 := Tryz.func231.trans (congrArg some (by kernel_rfl))
  f276 := Tryz.func221.trans (congrArg some (by kernel_rfl))
  f277 := Tryz.func240.trans (congrArg some (by kernel_rfl))
  t0 := Tryz.underlying0
  a0 := Tryz.isAgg0
  z0 := Tryz.sizeOf0
  v0 := Tryz.zeroValue0
  t3 := Tryz.underlying3
  a3 := Tryz.isAgg3
  z3 := Tryz.sizeOf3
  v3 := Tryz.zeroValue3
  t4 := Tryz.underlying4
  a4 := Tryz.isAgg4
  z4 := Tryz.sizeOf4
  v4 := Tryz.zeroValue4
  t9 := Tryz.underlying9
  a9 := Tryz.isAgg9
  z9 := Tryz.sizeOf9
  v9 := Tryz.zeroValue9
  t20 := Tryz.underlying20
  a20 := Tryz.isAgg20
  z20 := Tryz.sizeOf20
  v20 := Tryz.zeroValue20
  t31 := Tryz.underlying155
  a31 := Tryz.isAgg155
  z31 := Tryz.sizeOf155
  v31 := Tryz.zeroValue155
  t37 := Tryz.underlying226
  a37 := Tryz.isAgg226
  z37 := Tryz.sizeOf226
  v37 := Tryz.zeroValue226
  t70 := Tryz.underlying225
  a70 := Tryz.isAgg225
  z70 := Tryz.sizeOf225
  v70 := Tryz.zeroValue225
  t72 := Tryz.underlying228
  a72 := Tryz.isAgg228
  z72 := Tryz.sizeOf228
  v72 := Tryz.zeroValue228
  t75 := Tryz.underlying236
  a75 := Tryz.isAgg236
  z75 := Tryz.sizeOf236
  v75 := Tryz.zeroValue236
  t76 := Tryz.underlying237
  a76 := Tryz.isAgg237
  z76 := Tryz.sizeOf237
  v76 := Tryz.zeroValue237
  t127 := Tryz.underlying280
  a127 := Tryz.isAgg280
  z127 := Tryz.sizeOf280
  v127 := Tryz.zeroValue280
  t164 := Tryz.underlying293
  a164 := Tryz.isAgg293
  z164 := Tryz.sizeOf293
  v164 := Tryz.zeroValue293 }
theorem Tryz.Builder_Extra_156 : Builder.Extra Tryz.prog Tryz.lays156_ren := {
  sizeBuilder := by kernel_rfl
  liesBuilder := by kernel_rfl
  t5 := Tryz.underlying5
  a5 := Tryz.isAgg5
  z5 := Tryz.sizeOf5
  v5 := Tryz.zeroValue5
  infoByte := by kernel_rfl
  cellsByte := by kernel_rfl
  sizeByte := by kernel_rfl
  neB5 := by decide }
open Go.RowKit in
theorem Tryz.strings_Join (bk o c : Nat) (xs : List ByteArray) (sep : ByteArray) (w : World) (hcells : ∀ (j : Nat) x, xs[j]? = some x → w.cell? ⟨bk, o + j, none⟩ = some (.string x)) (hbk : bk < w.heap.size) (hN : xs.length ≤ 140737488355328) (hcap : xs.length ≤ c) (hlen : (Lib.join (xs.map (·.data.toList)) sep.data.toList).length ≤ 140737488355328) :
    Calls Tryz.prog 202 #[.slice (some ⟨bk, o, none⟩) xs.length c, .string sep] w fun e w' => e = .returned (.string ⟨(Lib.join (xs.map (·.data.toList)) sep.data.toList).toArray⟩) ∧ Below w.heap.size w w' := Any.strings_Join Tryz.lays156 Tryz.Builder_Extra_156 bk o c xs sep w hcells hbk hN hcap hlen
def Tryz.laysM171_ren : Go.Shelf.Ren := ⟨fun | 171 => 205 | 243 => 224 | 246 => 232 | 283 => 241 | 284 => 242 | 285 => 243 | 286 => 244 | 129 => 254 | 317 => 253 | 318 => 255 | 319 => 256 | 320 => 257 | 337 => 264 | 338 => 265 | n => n, fun | 3 => 3 | 9 => 9 | 2 => 2 | 4 => 4 | 171 => 317 | 0 => 0 | 53 => 318 | 37 => 226 | 5 => 5 | 173 => 321 | 212 => 329 | 51 => 158 | 20 => 20 | 213 => 330 | 46 => 315 | 232 => 340 | 233 => 341 | n => n, fun | 17 => 3 | 18 => 6 | 19 => 7 | n => n⟩
theorem Tryz.laysM171 : Go.Proofs.LaysM.n171 Tryz.prog Tryz.laysM171_ren := {
  mixed := by kernel_rfl
  f129 := Tryz.func254.trans (congrArg some (by kernel_rfl))
  f171 := Tryz.func205.trans (congrArg some (by kernel_rfl))
  f243 := Tryz.func224.trans (congrArg some (by kernel_rfl))
  f246 := Tryz.func232.trans (congrArg some (by kernel_rfl))
  f283 := Tryz.func241.trans (congrArg some (by kernel_rfl))
  f284 := Tryz.func242.trans (congrArg some (by kernel_rfl))
  f285 := Tryz.func243.trans (congrArg some (by kernel_rfl))
  f286 := Tryz.func244.trans (congrArg some (by kernel_rfl))
  f317 := Tryz.func253.trans (congrArg some (by kernel_rfl))
  f318 := Tryz.func255.trans (congrArg some (by kernel_rfl))
  f319 := Tryz.func256.trans (congrArg some (by kernel_rfl))
  f320 := Tryz.func257.trans (congrArg some (by kernel_rfl))
  f337 := Tryz.func264.trans (congrArg some (by kernel_rfl))
  f338 := Tryz.func265.trans (congrArg some (by kernel_rfl))
  t0 := Tryz.underlying0
  a0 := Tryz.isAgg0
  z0 := Tryz.sizeOf0
  v0 := Tryz.zeroValue0
  t2 := Tryz.underlying2
  a2 := Tryz.isAgg2
  z2 := Tryz.sizeOf2
  v2 := Tryz.zeroValue2
  t3 := Tryz.underlying3
  a3 := Tryz.isAgg3
  z3 := Tryz.sizeOf3
  v3 := Tryz.zeroValue3
  t4 := Tryz.underlying4
  a4 := Tryz.isAgg4
  z4 := Tryz.sizeOf4
  v4 := Tryz.zeroValue4
  t5 := Tryz.underlying5
  a5 := Tryz.isAgg5
  z5 := Tryz.sizeOf5
  v5 := Tryz.zeroValue5
  t9 := Tryz.underlying9
  a9 := Tryz.isAgg9
  z9 := Tryz.sizeOf9
  v9 := Tryz.zeroValue9
  t20 := Tryz.underlying20
  a20 := Tryz.isAgg20
  z20 := Tryz.sizeOf20
  v20 := Tryz.zeroValue20
  t37 := Tryz.underlying226
  a37 := Tryz.isAgg226
  z37 := Tryz.sizeOf226
  v37 := Tryz.zeroValue226
  t46 := Tryz.underlying315
  a46 := Tryz.isAgg315
  z46 := Tryz.sizeOf315
  v46 := Tryz.zeroValue315
  t51 := Tryz.underlying158
  a51 := Tryz.isAgg158
  z51 := Tryz.sizeOf158
  v51 := Tryz.zeroValue158
  t53 := Tryz.underlying318
  a53 := Tryz.isAgg318
  z53 := Tryz.sizeOf318
  v53 := Tryz.zeroValue318
  t171 := Tryz.underlying317
  a171 := Tryz.isAgg317
  z171 := Tryz.sizeOf317
  v171 := Tryz.zeroValue317
  t173 := Tryz.underlying321
  a173 := Tryz.isAgg321
  z173 := Tryz.sizeOf321
  v173 := Tryz.zeroValue321
  t212 := Tryz.underlying329
  a212 := Tryz.isAgg329
  z212 := Tryz.sizeOf329
  v212 := Tryz.zeroValue329
  t213 := Tryz.underlying330
  a213 := Tryz.isAgg330
  z213 := Tryz.sizeOf330
  t232 := Tryz.underlying340
  a232 := Tryz.isAgg340
  z232 := Tryz.sizeOf340
  v232 := Tryz.zeroValue340
  t233 := Tryz.underlying341
  a233 := Tryz.isAgg341
  z233 := Tryz.sizeOf341
  v233 := Tryz.zeroValue341
  g17 := by kernel_rfl
  g18 := by kernel_rfl
  g19 := by kernel_rfl
  i0 := by kernel_rfl
  i2 := by kernel_rfl
  i3 := by kernel_rfl
  i4 := by kernel_rfl
  i5 := by kernel_rfl
  i9 := by kernel_rfl
  i20 := by kernel_rfl
  i37 := by kernel_rfl
  i46 := by kernel_rfl
  i51 := by kernel_rfl
  i53 := by kernel_rfl
  i171 := by kernel_rfl
  i173 := by kernel_rfl
  i212 := by kernel_rfl
  i232 := by kernel_rfl
  i233 := by kernel_rfl
  m17 := by kernel_rfl
  m18 := by kernel_rfl
  m19 := by kernel_rfl }
open Go.RowKit Go.Sort Go.Lib in
theorem Tryz.strconv_Itoa (n : Int) (h0 : -9223372036854775808 ≤ n) (h1 : n ≤ 9223372036854775807) (w : World) (htab : Lib.TabIs Tryz.prog w "internal/strconv.uint64pow10" .u64 Lib.pow10Tab) :
    Calls Tryz.prog 205 #[.int .i64 n] w fun e w' => e = .returned (.string ⟨(Lib.itoa n).toArray⟩) ∧ ∃ k os, w' = grow (w.drewN k) os := Any.strconv_Itoa Tryz.laysM171 n h0 h1 w htab
def Tryz.growS_ren : Go.Shelf.Ren := ⟨fun | 4 => 223 | n => n, fun | 22 => 155 | 25 => 9 | 3 => 3 | 4 => 4 | 9 => 9 | 20 => 20 | 0 => 0 | n => n, fun | n => n⟩
theorem Tryz.growS : Go.Proofs.Lays8.n4 Tryz.prog Tryz.growS_ren := {
  mixed := by kernel_rfl
  f4 := ⟨Tryz.f223.name, by decide, Tryz.func223.trans (congrArg some (by kernel_rfl))⟩
  t0 := Tryz.underlying0
  a0 := Tryz.isAgg0
  z0 := Tryz.sizeOf0
  v0 := Tryz.zeroValue0
  t3 := Tryz.underlying3
  a3 := Tryz.isAgg3
  z3 := Tryz.sizeOf3
  v3 := Tryz.zeroValue3
  t4 := Tryz.underlying4
  a4 := Tryz.isAgg4
  z4 := Tryz.sizeOf4
  v4 := Tryz.zeroValue4
  t9 := Tryz.underlying9
  a9 := Tryz.isAgg9
  z9 := Tryz.sizeOf9
  v9 := Tryz.zeroValue9
  t20 := Tryz.underlying20
  a20 := Tryz.isAgg20
  z20 := Tryz.sizeOf20
  v20 := Tryz.zeroValue20
  t22 := Tryz.underlying155
  a22 := Tryz.isAgg155
  z22 := Tryz.sizeOf155
  v22 := Tryz.zeroValue155 }
def Tryz.growI_ren : Go.Shelf.Ren := ⟨fun | 4 => 194 | n => n, fun | 22 => 22 | 25 => 3 | 3 => 3 | 4 => 4 | 9 => 9 | 20 => 20 | 0 => 0 | n => n, fun | n => n⟩
theorem Tryz.growI : Go.Proofs.Lays8.n4 Tryz.prog Tryz.growI_ren := {
  mixed := by kernel_rfl
  f4 := ⟨Tryz.f194.name, by decide, Tryz.func194.trans (congrArg some (by kernel_rfl))⟩
  t0 := Tryz.underlying0
  a0 := Tryz.isAgg0
  z0 := Tryz.sizeOf0
  v0 := Tryz.zeroValue0
  t3 := Tryz.underlying3
  a3 := Tryz.isAgg3
  z3 := Tryz.sizeOf3
  v3 := Tryz.zeroValue3
  t4 := Tryz.underlying4
  a4 := Tryz.isAgg4
  z4 := Tryz.sizeOf4
  v4 := Tryz.zeroValue4
  t9 := Tryz.underlying9
  a9 := Tryz.isAgg9
  z9 := Tryz.sizeOf9
  v9 := Tryz.zeroValue9
  t20 := Tryz.underlying20
  a20 := Tryz.isAgg20
  z20 := Tryz.sizeOf20
  v20 := Tryz.zeroValue20
  t22 := Tryz.underlying22
  a22 := Tryz.isAgg22
  z22 := Tryz.sizeOf22
  v22 := Tryz.zeroValue22 }
end Go.Proofs
