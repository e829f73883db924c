/- Texts Wn Wq Wr of the proof. -/
import Derived.Test.YtmafmebcgmegeaaGreatDoorEx37
import Derived.Test.YtmafmebcgmegeaaGreatDoorEx40
import Derived.Test.YtmafmebcgmegeaaGreatDoorEx36
namespace Go.Proofs.YtmafmebcgmegeaaGreatDoor
open Go.RowKit Go.Sort
theorem max2_run (P : Program) (a b : Int) (ts : Array TypeId) (t : TypeId) (W : World) : (Builtin.max_ ts t #[.int .i64 a, .int .i64 b]).run P W = .ok (.int .i64 (max a b)) W := by
  have k : ∀ x y : Int, (if y > x then y else x) = max x y := fun x y => by split <;> omega
  simp [Builtin.max_, Builtin.max2, k]
theorem min2_run (P : Program) (a b : Int) (ts : Array TypeId) (t : TypeId) (W : World) : (Builtin.min_ ts t #[.int .i64 a, .int .i64 b]).run P W = .ok (.int .i64 (min a b)) W := by
  have k : ∀ x y : Int, (if y < x then y else x) = min x y := fun x y => by split <;> omega
  simp [Builtin.min_, Builtin.min2, k]
set_option maxHeartbeats 4000000 in
set_option maxRecDepth 100000 in
theorem refExposure_any {cs : Array Value} {nm : ByteArray} {sh : List Int} {T : Bell.Ty} {sa : Option Addr} {sn sc qb qo qn qc gb go gn gc : Nat} (b off n c : Nat) (l : List Bell.Fx) (f t : Int) (r : Bell.Pl) (w : World) (hT : TyAt w cs nm sh T sa sn sc qb qo qn qc gb go gn gc) (hG : GoodT sh T)
    (hl : FixesAt w b off n l) (hg : Bell.GoodTr l) (hr : GoodPl r) (h0 : 0 ≤ f) (hft : f ≤ t) (ht : t ≤ 100000000) :
    Calls Tryz.prog 59 #[.agg cs, .slice (some ⟨b, off, none⟩) n c, .agg #[.int .i64 f, .int .i64 t], .agg (plV r)] w fun e w' => e = .returned (.int .i64 (Bell.expoOf T l r f t)) ∧ Below w.heap.size w w' := by
  have hn := hl.1
  have n1 := hg.lo
  have n2 := hg.hi
  obtain ⟨m, rfl⟩ : ∃ m, n = m + 1 := ⟨n - 1, by omega⟩
  have hlm : l.length - 1 = m := by omega
  have HT := Lib.hid hT
  have HG := Lib.hid hG
  have HL := Lib.hid hl
  have IT : Hid ((Tryz.prog.info? 26).map (·.size) = some cs.size) := by show _ = _; rw [hT.cells]; kernel_rfl
  unfold Bell.expoOf
  rw [hlm]
  obtain ⟨t0, ht0⟩ : ∃ x, x = (Bell.fxAt l 0).t := ⟨_, rfl⟩
  obtain ⟨tn, htn⟩ : ∃ x, x = (Bell.fxAt l m).t := ⟨_, rfl⟩
  rw [← ht0, ← htn]
  obtain ⟨FR, hFR⟩ : ∃ x, x = max f t0 := ⟨_, rfl⟩
  obtain ⟨TO, hTO⟩ : ∃ x, x = min t tn := ⟨_, rfl⟩
  rw [← hFR, ← hTO]
  have HFR := Lib.hid hFR
  have HTO := Lib.hid hTO
  obtain ⟨V, hV⟩ : ∃ V, V = Bell.sumF (Bell.heardAt T l r) FR (TO - FR).toNat := ⟨_, rfl⟩
  rw [← hV]
  have HV := Lib.hid hV
  clear hV
  have hlast := hg.last
  rw [hlm, ← ht0, ← htn] at hlast
  have HLA := Lib.hid hlast
  have hm15 : m ≤ 15 := by omega
  have a0 := (hl.2 0 (by omega)).1
  have am := (hl.2 m (by omega)).1
  rw [← ht0] at a0
  rw [← htn] at am
  simp only [Nat.zero_mul, Nat.add_zero] at a0
  have A0 := Lib.hid a0
  have AM := Lib.hid am
  have HBD : Hid (0 ≤ f ∧ t ≤ 100000000) := ⟨h0, ht⟩
  have R1 : Hid (∀ ts t' W, (Builtin.max_ ts t' #[.int .i64 f, .int .i64 t0]).run Tryz.prog W = .ok (.int .i64 FR) W) := fun ts t' W => by rw [hFR]; exact max2_run _ _ _ _ _ _
  have R2 : Hid (∀ ts t' W, (Builtin.min_ ts t' #[.int .i64 t, .int .i64 tn]).run Tryz.prog W = .ok (.int .i64 TO) W) := fun ts t' W => by rw [hTO]; exact min2_run _ _ _ _ _ _
  have HAT := Lib.hid (fun (k : Int) W (hb : Below w.heap.size w W) (h1 : t0 ≤ k) (h2 : k < tn) => refAt_any b off (m + 1) c l k W (hl.keep hb) hg (by rw [← ht0]; exact h1) (by rw [hlm, ← htn]; exact h2))
  have HHE := Lib.hid (fun (k : Int) W (hb : Below w.heap.size w W) (h1 : t0 ≤ k) (h2 : k < tn) => refHeard_any (Bell.stAt l k) r W (hT.keep hb) hG (Bell.state_ok hg (by rw [← ht0]; exact h1) (by rw [hlm, ← htn]; exact h2)) hr)
  have HRG := Lib.hid (fun (k : Int) => Bell.heard_range hG.ty (Bell.stAt l k) r)
  obtain ⟨rv, hrv⟩ : ∃ v, v = plV r := ⟨_, rfl⟩
  have ir : Hid ((Tryz.prog.info? 28).map (·.size) = some rv.size) := by show _ = _; rw [hrv]; kernel_rfl
  rw [← hrv] at HHE ⊢
  clear hT hG hl hg hr h0 hft ht hn n1 n2 ht0 htn hFR hTO hrv hlast a0 am
  go_enter Tryz.func59, Tryz.ntmps59
  go_upto_region 1 with fail
  obtain ⟨w1, hw1⟩ : ∃ W, W = (((w.alloc (.cells cs 26)).alloc (.cells #[.int .i64 f, .int .i64 t] 93)).alloc (.cells rv 28)) := ⟨_, rfl⟩
  rw [← hw1]
  have T4 : Hid (Blk w1 (w.heap.size) 26 cs) := by show Blk _ _ _ _; rw [hw1]; exact ((Blk.new _ _ _).alloc _).alloc _
  have S6 : Hid (Blk w1 (w.heap.size + 1) 93 #[.int .i64 f, .int .i64 t]) := by show Blk _ _ _ _; rw [hw1]; exact (Blk.at_size _ _ (by simp)).alloc _
  have R7 : Hid (Blk w1 (w.heap.size + 1 + 1) 28 rv) := by show Blk _ _ _ _; rw [hw1]; exact Blk.at_size _ _ (by simp)
  have hb1 : Below w.heap.size w w1 := by rw [hw1]; exact ((((Below.refl _ _).alloc (Nat.le_refl _) _).alloc (by simp) _).alloc (by simp; omega) _)
  obtain ⟨g4, hg4⟩ : ∃ g, g = w.heap.size := ⟨_, rfl⟩
  obtain ⟨g6, hg6⟩ : ∃ g, g = w.heap.size + 1 := ⟨_, rfl⟩
  obtain ⟨g7, hg7⟩ : ∃ g, g = w.heap.size + 1 + 1 := ⟨_, rfl⟩
  have HGw1 : Hid (g4 = w.heap.size ∧ g6 = w.heap.size + 1 ∧ g7 = w.heap.size + 1 + 1) := ⟨hg4, hg6, hg7⟩
  rw [← hg7] at R7
  try rw [← hg7]
  rw [← hg6] at S6
  try rw [← hg6]
  rw [← hg4] at T4
  try rw [← hg4]
  clear hw1 hg4 hg6 hg7
  have HB : Hid (Below w.heap.size w w1) := hb1
  clear hb1
  have r1 := R1.out
  have s0 := S6.out.cell 0
  simp only [List.getElem?_toArray, List.getElem?_cons_zero, List.getElem?_cons_succ] at s0
  have b0 := HB.out.cell (p := ⟨b, off, none⟩) (World.block_lt_of_cell? _ _ A0.out)
  rw [A0.out] at b0
  go_upto_region 2 with fail
  go_big_quiet (fail)
  obtain ⟨w2, hw2⟩ : ∃ W, W = w1.drewN nq := ⟨_, rfl⟩
  rw [← hw2]
  have hb2 : Below w1.heap.size w1 w2 := by rw [hw2]; exact below_drewN' (Below.refl _ _) _
  replace HB := Lib.hid (HB.out.trans (hb2.mono HB.out.size))
  replace T4 := Lib.hid (T4.out.below hb2)
  replace S6 := Lib.hid (S6.out.below hb2)
  replace R7 := Lib.hid (R7.out.below hb2)
  clear hb2
  clear hw2 r1 s0 b0
  obtain ⟨h, hh⟩ : ∃ h, h = Bell.heardAt T l r := ⟨_, rfl⟩
  have HH := Lib.hid hh
  clear hh
  go_wp2
  go_loopw [9, 10] (fun s k wr => ∃ j : Nat, k = .int .i64 (FR + j) ∧ s = .int .i64 (Bell.sumF h FR j) ∧ Hid (j ≤ (TO - FR).toNat ∧ 0 ≤ Bell.sumF h FR j ∧ Bell.sumF h FR j ≤ 200000000 * j) ∧ Hid (Below w2.heap.size w2 wr)) (fun _ k _ => (TO - intOf k).toNat)
  case atStart => exact ⟨0, by simp, rfl, ⟨by omega, by simp [Bell.sumF], by simp [Bell.sumF]⟩, Below.refl _ _⟩
  case round =>
    obtain ⟨j, rfl, rfl, hj, hbw⟩ := hrel
    have HBx := Lib.hid (HB.out.trans (hbw.out.mono HB.out.size))
    have T4x := Lib.hid (T4.out.below hbw.out)
    have S6x := Lib.hid (S6.out.below hbw.out)
    have R7x := Lib.hid (R7.out.below hbw.out)
    have r2 := R2.out
    have s1 := S6x.out.cell 1
    simp only [List.getElem?_toArray, List.getElem?_cons_zero, List.getElem?_cons_succ] at s1
    have bm := HBx.out.cell (p := ⟨b, off + m * 5, none⟩) (World.block_lt_of_cell? _ _ AM.out)
    rw [AM.out] at bm
    obtain ⟨k, hk⟩ : ∃ x, x = FR + (j : Int) := ⟨_, rfl⟩
    obtain ⟨s, hs⟩ : ∃ x, x = Bell.sumF h FR j := ⟨_, rfl⟩
    rw [← hs] at hj ⊢
    rw [← hk]
    have HK := Lib.hid hk
    have HSM := Lib.hid hs
    clear hk hs
    go_upto_region 3 with fail
    go_big_quiet (fail)
    obtain ⟨w3, hw3⟩ : ∃ W, W = wr.drewN nq := ⟨_, rfl⟩
    rw [← hw3]
    have hb3 : Below wr.heap.size wr w3 := by rw [hw3]; exact below_drewN' (Below.refl _ _) _
    have HW3 := Lib.hid (hbw.out.trans (hb3.mono hbw.out.size))
    replace HBx := Lib.hid (HBx.out.trans (hb3.mono HBx.out.size))
    replace T4x := Lib.hid (T4x.out.below hb3)
    replace R7x := Lib.hid (R7x.out.below hb3)
    clear hb3
    clear hw3 r2 s1 bm S6x
    obtain ⟨j1, j2, j3⟩ := hj.out
    have hla := HLA.out
    have hfr := HFR.out
    have hto := HTO.out
    by_cases hlt : k < TO
    · have hd : decide (k < TO) = true := decide_eq_true hlt
      rw [hd]
      have hk1 : t0 ≤ k := by have := HK.out; omega
      have hk2 : k < tn := by omega
      have hj5 : j ≤ 1000 := by omega
      obtain ⟨x, hx⟩ : ∃ x, x = Bell.heardOf T (Bell.stAt l k) r := ⟨_, rfl⟩
      have hrg := HRG.out k
      rw [← hx] at hrg
      have HHk := Lib.hid (fun W (hb : Below w.heap.size w W) => HHE.out k W hb hk1 hk2)
      rw [← hx] at HHk
      have HATk := Lib.hid (fun W (hb : Below w.heap.size w W) => HAT.out k W hb hk1 hk2)
      obtain ⟨sv, hsv⟩ : ∃ v, v = stV (Bell.stAt l k) := ⟨_, rfl⟩
      rw [← hsv] at HHk HATk
      have v1 : IntKind.i64.wrap (s + x) = s + x := IntWalk.i64_in _ (by omega)
      have HNX : Hid (Bell.sumF (Bell.heardAt T l r) FR (j + 1) = s + x) := by
        show _ = _
        rw [Bell.sumF, ← HK.out, hx, HSM.out, HH.out]; rfl
      obtain ⟨f0, t1⟩ := HBD.out
      have hkk : k + 1 ≤ 100000001 ∧ 0 ≤ k := by have := HK.out; omega
      have hsj : s + x ≤ 200000000 * ((j : Int) + 1) := by omega
      have hjt : j + 1 ≤ (TO - FR).toNat := by have := HK.out; omega
      have v2 : IntKind.i64.wrap (k + 1) = k + 1 := IntWalk.i64_in _ (by omega)
      have HN := Lib.hid (show j + 1 ≤ (TO - FR).toNat ∧ 0 ≤ s + x ∧ s + x ≤ 200000000 * ((j + 1 : Nat) : Int) ∧ (k + 1 = FR + ((j + 1 : Nat) : Int)) ∧ k < TO from by have := HK.out; omega)
      clear hx hsv hk1 hk2 hrg hlt j1 j2 j3 hj hj5 hla hfr hto f0 t1 hkk hsj hjt hbw HRG
      go_upto_region 5 with fail
      clear hd
      have bw : ∀ d os, Below w3.heap.size w3 (grow (redrawn w3 d) os) := fun d os => below_regrown w3 d os
      have kp : ∀ d os, Below w.heap.size w (grow (redrawn w3 d) os) := fun d os => HBx.out.trans ((bw d os).mono HBx.out.size)
      have lT := fun d os => (T4x.out.below (bw d os)).lv Tryz.prog (T := 26) Tryz.underlying26 rfl IT.out
      have lR := fun d os => (R7x.out.below (bw d os)).lv Tryz.prog (T := 28) Tryz.underlying28 rfl ir.out
      have cA := fun d os => Calls.regrown_of (HATk.out (grow (redrawn w3 d) os) (kp d os))
      have cH := fun d os => Calls.regrown_of (HHk.out (grow (redrawn w3 d) os) (kp d os))
      refine wp_region_quiet_below (by kernel_rfl) (by kernel_rfl) ?_
      quiet_step (fail)
      refine quiet_load _ _ rfl (by rfl) _ _ rfl lT ?_
      iterate 2 (quiet_step (fail))
      quiet_step (exact cA _ _)
      refine quiet_load _ _ rfl (by rfl) _ _ rfl lR ?_
      quiet_step (exact cH _ _)
      repeat (quiet_step (fail))
      refine wpQuiet_nil ?_
      intro w4 hw'
      obtain ⟨⟨dq, osq⟩, hw''⟩ := hw'
      have hb4 := bw dq osq
      rw [← hw''] at hb4
      replace HW3 := Lib.hid (HW3.out.trans (hb4.mono HW3.out.size))
      clear hb4
      clear hw'' lT lR cA cH bw kp HBx T4x R7x HATk HHk v1
      go_wp2
      go_roundw
      case rel =>
        obtain ⟨n1, n2, n3, n4, n5⟩ := HN.out
        exact ⟨j + 1, by rw [n4], by rw [HH.out, HNX.out], ⟨n1, by rw [HH.out, HNX.out]; exact n2, by rw [HH.out, HNX.out]; exact n3⟩, HW3.out⟩
      case measure => have := HN.out; simp [intOf]; omega
    · have hd : decide (k < TO) = false := decide_eq_false hlt
      rw [hd]
      have hjj : j = (TO - FR).toNat := by have := HK.out; omega
      have hv : Hid (s = V) := by show _ = _; rw [HSM.out, HV.out, HH.out, hjj]
      have HBz := Lib.hid (HB.out.trans (HW3.out.mono HB.out.size))
      clear hlt hjj hj hla hfr hto j1 j2 j3 HRG HHE HAT
      go_wp2
      (try simp only [Exit.inBlock, Exit.then])
      refine bodyPost_ret (v := .int .i64 s) (by simp [results, Tryz.results59, go_sem, asAddr]) rfl ?_
      exact ⟨ret_int hv.out, HBz.out⟩
end Go.Proofs.YtmafmebcgmegeaaGreatDoor

namespace Go.Proofs.YtmafmebcgmegeaaGreatDoor
open Go.RowKit Go.Sort
set_option maxHeartbeats 4000000 in
set_option maxRecDepth 100000 in
theorem refMaximum_any {cs : Array Value} {nm : ByteArray} {sh : List Int} {T : Bell.Ty} {sa : Option Addr} {sn sc qb qo qn qc gb go gn gc : Nat} (b off n c : Nat) (l : List Bell.Fx) (f t : Int) (r : Bell.Pl) (w : World) (hT : TyAt w cs nm sh T sa sn sc qb qo qn qc gb go gn gc) (hG : GoodT sh T)
    (hl : FixesAt w b off n l) (hg : Bell.GoodTr l) (hr : GoodPl r) (h0 : 0 ≤ f) (hft : f ≤ t) (ht : t ≤ 100000000) :
    Calls Tryz.prog 60 #[.agg cs, .slice (some ⟨b, off, none⟩) n c, .agg #[.int .i64 f, .int .i64 t], .agg (plV r)] w fun e w' => e = .returned (.tuple #[.int .i64 (maxA T l r f t).1, .int .i64 (maxA T l r f t).2.1, .int .i64 (maxA T l r f t).2.2]) ∧ Below w.heap.size w w' := by
  have hn := hl.1
  have n1 := hg.lo
  have n2 := hg.hi
  obtain ⟨m, rfl⟩ : ∃ m, n = m + 1 := ⟨n - 1, by omega⟩
  have hlm : l.length - 1 = m := by omega
  have HT := Lib.hid hT
  have HG := Lib.hid hG
  have HL := Lib.hid hl
  have IT : Hid ((Tryz.prog.info? 26).map (·.size) = some cs.size) := by show _ = _; rw [hT.cells]; kernel_rfl
  unfold maxA
  rw [hlm]
  obtain ⟨t0, ht0⟩ : ∃ x, x = (Bell.fxAt l 0).t := ⟨_, rfl⟩
  obtain ⟨tn, htn⟩ : ∃ x, x = (Bell.fxAt l m).t := ⟨_, rfl⟩
  rw [← ht0, ← htn]
  obtain ⟨FR, hFR⟩ : ∃ x, x = max f t0 := ⟨_, rfl⟩
  obtain ⟨TO, hTO⟩ : ∃ x, x = min t tn := ⟨_, rfl⟩
  rw [← hFR, ← hTO]
  have HFR := Lib.hid hFR
  have HTO := Lib.hid hTO
  obtain ⟨V, hV⟩ : ∃ V, V = maxR (Bell.heardAt T l r) FR (TO - FR).toNat := ⟨_, rfl⟩
  rw [← hV]
  have HV := Lib.hid hV
  clear hV
  have hlast := hg.last
  rw [hlm, ← ht0, ← htn] at hlast
  have HLA := Lib.hid hlast
  have hm15 : m ≤ 15 := by omega
  have a0 := (hl.2 0 (by omega)).1
  have am := (hl.2 m (by omega)).1
  rw [← ht0] at a0
  rw [← htn] at am
  simp only [Nat.zero_mul, Nat.add_zero] at a0
  have A0 := Lib.hid a0
  have AM := Lib.hid am
  have HBD : Hid (0 ≤ f ∧ t ≤ 100000000) := ⟨h0, ht⟩
  have R1 : Hid (∀ ts t' W, (Builtin.max_ ts t' #[.int .i64 f, .int .i64 t0]).run Tryz.prog W = .ok (.int .i64 FR) W) := fun ts t' W => by rw [hFR]; exact max2_run _ _ _ _ _ _
  have R2 : Hid (∀ ts t' W, (Builtin.min_ ts t' #[.int .i64 t, .int .i64 tn]).run Tryz.prog W = .ok (.int .i64 TO) W) := fun ts t' W => by rw [hTO]; exact min2_run _ _ _ _ _ _
  have HAT := Lib.hid (fun (k : Int) W (hb : Below w.heap.size w W) (h1 : t0 ≤ k) (h2 : k < tn) => refAt_any b off (m + 1) c l k W (hl.keep hb) hg (by rw [← ht0]; exact h1) (by rw [hlm, ← htn]; exact h2))
  have HHE := Lib.hid (fun (k : Int) W (hb : Below w.heap.size w W) (h1 : t0 ≤ k) (h2 : k < tn) => refHeard_any (Bell.stAt l k) r W (hT.keep hb) hG (Bell.state_ok hg (by rw [← ht0]; exact h1) (by rw [hlm, ← htn]; exact h2)) hr)
  have HRG := Lib.hid (fun (k : Int) => Bell.heard_range hG.ty (Bell.stAt l k) r)
  obtain ⟨rv, hrv⟩ : ∃ v, v = plV r := ⟨_, rfl⟩
  have ir : Hid ((Tryz.prog.info? 28).map (·.size) = some rv.size) := by show _ = _; rw [hrv]; kernel_rfl
  rw [← hrv] at HHE ⊢
  clear hT hG hl hg hr h0 hft ht hn n1 n2 ht0 htn hFR hTO hrv hlast a0 am
  go_enter Tryz.func60, Tryz.ntmps60
  go_upto_region 1 with fail
  obtain ⟨w1, hw1⟩ : ∃ W, W = (((w.alloc (.cells cs 26)).alloc (.cells #[.int .i64 f, .int .i64 t] 93)).alloc (.cells rv 28)) := ⟨_, rfl⟩
  rw [← hw1]
  have T4 : Hid (Blk w1 (w.heap.size) 26 cs) := by show Blk _ _ _ _; rw [hw1]; exact ((Blk.new _ _ _).alloc _).alloc _
  have S6 : Hid (Blk w1 (w.heap.size + 1) 93 #[.int .i64 f, .int .i64 t]) := by show Blk _ _ _ _; rw [hw1]; exact (Blk.at_size _ _ (by simp)).alloc _
  have R7 : Hid (Blk w1 (w.heap.size + 1 + 1) 28 rv) := by show Blk _ _ _ _; rw [hw1]; exact Blk.at_size _ _ (by simp)
  have hb1 : Below w.heap.size w w1 := by rw [hw1]; exact ((((Below.refl _ _).alloc (Nat.le_refl _) _).alloc (by simp) _).alloc (by simp; omega) _)
  obtain ⟨g4, hg4⟩ : ∃ g, g = w.heap.size := ⟨_, rfl⟩
  obtain ⟨g6, hg6⟩ : ∃ g, g = w.heap.size + 1 := ⟨_, rfl⟩
  obtain ⟨g7, hg7⟩ : ∃ g, g = w.heap.size + 1 + 1 := ⟨_, rfl⟩
  have HGw1 : Hid (g4 = w.heap.size ∧ g6 = w.heap.size + 1 ∧ g7 = w.heap.size + 1 + 1) := ⟨hg4, hg6, hg7⟩
  rw [← hg7] at R7
  try rw [← hg7]
  rw [← hg6] at S6
  try rw [← hg6]
  rw [← hg4] at T4
  try rw [← hg4]
  clear hw1 hg4 hg6 hg7
  have HB : Hid (Below w.heap.size w w1) := hb1
  clear hb1
  have r1 := R1.out
  have s0 := S6.out.cell 0
  simp only [List.getElem?_toArray, List.getElem?_cons_zero, List.getElem?_cons_succ] at s0
  have b0 := HB.out.cell (p := ⟨b, off, none⟩) (World.block_lt_of_cell? _ _ A0.out)
  rw [A0.out] at b0
  go_upto_region 2 with fail
  go_big_quiet (fail)
  obtain ⟨w2, hw2⟩ : ∃ W, W = w1.drewN nq := ⟨_, rfl⟩
  rw [← hw2]
  have hb2 : Below w1.heap.size w1 w2 := by rw [hw2]; exact below_drewN' (Below.refl _ _) _
  replace HB := Lib.hid (HB.out.trans (hb2.mono HB.out.size))
  replace T4 := Lib.hid (T4.out.below hb2)
  replace S6 := Lib.hid (S6.out.below hb2)
  replace R7 := Lib.hid (R7.out.below hb2)
  clear hb2
  clear hw2 r1 s0 b0
  obtain ⟨h, hh⟩ : ∃ h, h = Bell.heardAt T l r := ⟨_, rfl⟩
  have HH := Lib.hid hh
  clear hh
  go_wp2
  go_loopw [11, 12, 13, 14] (fun s u k _ wr => ∃ j : Nat, k = .int .i64 (FR + j) ∧ s = .int .i64 (Bell.maxF h FR j).1 ∧ u = .int .i64 (Bell.maxF h FR j).2 ∧ Hid (j ≤ (TO - FR).toNat ∧ -1 ≤ (Bell.maxF h FR j).1 ∧ (Bell.maxF h FR j).1 ≤ 200000000) ∧ Hid (Below w2.heap.size w2 wr)) (fun _ _ k _ _ => (TO - intOf k).toNat)
  case atStart => exact ⟨0, by simp, rfl, rfl, ⟨by omega, by simp [Bell.maxF], by simp [Bell.maxF]⟩, Below.refl _ _⟩
  case round =>
    obtain ⟨j, rfl, rfl, rfl, hj, hbw⟩ := hrel
    have HBx := Lib.hid (HB.out.trans (hbw.out.mono HB.out.size))
    have T4x := Lib.hid (T4.out.below hbw.out)
    have S6x := Lib.hid (S6.out.below hbw.out)
    have R7x := Lib.hid (R7.out.below hbw.out)
    have r2 := R2.out
    have s1 := S6x.out.cell 1
    simp only [List.getElem?_toArray, List.getElem?_cons_zero, List.getElem?_cons_succ] at s1
    have bm := HBx.out.cell (p := ⟨b, off + m * 5, none⟩) (World.block_lt_of_cell? _ _ AM.out)
    rw [AM.out] at bm
    obtain ⟨k, hk⟩ : ∃ x, x = FR + (j : Int) := ⟨_, rfl⟩
    obtain ⟨s, hs⟩ : ∃ x, x = (Bell.maxF h FR j).1 := ⟨_, rfl⟩
    obtain ⟨u, hu⟩ : ∃ x, x = (Bell.maxF h FR j).2 := ⟨_, rfl⟩
    rw [← hs] at hj ⊢
    rw [← hu]
    rw [← hk]
    have HK := Lib.hid hk
    have HSM := Lib.hid hs
    have HUM := Lib.hid hu
    clear hk hs hu
    go_upto_region 3 with fail
    go_big_quiet (fail)
    obtain ⟨w3, hw3⟩ : ∃ W, W = wr.drewN nq := ⟨_, rfl⟩
    rw [← hw3]
    have hb3 : Below wr.heap.size wr w3 := by rw [hw3]; exact below_drewN' (Below.refl _ _) _
    have HW3 := Lib.hid (hbw.out.trans (hb3.mono hbw.out.size))
    replace HBx := Lib.hid (HBx.out.trans (hb3.mono HBx.out.size))
    replace T4x := Lib.hid (T4x.out.below hb3)
    replace R7x := Lib.hid (R7x.out.below hb3)
    clear hb3
    clear hw3 r2 s1 bm S6x
    obtain ⟨j1, j2, j3⟩ := hj.out
    have hla := HLA.out
    have hfr := HFR.out
    have hto := HTO.out
    by_cases hlt : k < TO
    · have hd : decide (k < TO) = true := decide_eq_true hlt
      rw [hd]
      have hk1 : t0 ≤ k := by have := HK.out; omega
      have hk2 : k < tn := by omega
      have hj5 : j ≤ 1000 := by omega
      obtain ⟨x, hx⟩ : ∃ x, x = Bell.heardOf T (Bell.stAt l k) r := ⟨_, rfl⟩
      have hrg := HRG.out k
      rw [← hx] at hrg
      have HHk := Lib.hid (fun W (hb : Below w.heap.size w W) => HHE.out k W hb hk1 hk2)
      rw [← hx] at HHk
      have HATk := Lib.hid (fun W (hb : Below w.heap.size w W) => HAT.out k W hb hk1 hk2)
      obtain ⟨sv, hsv⟩ : ∃ v, v = stV (Bell.stAt l k) := ⟨_, rfl⟩
      rw [← hsv] at HHk HATk
      have HNX : Hid (Bell.maxF h FR (j + 1) = if s < x then (x, k) else (s, u)) := by
        show _ = _
        have e : h (FR + (j : Int)) = x := by rw [HH.out, ← HK.out, hx]; rfl
        rw [Bell.maxF, e, HSM.out, HUM.out, HK.out]
      obtain ⟨f0, t1⟩ := HBD.out
      have hkk : k + 1 ≤ 100000001 ∧ 0 ≤ k := by have := HK.out; omega
      have hjt : j + 1 ≤ (TO - FR).toNat := by have := HK.out; omega
      have v2 : IntKind.i64.wrap (k + 1) = k + 1 := IntWalk.i64_in _ (by omega)
      have HN := Lib.hid (show (j + 1 ≤ (TO - FR).toNat ∧ k + 1 = FR + ((j + 1 : Nat) : Int) ∧ k < TO) ∧ (-1 ≤ s ∧ s ≤ 200000000) ∧ (-1 ≤ x ∧ x ≤ 200000000) from by have := HK.out; omega)
      clear hx hsv hk1 hk2 hrg hlt j1 j2 j3 hj hj5 hla hfr hto f0 t1 hkk hjt hbw HRG
      go_upto_region 5 with fail
      clear hd
      have bw : ∀ d os, Below w3.heap.size w3 (grow (redrawn w3 d) os) := fun d os => below_regrown w3 d os
      have kp : ∀ d os, Below w.heap.size w (grow (redrawn w3 d) os) := fun d os => HBx.out.trans ((bw d os).mono HBx.out.size)
      have lT := fun d os => (T4x.out.below (bw d os)).lv Tryz.prog (T := 26) Tryz.underlying26 rfl IT.out
      have lR := fun d os => (R7x.out.below (bw d os)).lv Tryz.prog (T := 28) Tryz.underlying28 rfl ir.out
      have cA := fun d os => Calls.regrown_of (HATk.out (grow (redrawn w3 d) os) (kp d os))
      have cH := fun d os => Calls.regrown_of (HHk.out (grow (redrawn w3 d) os) (kp d os))
      refine wp_region_quiet_below (by kernel_rfl) (by kernel_rfl) ?_
      refine quiet_load _ _ rfl (by rfl) _ _ rfl lT ?_
      iterate 2 (quiet_step (fail))
      quiet_step (exact cA _ _)
      refine quiet_load _ _ rfl (by rfl) _ _ rfl lR ?_
      quiet_step (exact cH _ _)
      repeat (quiet_step (fail))
      refine wpQuiet_nil ?_
      intro w4 hw'
      obtain ⟨⟨dq, osq⟩, hw''⟩ := hw'
      have hb4 := bw dq osq
      rw [← hw''] at hb4
      replace HW3 := Lib.hid (HW3.out.trans (hb4.mono HW3.out.size))
      clear hb4
      clear hw'' lT lR cA cH bw kp HBx T4x R7x HATk HHk
      by_cases hgt : s < x
      · have hd : decide (s < x) = true := decide_eq_true hgt
        have HG2 := Lib.hid hgt
        clear hgt
        go_wp2
        go_roundw
        case rel =>
          obtain ⟨⟨n1, n2, n3⟩, _, n5, n6⟩ := HN.out
          have hn := HNX.out
          rw [if_pos HG2.out] at hn
          exact ⟨j + 1, by rw [n2], by rw [hn], by rw [hn], ⟨n1, by rw [hn]; exact n5, by rw [hn]; exact n6⟩, HW3.out⟩
        case measure => have := HN.out; simp [intOf]; omega
      · have hd : decide (s < x) = false := decide_eq_false hgt
        have HG2 := Lib.hid hgt
        clear hgt
        go_wp2
        go_roundw
        case rel =>
          obtain ⟨⟨n1, n2, n3⟩, ⟨n5, n6⟩, _⟩ := HN.out
          have hn := HNX.out
          rw [if_neg HG2.out] at hn
          exact ⟨j + 1, by rw [n2], by rw [hn], by rw [hn], ⟨n1, by rw [hn]; exact n5, by rw [hn]; exact n6⟩, HW3.out⟩
        case measure => have := HN.out; simp [intOf]; omega
    · have hd : decide (k < TO) = false := decide_eq_false hlt
      rw [hd]
      have hjj : j = (TO - FR).toNat := by have := HK.out; omega
      have HBz := Lib.hid (HB.out.trans (HW3.out.mono HB.out.size))
      have hv : Hid (V = maxR h FR j) := by show _ = _; rw [HV.out, HH.out, hjj]
      have hsp : 0 < j → 0 ≤ s := by
        intro hp
        have := (Bell.maxF_spec (Bell.heardAt T l r) FR j (fun i hi => (HRG.out (FR + (i : Int))).1)).2 hp |>.1
        rw [HSM.out, HH.out]; exact this
      by_cases hj0 : j = 0
      · have hs1 : s = -1 := by rw [HSM.out, hj0]; rfl
        have hv2 : Hid (V = (0, 0, 7)) := by show _ = _; rw [hv.out, hj0]; rfl
        subst hs1
        clear hlt hjj hj hla hfr hto j1 j2 j3 HRG HHE HAT hsp hv hj0
        go_wp2
        (try simp only [Exit.inBlock, Exit.then])
        refine bodyPost_ret (v := .tuple #[.int .i64 0, .int .i64 0, .int .i64 7]) (by simp [results, Tryz.results60, go_sem, asAddr]) rfl ?_
        exact ⟨by rw [hv2.out], HBz.out⟩
      · have hs0 : 0 ≤ s := hsp (by omega)
        have hd2 : decide (s < 0) = false := decide_eq_false (by omega)
        have hv2 : Hid (V = (s, u, 0)) := by show _ = _; rw [hv.out, maxR, if_neg hj0, HSM.out, HUM.out]
        clear hlt hjj hj hla hfr hto j1 j2 j3 HRG HHE HAT hsp hv hj0 hs0
        go_wp2
        (try simp only [Exit.inBlock, Exit.then])
        refine bodyPost_ret (v := .tuple #[.int .i64 s, .int .i64 u, .int .i64 0]) (by simp [results, Tryz.results60, go_sem, asAddr]) rfl ?_
        exact ⟨by rw [hv2.out], HBz.out⟩
end Go.Proofs.YtmafmebcgmegeaaGreatDoor

namespace Go.Proofs.YtmafmebcgmegeaaGreatDoor
open Go.RowKit Go.Sort
set_option maxHeartbeats 400000 in
set_option maxRecDepth 100000 in
theorem refCeil_big (x v : Int) (w : World) (hx : 0 ≤ x ∧ x ≤ 1000000000000000) (hv : 1 ≤ v ∧ v ≤ 1000) :
    Calls Tryz.prog 131 #[.int .i64 x, .int .i64 v] w fun e w' => e = .returned (.int .i64 ((x + v - 1) / v)) ∧ w' = w := by
  have hc := ceil_gen (x := x) hv.1
  rw [Int.zero_sub, Int.zero_sub] at hc
  have HFL := Lib.hid (fun W => refFloor_gen (-x) v W (by omega) (by omega))
  have w1 : IntKind.i64.wrap (-x) = -x := IntWalk.i64_in _ (by omega)
  have hq1 : 0 ≤ (x + v - 1) / v := Int.ediv_nonneg (by omega) (by omega)
  have hq2 : (x + v - 1) / v ≤ x + v - 1 := Int.ediv_le_self _ (by omega)
  obtain ⟨q, hq⟩ : ∃ q, q = (-x) / v := ⟨_, rfl⟩
  obtain ⟨R, hR⟩ : ∃ R, R = (x + v - 1) / v := ⟨_, rfl⟩
  rw [← hq] at hc HFL
  rw [← hR] at hc hq1 hq2 ⊢
  have w2 : IntKind.i64.wrap (-q) = -q := IntWalk.i64_in _ (by omega)
  have HC := Lib.hid hc
  clear hR
  clear hc hq hq1 hq2
  go_enter Tryz.func131, Tryz.ntmps131
  go_wp2_with fail
  refine (HFL.out _).mono ?_
  rintro e w' ⟨rfl, rfl⟩
  go_wp2
  go_ret
  exact ⟨ret_int (by have := HC.out; omega), rfl⟩
theorem max3_run (P : Program) (a b c : Int) (ts : Array TypeId) (t : TypeId) (W : World) : (Builtin.max_ ts t #[.int .i64 a, .int .i64 b, .int .i64 c]).run P W = .ok (.int .i64 (max (max a b) c)) W := by
  have k : ∀ x y : Int, (if y > x then y else x) = max x y := fun x y => by split <;> omega
  simp [Builtin.max_, Builtin.max2, k]
def apNear (n a b : Int) : Int := Bell.nearOf (min (a - n) (b - n)) (max (a - n) (b - n))
def apFar (n a b : Int) : Int := Bell.farOf (min (a - n) (b - n)) (max (a - n) (b - n))
set_option maxHeartbeats 1000000 in
set_option maxRecDepth 100000 in
theorem refApart_any (n a b : Int) (w : World) (hn : -100000 ≤ n ∧ n ≤ 100000) (ha : -100000 ≤ a ∧ a ≤ 100000) (hb : -100000 ≤ b ∧ b ≤ 100000) :
    Calls Tryz.prog 138 #[.int .i64 n, .int .i64 a, .int .i64 b] w fun e w' => e = .returned (.tuple #[.int .i64 (apNear n a b), .int .i64 (apFar n a b)]) ∧ w' = w := by
  have hN : apNear n a b = max (max 0 (min a b - n)) (n - max a b) := (Bell.near_is n a b).symm
  have hF : apFar n a b = max (n - min a b) (max a b - n) := (Bell.far_is n a b).symm
  rw [hN, hF]
  obtain ⟨L, hL⟩ : ∃ x, x = min a b := ⟨_, rfl⟩
  obtain ⟨H, hH⟩ : ∃ x, x = max a b := ⟨_, rfl⟩
  have r1 : ∀ ts t' W, (Builtin.min_ ts t' #[.int .i64 a, .int .i64 b]).run Tryz.prog W = .ok (.int .i64 L) W := fun ts t' W => by rw [hL]; exact min2_run _ _ _ _ _ _
  have r2 : ∀ ts t' W, (Builtin.max_ ts t' #[.int .i64 a, .int .i64 b]).run Tryz.prog W = .ok (.int .i64 H) W := fun ts t' W => by rw [hH]; exact max2_run _ _ _ _ _ _
  rw [← hL, ← hH]
  obtain ⟨p, hp⟩ : ∃ x, x = L - n := ⟨_, rfl⟩
  obtain ⟨q, hq⟩ : ∃ x, x = n - H := ⟨_, rfl⟩
  obtain ⟨u, hu⟩ : ∃ x, x = n - L := ⟨_, rfl⟩
  obtain ⟨v, hv⟩ : ∃ x, x = H - n := ⟨_, rfl⟩
  have v1 : IntKind.i64.wrap (L - n) = p := by rw [hp]; exact IntWalk.i64_in _ (by omega)
  have v2 : IntKind.i64.wrap (n - H) = q := by rw [hq]; exact IntWalk.i64_in _ (by omega)
  have v3 : IntKind.i64.wrap (n - L) = u := by rw [hu]; exact IntWalk.i64_in _ (by omega)
  have v4 : IntKind.i64.wrap (H - n) = v := by rw [hv]; exact IntWalk.i64_in _ (by omega)
  rw [← hp, ← hq, ← hu, ← hv]
  obtain ⟨X, hX⟩ : ∃ x, x = max (max 0 p) q := ⟨_, rfl⟩
  obtain ⟨Y, hY⟩ : ∃ x, x = max u v := ⟨_, rfl⟩
  have r3 : ∀ ts t' W, (Builtin.max_ ts t' #[.int .i64 0, .int .i64 p, .int .i64 q]).run Tryz.prog W = .ok (.int .i64 X) W := fun ts t' W => by rw [hX]; exact max3_run _ _ _ _ _ _ _
  have r4 : ∀ ts t' W, (Builtin.max_ ts t' #[.int .i64 u, .int .i64 v]).run Tryz.prog W = .ok (.int .i64 Y) W := fun ts t' W => by rw [hY]; exact max2_run _ _ _ _ _ _
  rw [← hX, ← hY]
  clear hL hH hp hq hu hv hX hY hn ha hb hN hF
  go_enter Tryz.func138, Tryz.ntmps138
  go_wp2
  go_ret2
  exact ⟨rfl, rfl⟩
end Go.Proofs.YtmafmebcgmegeaaGreatDoor
