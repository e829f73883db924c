/- Texts Q8 of the proof. -/
import Derived.BigQuiet
import Derived.Test.YtmafmebcgmegeaaGreatDoorFz17
import Derived.Test.YtmafmebcgmegeaaGreatDoorFz16
namespace Go.Proofs.YtmafmebcgmegeaaGreatDoor
open Go.RowKit Go.Sort
theorem stepAt1_any (s : Bell.Sp) (d : Int) (g : Nat) (w : World) (hc : w.cell? ⟨g, 0, none⟩ = some (.int .i64 d)) :
    Calls Tryz.prog 180 #[.agg (spV s), .pointer (some ⟨g, 0, none⟩)] w fun e w' => e = .returned (.bool (decide (d < s.d))) ∧ Below w.heap.size w w' := by
  unfold spV; have hb : Below w.heap.size w (w.alloc (.cells #[.int .i64 s.d, .int .i64 s.h, .int .i64 s.p] 166)) := (Below.refl _ w).alloc (Nat.le_refl _) _
  have hc1 : (w.alloc (.cells #[.int .i64 s.d, .int .i64 s.h, .int .i64 s.p] 166)).cell? ⟨g, 0, none⟩ = some (.int .i64 d) := by
    rw [hb.cell (p := ⟨g, 0, none⟩) (World.block_lt_of_cell? _ _ hc)]; exact hc
  have HB := Lib.hid hb; clear hb hc
  go_enter Tryz.func180, Tryz.ntmps180
  go_wp2
  go_ret
  exact ⟨rfl, HB.out⟩
theorem nextSp_at {p : List Bell.Sp} {d : Int} {k : Nat} (hk : k < p.length) (h1 : ∀ j, j < k → (Bell.spAt p j).d ≤ d) (h2 : d < (Bell.spAt p k).d) : Bell.nextSp p d = k := by
  unfold Bell.nextSp; rw [List.findIdx_eq hk]; refine ⟨by simpa [Bell.spAt, hk] using h2, fun j hj => ?_⟩; have := h1 j hj
  simpa [Bell.spAt, show j < p.length by omega] using this
theorem nextSp_none {p : List Bell.Sp} {d : Int} (h1 : ∀ j, j < p.length → (Bell.spAt p j).d ≤ d) : Bell.nextSp p d = p.length := by
  unfold Bell.nextSp; rw [List.findIdx_eq_length]; intro x hx; obtain ⟨i, hi, rfl⟩ := List.getElem_of_mem hx; have := h1 i hi
  simpa [Bell.spAt, hi] using this
def nextSpI (p : List Bell.Sp) (d : Int) : Int := if Bell.nextSp p d = p.length then -1 else (Bell.nextSp p d : Int)
set_option maxHeartbeats 1000000 in
set_option maxRecDepth 100000 in
theorem indexFunc_step (b o n c g : Nat) (s : List Bell.Sp) (p : Int) (w : World) (hs : SpsAt w (some ⟨b, o, none⟩) n s) (hn : n ≤ 8) (hc : w.cell? ⟨g, 0, none⟩ = some (.int .i64 p)) :
    Calls Tryz.prog 179 #[.slice (some ⟨b, o, none⟩) n c, .func (.func 180) #[] #[.pointer (some ⟨g, 0, none⟩)]] w
      fun e w' => e = .returned (.int .i64 (nextSpI s p)) ∧ Below w.heap.size w w' := by
  have HS := Lib.hid hs; have HC := Lib.hid hc; have HN := Lib.hid hs.1; clear hs hc
  go_enter Tryz.func179, Tryz.ntmps179
  go_wp2
  go_loopw [5, 8] (fun _ k wr => ∃ j : Nat, j ≤ n ∧ k = .int .i64 j ∧ Hid (∀ q, q < j → (Bell.spAt s q).d ≤ p) ∧ Hid (Below w.heap.size w wr)) (fun _ k _ => n - (intOf k).toNat)
  case atStart => exact ⟨0, Nat.zero_le _, rfl, (fun q hq => by omega), Below.refl _ _⟩
  case round =>
    obtain ⟨j, hj, rfl, hp, hb⟩ := hrel
    by_cases hlt : j < n
    · obtain ⟨b', o', e', hcc⟩ := (HS.out.keep hb.out).2 (by omega)
      cases e'
      obtain ⟨h1, h2, h3⟩ := hcc j hlt
      have hcr : Hid (wr.cell? ⟨g, 0, none⟩ = some (.int .i64 p)) := by
        show _ = _
        rw [hb.out.cell (p := ⟨g, 0, none⟩) (World.block_lt_of_cell? _ _ HC.out)]; exact HC.out
      obtain ⟨x, hx⟩ : ∃ x, x = Bell.spAt s j := ⟨_, rfl⟩; rw [← hx] at h1 h2 h3; have HX := Lib.hid hx; clear hx hcc
      go_wp2_with fail
      refine (stepAt1_any x p g wr hcr.out).mono ?_; rintro e w2 ⟨rfl, hb2⟩; have HB2 := Lib.hid (hb.out.trans (hb2.mono hb.out.size)); clear hb2 h1 h2 h3
      by_cases hle : p < x.d
      · have hd : decide (p < x.d) = true := decide_eq_true hle
        have hr : Hid (nextSpI s p = (j : Int)) := by
          show _ = _
          have := nextSp_at (p := s) (d := p) (k := j) (by rw [HN.out]; exact hlt) hp.out (by rw [← HX.out]; exact hle); unfold nextSpI; rw [this, if_neg (by rw [HN.out]; omega)]
        rw [hd]; clear hle hd; go_wp2; go_ret; exact ⟨ret_int hr.out.symm, HB2.out⟩
      · have hd : decide (p < x.d) = false := decide_eq_false hle
        have hq : Hid (∀ q, q < j + 1 → (Bell.spAt s q).d ≤ p) := fun q hq => by
          by_cases hqj : q = j
          · subst hqj; rw [← HX.out]; omega
          · exact hp.out q (by omega)
        rw [hd]; clear hle hd; go_wp2; go_roundw
        case rel => exact ⟨j + 1, by omega, by go_num, hq, HB2⟩
        case measure => simp [intOf]; omega
    · have hr : Hid (nextSpI s p = -1) := by
        show _ = _
        have := nextSp_none (p := s) (d := p) (fun q hq => hp.out q (by rw [HN.out] at hq; omega)); unfold nextSpI; rw [this, if_pos rfl]
      go_wp2
      go_ret
      exact ⟨ret_int hr.out.symm, hb.out⟩
theorem stepAt2_st (x y k at_ bt : Int) (g1 g2 g3 : Nat) (w : World) (hx : -1000000 ≤ x ∧ x ≤ 1000000) (hy : -1000000 ≤ y ∧ y ≤ 1000000) (h0 : 0 ≤ at_) (h1 : at_ ≤ k) (h2 : k < bt) (h3 : bt ≤ 100000000)
    (c1 : w.cell? ⟨g1, 0, none⟩ = some (.int .i64 k)) (c2 : w.cell? ⟨g2, 0, none⟩ = some (.int .i64 at_)) (c3 : w.cell? ⟨g3, 0, none⟩ = some (.int .i64 bt)) :
    Calls Tryz.prog 181 #[.int .i64 x, .int .i64 y, .pointer (some ⟨g1, 0, none⟩), .pointer (some ⟨g2, 0, none⟩), .pointer (some ⟨g3, 0, none⟩)] w fun e w' => e = .returned (.int .i64 (Bell.betw x y (k - at_) (bt - at_))) ∧ w' = w := by
  go_enter Tryz.func181, Tryz.ntmps181
  go_wp2_with fail
  refine (between_st x y (k - at_) (bt - at_) _ (by omega) (by omega) (by omega) (by omega) (by omega) (by omega) (by omega) (by omega)).mono ?_; rintro e w' ⟨rfl, rfl⟩; go_wp2; go_ret; exact ⟨rfl, rfl⟩
attribute [local go_sem] growsTo growUpon in
set_option maxHeartbeats 1000000 in
set_option maxRecDepth 100000 in
theorem stepAt_any (b o n c : Nat) (p : List Bell.Sp) (d : Int) (w : World) (hl : SpsAt w (some ⟨b, o, none⟩) n p) (hg : Bell.GoodSp p) (hn8 : n ≤ 8) (hm : ∀ i, i < p.length → (Bell.spAt p i).d ≤ 400000) (hd0 : 0 ≤ d) :
    Calls Tryz.prog 130 #[.slice (some ⟨b, o, none⟩) n c, .int .i64 d] w fun e w' => e = .returned (.agg #[.int .i64 d, .int .i64 (Bell.heightAt p d), .int .i64 (Bell.powerAt p d)]) ∧ Below w.heap.size w w' := by
  have hn := hl.1; have g1 := hg.lo; have HL := Lib.hid hl; have HIX := Lib.hid (fun (g : Nat) (W : World) (hb : Below w.heap.size w W) (hc : W.cell? ⟨g, 0, none⟩ = some (.int .i64 d)) => indexFunc_step b o n c g p d W (hl.keep hb) hn8 hc)
  have hk1 : Bell.nextSp p d ≠ p.length → 1 ≤ Bell.nextSp p d ∧ Bell.nextSp p d < p.length ∧ (Bell.spAt p (Bell.nextSp p d - 1)).d ≤ d ∧ d < (Bell.spAt p (Bell.nextSp p d)).d := fun h => by
    have := Bell.next_sp hg hd0 h
    omega
  obtain ⟨H, hH⟩ : ∃ x, x = Bell.heightAt p d := ⟨_, rfl⟩; obtain ⟨O, hO⟩ : ∃ x, x = Bell.powerAt p d := ⟨_, rfl⟩; rw [← hH, ← hO]; have HB : Hid (Below w.heap.size w w) := Below.refl _ _; have HZ0 := hg.zero; have hh := hg.h0; have hp := hg.p0; have hHn : Bell.nextSp p d = p.length → H = (Bell.spAt p (p.length - 1)).h := fun h => by rw [hH]; unfold Bell.heightAt; rw [if_pos h]
  have hOn : Bell.nextSp p d = p.length → O = (Bell.spAt p (p.length - 1)).p := fun h => by rw [hO]; unfold Bell.powerAt; rw [if_pos h]
  have hHk : Bell.nextSp p d ≠ p.length → H = Bell.betw (Bell.spAt p (Bell.nextSp p d - 1)).h (Bell.spAt p (Bell.nextSp p d)).h (d - (Bell.spAt p (Bell.nextSp p d - 1)).d) ((Bell.spAt p (Bell.nextSp p d)).d - (Bell.spAt p (Bell.nextSp p d - 1)).d) := fun h => by rw [hH]; unfold Bell.heightAt; rw [if_neg h]
  have hOk : Bell.nextSp p d ≠ p.length → O = Bell.betw (Bell.spAt p (Bell.nextSp p d - 1)).p (Bell.spAt p (Bell.nextSp p d)).p (d - (Bell.spAt p (Bell.nextSp p d - 1)).d) ((Bell.spAt p (Bell.nextSp p d)).d - (Bell.spAt p (Bell.nextSp p d - 1)).d) := fun h => by rw [hO]; unfold Bell.powerAt; rw [if_neg h]
  have HHn := Lib.hid hHn; have HOn := Lib.hid hOn; have HHk := Lib.hid hHk; have HOk := Lib.hid hOk; have HK1 := Lib.hid hk1; have HHH := Lib.hid hh; have HPP := Lib.hid hp; have HM := Lib.hid hm; have HUP := Lib.hid hg.up; have hnl : Hid (p.length = n) := hn; have hn2 : 2 ≤ n := by rw [← hn]; exact g1
  clear hl hg hk1 hH hO hHn hOn hHk hOk hh hp hm hn g1
  go_enter Tryz.func130, Tryz.ntmps130
  go_upto_region 1 with fail
  obtain ⟨wa, hwa⟩ : ∃ W, W = ((w.alloc (.cells #[.int .i64 d] 3)).alloc (.cells #[.int .i64 0, .int .i64 0, .int .i64 0] 166)) := ⟨_, rfl⟩; rw [← hwa]; have D : Hid (Blk wa (w.heap.size) 3 #[.int .i64 d]) := by show Blk _ _ _ _; rw [hwa]; exact (Blk.new _ _ _).alloc _
  have Z : Hid (Blk wa (w.heap.size + 1) 166 #[.int .i64 0, .int .i64 0, .int .i64 0]) := by show Blk _ _ _ _; rw [hwa]; exact Blk.at_size _ _ (by simp)
  have hba : Below w.heap.size w wa := by rw [hwa]; exact (((Below.refl _ _).alloc (Nat.le_refl _) _).alloc (by simp) _)
  obtain ⟨gd, hgd⟩ : ∃ g, g = w.heap.size := ⟨_, rfl⟩; obtain ⟨gz, hgz⟩ : ∃ g, g = w.heap.size + 1 := ⟨_, rfl⟩; have HGwa : Hid (gd = w.heap.size ∧ gz = w.heap.size + 1) := ⟨hgd, hgz⟩; rw [← hgz] at Z
  try rw [← hgz]
  rw [← hgd] at D
  try rw [← hgd]
  clear hwa hgd hgz; replace HB := Lib.hid (HB.out.trans (hba.mono HB.out.size)); clear hba; have d0 := D.out.cell 0; simp only [List.getElem?_toArray, List.getElem?_cons_zero] at d0
  go_wp2_with fail
  refine (HIX.out gd wa HB.out d0).mono ?_; rintro e wb ⟨rfl, hbb⟩; clear d0; replace HB := Lib.hid (HB.out.trans (hbb.mono HB.out.size)); replace D := Lib.hid (D.out.below hbb); replace Z := Lib.hid (Z.out.below hbb); clear hbb
  by_cases hN : Bell.nextSp p d = p.length
  · have hv : nextSpI p d = -1 := by unfold nextSpI; rw [if_pos hN]
    have hH := HHn.out hN; have hO := HOn.out hN; rw [hv]; obtain ⟨m, rfl⟩ : ∃ m, n = m + 1 := ⟨n - 1, by omega⟩; obtain ⟨b', o', e', hcc⟩ := (HL.out.keep HB.out).2 (by omega)
    cases e'
    obtain ⟨c1, c2, c3⟩ := hcc m (by omega); rw [hnl.out, Nat.add_sub_cancel] at hH hO; obtain ⟨S, hS⟩ : ∃ x, x = Bell.spAt p m := ⟨_, rfl⟩; rw [← hS] at c1 c2 c3 hH hO; have HHx := Lib.hid hH; have HOx := Lib.hid hO; clear hS hcc hH hO hv hN
    go_upto_region 4 with fail
    obtain ⟨wc, hwc⟩ : ∃ W, W = (wb.alloc (.cells #[.int .i64 S.d, .int .i64 S.h, .int .i64 S.p] 166)) := ⟨_, rfl⟩; rw [← hwc]; have E : Hid (Blk wc (wb.heap.size) 166 #[.int .i64 S.d, .int .i64 S.h, .int .i64 S.p]) := by show Blk _ _ _ _; rw [hwc]; exact Blk.new _ _ _
    have hbc : Below wb.heap.size wb wc := by rw [hwc]; exact ((Below.refl _ _).alloc (Nat.le_refl _) _)
    obtain ⟨ge, hge⟩ : ∃ g, g = wb.heap.size := ⟨_, rfl⟩; have HGwc : Hid (ge = wb.heap.size) := hge; rw [← hge] at E
    try rw [← hge]
    clear hwc hge; replace HB := Lib.hid (HB.out.trans (hbc.mono HB.out.size)); replace D := Lib.hid (D.out.below hbc); replace Z := Lib.hid (Z.out.below hbc); clear hbc; clear c1 c2 c3; have d0 := D.out.cell 0; have e1 := E.out.cell 1; have e2 := E.out.cell 2; simp only [List.getElem?_toArray, List.getElem?_cons_zero, List.getElem?_cons_succ] at d0 e1 e2; have hlv := (Z.out.setRow #[.int .i64 d, .int .i64 S.h, .int .i64 S.p]).lv Tryz.prog (T := 166) Tryz.underlying166 rfl (by kernel_rfl); have HLV := Lib.hid hlv; clear hlv
    go_wp2_with (refine wpList_store_row rfl 166 _ _ rfl gz #[.int .i64 d, .int .i64 S.h, .int .i64 S.p] rfl rfl 166 _ Z.out (by kernel_rfl) rfl (by simp [Value.oneCell']) ?_)
    refine bodyPost_ret (v := .agg #[.int .i64 d, .int .i64 S.h, .int .i64 S.p]) (by simp [results, Tryz.results130, asAddr]; exact HLV.out) rfl ?_; exact ⟨by rw [HHx.out, HOx.out], HB.out.setRow' (by rw [HGwa.out.2]; omega) _⟩
  · obtain ⟨k1, k2, k3, k4⟩ := HK1.out hN; have hv : nextSpI p d = (Bell.nextSp p d : Int) := by unfold nextSpI; rw [if_neg hN]
    have hH := HHk.out hN; have hO := HOk.out hN; rw [hv]; obtain ⟨q, hq⟩ : ∃ q, Bell.nextSp p d = q + 1 := ⟨Bell.nextSp p d - 1, by omega⟩; rw [hq] at k2 k3 k4 hH hO ⊢; rw [Nat.add_sub_cancel] at k3 hH hO; rw [show ((q + 1 : Nat) : Int) = (q : Int) + 1 by omega]; obtain ⟨b', o', e', hcc⟩ := (HL.out.keep HB.out).2 (by omega)
    cases e'
    have k5 : q + 1 < n := by rw [← hnl.out]; exact k2
    obtain ⟨c1, c2, c3⟩ := hcc q (by omega); obtain ⟨f1, f2, f3⟩ := hcc (q + 1) k5; have ha := HHH.out q (by omega); have hb' := HHH.out (q + 1) k2; have pa := HPP.out q (by omega); have pb := HPP.out (q + 1) k2; have m2 := HM.out (q + 1) k2; obtain ⟨S, hS⟩ : ∃ x, x = Bell.spAt p q := ⟨_, rfl⟩; obtain ⟨T, hT⟩ : ∃ x, x = Bell.spAt p (q + 1) := ⟨_, rfl⟩; rw [← hS] at c1 c2 c3 hH hO ha pa k3; rw [← hT] at f1 f2 f3 hH hO hb' pb k4 m2
    have hS0 : Hid (0 ≤ S.d) := by
      show 0 ≤ S.d
      rw [hS]; rcases Nat.eq_zero_or_pos q with h | h
      · rw [h, HZ0]; exact Int.le_refl _
      · have := HUP.out 0 q h (by omega); rw [HZ0] at this; omega
    have HHx := Lib.hid hH; have HOx := Lib.hid hO; clear hS hT hcc hH hO hv hN k1 k2 hq
    go_upto_region 5 with fail
    have q1 : (q : Int) < (n : Int) := by omega
    have q2 : (q : Int) + 1 < (n : Int) := by omega
    have q3 : (0 : Int) ≤ (q : Int) := by omega
    have q4 : IntKind.i64.wrap (q : Int) = (q : Int) := IntWalk.i64_in _ (by omega); have q5 : q < n := by omega
    have hbl := World.block_lt_of_cell? _ _ c1; simp only at hbl; have e1 : (b = wb.heap.size) = False := by simp; omega
    have e2 : (b = wb.heap.size + 1) = False := by simp; omega
    apply via3 (A := fun (W : World) (a : Nat) => Hid (Blk W a 166 #[.int .i64 S.d, .int .i64 S.h, .int .i64 S.p])) (B := fun (W : World) (a : Nat) => Hid (Blk W a 166 #[.int .i64 T.d, .int .i64 T.h, .int .i64 T.p])) (C := fun W => Hid (Below wb.heap.size wb W))
    · intro key
      go_region
      all_goals
        first
        | (obtain ⟨w2, hw2⟩ : ∃ W, W = ((wb.alloc (.cells #[.int .i64 S.d, .int .i64 S.h, .int .i64 S.p] 166)).alloc (.cells #[.int .i64 T.d, .int .i64 T.h, .int .i64 T.p] 166)).drew := ⟨_, rfl⟩
           rw [← hw2]; have P2 : Hid (Blk w2 (wb.heap.size) 166 #[.int .i64 S.d, .int .i64 S.h, .int .i64 S.p]) := by show Blk _ _ _ _; rw [hw2]; exact ((Blk.new _ _ _).alloc _).drew
           have F2 : Hid (Blk w2 (wb.heap.size + 1) 166 #[.int .i64 T.d, .int .i64 T.h, .int .i64 T.p]) := by show Blk _ _ _ _; rw [hw2]; exact (Blk.at_size _ _ (by simp)).drew
           have hb2 : Hid (Below wb.heap.size wb w2) := by show Below _ _ _; rw [hw2]; exact (((Below.refl _ _).alloc (Nat.le_refl _) _).alloc (by simp) _).drew
           obtain ⟨gP, hgP⟩ : ∃ x, x = wb.heap.size := ⟨_, rfl⟩; obtain ⟨gF, hgF⟩ : ∃ x, x = wb.heap.size + 1 := ⟨_, rfl⟩; rw [← hgP] at P2; rw [← hgF] at F2; rw [← hgF, ← hgP]; exact key w2 gP gF P2 F2 hb2)
        | (obtain ⟨w2, hw2⟩ : ∃ W, W = ((wb.alloc (.cells #[.int .i64 T.d, .int .i64 T.h, .int .i64 T.p] 166)).alloc (.cells #[.int .i64 S.d, .int .i64 S.h, .int .i64 S.p] 166)).drew := ⟨_, rfl⟩
           rw [← hw2]; have F2 : Hid (Blk w2 (wb.heap.size) 166 #[.int .i64 T.d, .int .i64 T.h, .int .i64 T.p]) := by show Blk _ _ _ _; rw [hw2]; exact ((Blk.new _ _ _).alloc _).drew
           have P2 : Hid (Blk w2 (wb.heap.size + 1) 166 #[.int .i64 S.d, .int .i64 S.h, .int .i64 S.p]) := by show Blk _ _ _ _; rw [hw2]; exact (Blk.at_size _ _ (by simp)).drew
           have hb2 : Hid (Below wb.heap.size wb w2) := by show Below _ _ _; rw [hw2]; exact (((Below.refl _ _).alloc (Nat.le_refl _) _).alloc (by simp) _).drew
           obtain ⟨gF, hgF⟩ : ∃ x, x = wb.heap.size := ⟨_, rfl⟩; obtain ⟨gP, hgP⟩ : ∃ x, x = wb.heap.size + 1 := ⟨_, rfl⟩; rw [← hgF] at F2; rw [← hgP] at P2; rw [← hgP, ← hgF]; exact key w2 gP gF P2 F2 hb2)
    intro w2 g1 g2 Bg1 Bg2 hbw2; replace hbw2 := hbw2.out; replace HB := Lib.hid (HB.out.trans (hbw2.mono HB.out.size)); replace D := Lib.hid (D.out.below hbw2); replace Z := Lib.hid (Z.out.below hbw2); clear hbw2; have F2 := Bg1; have T2 := Bg2; clear hbl e1 e2 c1 c2 c3 f1 f2 f3 q1 q2 q3 q4 q5; obtain ⟨ha1, ha2⟩ := ha; obtain ⟨hb1, hb2⟩ := hb'; obtain ⟨pa1, pa2⟩ := pa; obtain ⟨pb1, pb2⟩ := pb; have hS1 := hS0.out
    go_upto_region 7 with fail
    have dd := fun d os => cell_regrown (D.out.cell 0) d os
    have s0 := fun d os => cell_regrown (F2.out.cell 0) d os
    have s1 := fun d os => cell_regrown (F2.out.cell 1) d os
    have s2 := fun d os => cell_regrown (F2.out.cell 2) d os
    have t0 := fun d os => cell_regrown (T2.out.cell 0) d os
    have t1 := fun d os => cell_regrown (T2.out.cell 1) d os
    have t2 := fun d os => cell_regrown (T2.out.cell 2) d os
    have ch := fun nd ns => Calls.regrown_of (Calls.grow_same (stepAt2_st S.h T.h d S.d T.d gd g1 g2 (grow (redrawn w2 nd) ns) (by omega) (by omega) hS1 k3 k4 (by omega) (dd nd ns) (s0 nd ns) (t0 nd ns)))
    have cp := fun nd ns => Calls.regrown_of (Calls.grow_same (stepAt2_st S.p T.p d S.d T.d gd g1 g2 (grow (redrawn w2 nd) ns) (by omega) (by omega) hS1 k3 k4 (by omega) (dd nd ns) (s0 nd ns) (t0 nd ns)))
    refine wp_region_below_tail 14 (by kernel_rfl) (by kernel_rfl) ?_; simp only [List.take_succ_cons, List.take_zero, List.drop_succ_cons, List.drop_zero]
    iterate 6 (quiet_step (fail))
    quiet_step (exact ch _ _)
    iterate 5 (quiet_step (fail))
    quiet_step (exact cp _ _)
    iterate 1 (quiet_step (fail))
    refine wpQuiet_nil ?_; intro w3 hq1; obtain ⟨⟨dq, osq⟩, hq2⟩ := hq1; have hb3 := below_regrown w2 dq osq; rw [← hq2] at hb3; clear hq2; replace HB := Lib.hid (HB.out.trans (hb3.mono HB.out.size)); replace Z := Lib.hid (Z.out.below hb3); clear hb3; clear dd s0 s1 s2 t0 t1 t2 ch cp F2 T2 D; have hlv := (Z.out.setRow #[.int .i64 d, .int .i64 (Bell.betw S.h T.h (d - S.d) (T.d - S.d)), .int .i64 (Bell.betw S.p T.p (d - S.d) (T.d - S.d))]).lv Tryz.prog (T := 166) Tryz.underlying166 rfl (by kernel_rfl); have HLV := Lib.hid hlv; clear hlv
    go_wp2_with (refine wpList_store_row rfl 166 _ _ rfl gz #[.int .i64 d, .int .i64 (Bell.betw S.h T.h (d - S.d) (T.d - S.d)), .int .i64 (Bell.betw S.p T.p (d - S.d) (T.d - S.d))] rfl rfl 166 _ Z.out (by kernel_rfl) rfl (by simp [Value.oneCell']) ?_)
    refine bodyPost_ret (v := .agg #[.int .i64 d, .int .i64 (Bell.betw S.h T.h (d - S.d) (T.d - S.d)), .int .i64 (Bell.betw S.p T.p (d - S.d) (T.d - S.d))]) (by simp [results, Tryz.results130, asAddr]; exact HLV.out) rfl ?_; exact ⟨by rw [HHx.out, HOx.out], HB.out.setRow' (by rw [HGwa.out.2]; omega) _⟩
end Go.Proofs.YtmafmebcgmegeaaGreatDoor
