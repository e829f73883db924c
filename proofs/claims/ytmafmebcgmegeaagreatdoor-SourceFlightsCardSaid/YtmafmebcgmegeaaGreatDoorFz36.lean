/- Texts Xo of the proof. -/
import Derived.Test.YtmafmebcgmegeaaGreatDoorFz35
import Derived.Test.YtmafmebcgmegeaaGreatDoorFz16
import Derived.Test.YtmafmebcgmegeaaGreatDoorFz23
import Derived.Test.YtmafmebcgmegeaaGreatDoorFz14
namespace Go.Proofs.YtmafmebcgmegeaaGreatDoor
open Go.RowKit Go.Sort
set_option maxHeartbeats 400000 in
set_option maxRecDepth 100000 in
theorem refBetween_wide (a b p v : Int) (w : World) (ha : -100000 ≤ a ∧ a ≤ 100000) (hb : -100000 ≤ b ∧ b ≤ 100000) (hp : 0 ≤ p ∧ p ≤ 10000000) (hv : 1 ≤ v ∧ v ≤ 10000000) (hpv : p ≤ v) :
    Calls Tryz.prog 107 #[.int .i64 a, .int .i64 b, .int .i64 p, .int .i64 v] w fun e w' => e = .returned (.int .i64 (Bell.betw a b p v)) ∧ w' = w := by
  have hm : ((b - a) * p).natAbs ≤ 200000 * 10000000 := by
    rw [Int.natAbs_mul]; exact Nat.mul_le_mul (by omega) (by omega)
  have hB := Bell.betw_bounds (a := a) (b := b) (lo := -100000) (hi := 100000) (p := p) (w := v) (by omega) hp.1 hpv ha.1 hb.1 ha.2 hb.2; have HFL := Lib.hid (fun W => refFloor_gen ((b - a) * p) v W (by omega) hv); obtain ⟨m, hmm⟩ : ∃ m, m = (b - a) * p := ⟨_, rfl⟩; obtain ⟨q, hq⟩ : ∃ q, q = m / v := ⟨_, rfl⟩; have e : Bell.betw a b p v = a + q := by unfold Bell.betw; rw [hq, hmm]
  rw [← hmm] at hm HFL; rw [← hq] at HFL; rw [e] at hB ⊢; have w1 : IntKind.i64.wrap (b - a) = b - a := IntWalk.i64_in _ (by omega); have w2 : IntKind.i64.wrap ((b - a) * p) = m := by rw [← hmm]; exact IntWalk.i64_in _ (by omega)
  have w3 : IntKind.i64.wrap (a + q) = a + q := IntWalk.i64_in _ (by omega); clear hB hm hmm hq e ha hb hp hv hpv
  go_enter Tryz.func107, Tryz.ntmps107
  go_wp2_with fail
  refine (HFL.out _).mono ?_; rintro e w' ⟨rfl, rfl⟩; go_wp2; go_ret; exact ⟨rfl, rfl⟩
def fxRow (P : Bell.Fx) : Array Value := #[.int .i64 P.t, .int .i64 P.x, .int .i64 P.y, .int .i64 P.z, .int .i64 P.p]
set_option maxHeartbeats 4000000 in
set_option maxRecDepth 100000 in
theorem refAt_any (b off n c : Nat) (l : List Bell.Fx) (k : Int) (w : World) (hl : FixesAt w b off n l) (hg : Bell.GoodTr l) (h1 : (Bell.fxAt l 0).t ≤ k) (h2 : k < (Bell.fxAt l (l.length - 1)).t) :
    Calls Tryz.prog 42 #[.slice (some ⟨b, off, none⟩) n c, .int .i64 k] w fun e w' => e = .returned (.agg (stV (Bell.stAt l k))) ∧ Below w.heap.size w w' := by
  have hn := hl.1; have n1 := hg.lo; have n2 := hg.hi; obtain ⟨i, si1, si2, si3, si4⟩ := Bell.seg_ex hg.lo h1 h2; have HUP := Lib.hid hg.up; have HGX := Lib.hid hg.pts; have HL := Lib.hid hl; have HSA : Hid (Bell.stAt l k = Bell.stOf (Bell.fxAt l i) (Bell.fxAt l (i + 1)) k) := by show _ = _; unfold Bell.stAt; rw [si4]
  have HS2 := Lib.hid si2; have HS3 := Lib.hid si3; have h0 : i + 1 < n := by omega
  obtain ⟨m, hm⟩ : ∃ m, m + 1 = n := ⟨n - 1, by omega⟩; have hnn : n ≤ 16 := by omega
  have HLEN := Lib.hid hn; have HK0 := Lib.hid h1
  have HSPN : Hid ((Bell.fxAt l (i + 1)).t - (Bell.fxAt l i).t ≤ 1000) := by
    have h5 := hg.last
    have h6 : (Bell.fxAt l 0).t ≤ (Bell.fxAt l i).t := by
      rcases Nat.eq_zero_or_pos i with e | e
      · rw [e]; exact Int.le_refl _
      · have := hg.up 0 i e (by omega); omega
    have h7 : (Bell.fxAt l (i + 1)).t ≤ (Bell.fxAt l (l.length - 1)).t := by
      rcases Nat.lt_or_ge (i + 1) (l.length - 1) with e | e
      · have := hg.up (i + 1) (l.length - 1) e (by omega); omega
      · rw [show i + 1 = l.length - 1 by omega]; exact Int.le_refl _
    show _ ≤ _
    omega
  clear hl hg h1 h2 si1 si2 si3 si4 n1 n2 hn
  go_enter Tryz.func42, Tryz.ntmps42
  go_upto_region 1 with fail
  obtain ⟨w1, hw1⟩ : ∃ W, W = (w.alloc (.cells #[.int .i64 0, .int .i64 0, .int .i64 0, .int .i64 0, .int .i64 0, .int .i64 0] 32)) := ⟨_, rfl⟩; rw [← hw1]; have R : Hid (Blk w1 (w.heap.size) 32 #[.int .i64 0, .int .i64 0, .int .i64 0, .int .i64 0, .int .i64 0, .int .i64 0]) := by show Blk _ _ _ _; rw [hw1]; exact Blk.new _ _ _
  have hb : Below w.heap.size w w1 := by rw [hw1]; exact ((Below.refl _ _).alloc (Nat.le_refl _) _)
  obtain ⟨g4, hg4⟩ : ∃ g, g = w.heap.size := ⟨_, rfl⟩; have HGw1 : Hid (g4 = w.heap.size) := hg4; rw [← hg4] at R
  try rw [← hg4]
  clear hw1 hg4; have HB := Lib.hid hb; have HG4 : Hid (w.heap.size ≤ g4) := by show _ ≤ _; rw [HGw1.out]; exact Nat.le_refl _
  replace HL := Lib.hid (HL.out.keep hb); clear hb HGw1; have wn : IntKind.i64.wrap ((n : Int) - 1) = (m : Int) := by rw [IntWalk.i64_in _ (by omega)]; omega
  go_wp2
  go_loopw [5, 6] (fun kk jj wr => ∃ a q : Nat, a ≤ m ∧ jj = .int .i64 a ∧ kk = .int .i64 q ∧ Hid (q ≤ i ∧ (i < a → q = i)) ∧ wr = w1) (fun _ jj _ => m - (intOf jj).toNat)
  case atStart => exact ⟨0, 0, Nat.zero_le _, rfl, rfl, ⟨Nat.zero_le _, fun h => by omega⟩, rfl⟩
  case round =>
    obtain ⟨a, q, ha, rfl, rfl, hq, hw⟩ := hrel; obtain rfl := hw.symm
    by_cases ham : a < m
    · have c0 := (HL.out.2 a (by omega)).1; obtain ⟨d, hd⟩ : ∃ d, d = (Bell.fxAt l a).t := ⟨_, rfl⟩; rw [← hd] at c0; have HD := Lib.hid hd; have pa : (a : Int) < (n : Int) := by omega
      have pa2 : (a : Int) < (m : Int) := by omega
      clear hd
      by_cases hdk : d ≤ k
      · go_wp2
        go_roundw
        case rel =>
          refine ⟨a + 1, a, by omega, by go_num, rfl, ⟨?_, fun h => ?_⟩, by first | rfl | trivial⟩
          · apply Nat.le_of_not_lt
            intro h; have h3 := HS3.out; have h5 := HD.out
            by_cases e : a = i + 1
            · subst e; omega
            · have h4 := HUP.out (i + 1) a (by omega) (by rw [HLEN.out]; omega)
              omega
          · have : a ≤ i := by
              apply Nat.le_of_not_lt
              intro h; have h3 := HS3.out; have h5 := HD.out
              by_cases e : a = i + 1
              · subst e; omega
              · have h4 := HUP.out (i + 1) a (by omega) (by rw [HLEN.out]; omega)
                omega
            omega
        case measure => simp [intOf]; omega
      · go_wp2
        go_roundw
        case rel =>
          refine ⟨a + 1, q, by omega, by go_num, rfl, ⟨hq.out.1, fun h => ?_⟩, by first | rfl | trivial⟩
          by_cases e : a = i
          · exfalso
            have h2 := HS2.out; have h5 := HD.out; subst e; omega
          · exact hq.out.2 (by omega)
        case measure => simp [intOf]; omega
    · obtain rfl : a = m := by omega
      obtain rfl : q = i := hq.out.2 (by omega); clear hq ham ha wn; obtain ⟨a0, a1, a2, a3, a4⟩ := HL.out.2 q (by omega); obtain ⟨b0, b1, b2, b3, b4⟩ := HL.out.2 (q + 1) h0; have gA := HGX.out q (by rw [HLEN.out]; omega); have gB := HGX.out (q + 1) (by rw [HLEN.out]; omega); have HU := HUP.out q (q + 1) (by omega) (by rw [HLEN.out]; omega); have HS2' := HS2.out; have HS3' := HS3.out; obtain ⟨X, hX⟩ : ∃ X, X = Bell.fxAt l q := ⟨_, rfl⟩; obtain ⟨Y, hY⟩ : ∃ Y, Y = Bell.fxAt l (q + 1) := ⟨_, rfl⟩; rw [← hX] at a0 a1 a2 a3 a4 gA HU HS2' HSA HSPN; rw [← hY] at b0 b1 b2 b3 b4 gB HU HS3' HSA HSPN; have GA := Lib.hid gA; have GB := Lib.hid gB; have HT : Hid (X.t ≤ k ∧ k < Y.t ∧ X.t < Y.t) := ⟨HS2', HS3', HU⟩; have wq : IntKind.i64.wrap ((q : Int) + 1) = ((q + 1 : Nat) : Int) := by rw [IntWalk.i64_in _ (by omega)]; omega
      have pq : (q : Int) < (n : Int) := by omega
      have pq2 : ((q + 1 : Nat) : Int) < (n : Int) := by omega
      have hbl : b < w1.heap.size := World.block_lt_of_cell? _ _ a0; have e1 : (b = w1.heap.size) = False := by simp; omega
      have e2 : (b = w1.heap.size + 1) = False := by simp; omega
      obtain ⟨q1, hq1⟩ : ∃ q1, q1 = q + 1 := ⟨_, rfl⟩; rw [← hq1] at wq pq2 b0 b1 b2 b3 b4; clear hX hY gA gB HU HS2' HS3' HS2 HS3 HUP HGX HK0 hq1
      go_upto_region 7 with fail
      apply via3 (A := fun (W : World) (a : Nat) => Hid (Blk W a 140 (fxRow X))) (B := fun (W : World) (a : Nat) => Hid (Blk W a 140 (fxRow Y))) (C := fun W => Hid (Below w1.heap.size w1 W))
      · intro key
        go_region
        · obtain ⟨w2, hw2⟩ : ∃ W, W = ((w1.alloc (.cells #[.int .i64 X.t, .int .i64 X.x, .int .i64 X.y, .int .i64 X.z, .int .i64 X.p] 140)).alloc (.cells #[.int .i64 Y.t, .int .i64 Y.x, .int .i64 Y.y, .int .i64 Y.z, .int .i64 Y.p] 140)).drew := ⟨_, rfl⟩; rw [← hw2]; have PX : Hid (Blk w2 (w1.heap.size) 140 (fxRow X)) := by show Blk _ _ _ _; rw [hw2]; exact ((Blk.new _ _ _).alloc _).drew
          have PY : Hid (Blk w2 (w1.heap.size + 1) 140 (fxRow Y)) := by show Blk _ _ _ _; rw [hw2]; exact (Blk.at_size _ _ (by simp)).drew
          have hb2 : Hid (Below w1.heap.size w1 w2) := by show Below _ _ _; rw [hw2]; exact (((Below.refl _ _).alloc (Nat.le_refl _) _).alloc (by simp) _).drew
          obtain ⟨gX, hgX⟩ : ∃ x, x = w1.heap.size := ⟨_, rfl⟩; obtain ⟨gY, hgY⟩ : ∃ x, x = w1.heap.size + 1 := ⟨_, rfl⟩; rw [← hgX] at PX; rw [← hgY] at PY; rw [← hgY, ← hgX]; exact key w2 gX gY PX PY hb2
        · obtain ⟨w2, hw2⟩ : ∃ W, W = ((w1.alloc (.cells #[.int .i64 Y.t, .int .i64 Y.x, .int .i64 Y.y, .int .i64 Y.z, .int .i64 Y.p] 140)).alloc (.cells #[.int .i64 X.t, .int .i64 X.x, .int .i64 X.y, .int .i64 X.z, .int .i64 X.p] 140)).drew := ⟨_, rfl⟩; rw [← hw2]; have PX : Hid (Blk w2 (w1.heap.size + 1) 140 (fxRow X)) := by show Blk _ _ _ _; rw [hw2]; exact (Blk.at_size _ _ (by simp)).drew
          have PY : Hid (Blk w2 (w1.heap.size) 140 (fxRow Y)) := by show Blk _ _ _ _; rw [hw2]; exact ((Blk.new _ _ _).alloc _).drew
          have hb2 : Hid (Below w1.heap.size w1 w2) := by show Below _ _ _; rw [hw2]; exact (((Below.refl _ _).alloc (Nat.le_refl _) _).alloc (by simp) _).drew
          obtain ⟨gX, hgX⟩ : ∃ x, x = w1.heap.size + 1 := ⟨_, rfl⟩; obtain ⟨gY, hgY⟩ : ∃ x, x = w1.heap.size := ⟨_, rfl⟩; rw [← hgX] at PX; rw [← hgY] at PY; rw [← hgX, ← hgY]; exact key w2 gX gY PX PY hb2
      intro w2 g7 g8 BX BY HC; have hb := HC.out; clear HC e1 e2; replace R := Lib.hid (R.out.below hb); replace HB := Lib.hid (HB.out.trans (hb.mono HB.out.size)); clear hb HL a0 a1 a2 a3 a4 b0 b1 b2 b3 b4 pq pq2 wq hbl; have ht := HT.out; have hga := GA.out; have hgb := GB.out; have ga0 := hga.t0; have gb1 := hgb.t1; obtain ⟨PA, hPA⟩ : ∃ z, z = k - X.t := ⟨_, rfl⟩; obtain ⟨WH, hWH⟩ : ∃ z, z = Y.t - X.t := ⟨_, rfl⟩; have HPW : Hid (0 ≤ PA ∧ PA ≤ WH ∧ 1 ≤ WH ∧ WH ≤ 10000000) := by show _ ∧ _ ∧ _ ∧ _; have := HSPN.out; omega
      have v1 : IntKind.i64.wrap (k - X.t) = PA := by rw [hPA]; exact IntWalk.i64_in _ (by omega)
      have v2 : IntKind.i64.wrap (Y.t - X.t) = WH := by rw [hWH]; exact IntWalk.i64_in _ (by omega)
      have x0 := BX.out.cell 0; have y0 := BY.out.cell 0; simp only [fxRow, List.getElem?_toArray, List.getElem?_cons_zero, List.getElem?_cons_succ] at x0 y0; have HPA := Lib.hid hPA; have HWH := Lib.hid hWH; clear ht hga hgb ga0 gb1 hPA hWH
      go_upto_region 8 with fail
      go_big_quiet (fail)
      obtain ⟨w3, hw3⟩ : ∃ W, W = w2.drewN nq := ⟨_, rfl⟩; rw [← hw3]; have hb : Below w2.heap.size w2 w3 := by rw [hw3]; exact below_drewN' (Below.refl _ _) _
      clear hw3 v1 v2 x0 y0; replace R := Lib.hid (R.out.below hb); replace BX := Lib.hid (BX.out.below hb); replace BY := Lib.hid (BY.out.below hb); replace HB := Lib.hid (HB.out.trans (hb.mono HB.out.size)); clear hb; have hga := GA.out; have hgb := GB.out; have hpw := HPW.out; have xa := hga.x0; have xb := hga.x1; have ya := hga.y0; have yb := hga.y1; have za := hga.z0; have zb := hga.z1; have pa := hga.p0; have pb := hga.p1; have xc := hgb.x0; have xd := hgb.x1; have yc := hgb.y0; have yd := hgb.y1; have zc := hgb.z0; have zd := hgb.z1; have pc := hgb.p0; have pd := hgb.p1; obtain ⟨Sx, hSx⟩ : ∃ z, z = Bell.betw X.x Y.x PA WH := ⟨_, rfl⟩
      have Cx : Hid (∀ W, Calls Tryz.prog 107 #[.int .i64 X.x, .int .i64 Y.x, .int .i64 PA, .int .i64 WH] W fun e w' => e = .returned (.int .i64 Sx) ∧ w' = W) := fun W => by
        have h := refBetween_wide X.x Y.x PA WH W (by omega) (by omega) (by omega) (by omega) (by omega)
        rwa [← hSx] at h
      obtain ⟨Sy, hSy⟩ : ∃ z, z = Bell.betw X.y Y.y PA WH := ⟨_, rfl⟩
      have Cy : Hid (∀ W, Calls Tryz.prog 107 #[.int .i64 X.y, .int .i64 Y.y, .int .i64 PA, .int .i64 WH] W fun e w' => e = .returned (.int .i64 Sy) ∧ w' = W) := fun W => by
        have h := refBetween_wide X.y Y.y PA WH W (by omega) (by omega) (by omega) (by omega) (by omega)
        rwa [← hSy] at h
      obtain ⟨Sz, hSz⟩ : ∃ z, z = Bell.betw X.z Y.z PA WH := ⟨_, rfl⟩
      have Cz : Hid (∀ W, Calls Tryz.prog 107 #[.int .i64 X.z, .int .i64 Y.z, .int .i64 PA, .int .i64 WH] W fun e w' => e = .returned (.int .i64 Sz) ∧ w' = W) := fun W => by
        have h := refBetween_wide X.z Y.z PA WH W (by omega) (by omega) (by omega) (by omega) (by omega)
        rwa [← hSz] at h
      obtain ⟨Sp, hSp⟩ : ∃ z, z = Bell.betw X.p Y.p PA WH := ⟨_, rfl⟩
      have Cp : Hid (∀ W, Calls Tryz.prog 107 #[.int .i64 X.p, .int .i64 Y.p, .int .i64 PA, .int .i64 WH] W fun e w' => e = .returned (.int .i64 Sp) ∧ w' = W) := fun W => by
        have h := refBetween_wide X.p Y.p PA WH W (by omega) (by omega) (by omega) (by omega) (by omega)
        rwa [← hSp] at h
      obtain ⟨HX, hHX⟩ : ∃ z, z = Y.x - X.x := ⟨_, rfl⟩; obtain ⟨HY, hHY⟩ : ∃ z, z = Y.y - X.y := ⟨_, rfl⟩; have v1 : IntKind.i64.wrap (Y.x - X.x) = HX := by rw [hHX]; exact IntWalk.i64_in _ (by omega)
      have v2 : IntKind.i64.wrap (Y.y - X.y) = HY := by rw [hHY]; exact IntWalk.i64_in _ (by omega)
      have HS : Hid (stV (Bell.stAt l k) = #[.int .i64 Sx, .int .i64 Sy, .int .i64 Sz, .int .i64 HX, .int .i64 HY, .int .i64 Sp]) := by
        show _ = _
        rw [HSA.out, hSx, hSy, hSz, hSp, hHX, hHY, HPA.out, HWH.out]
        rfl
      clear hga hgb hpw xa xb ya yb za zb pa pb xc xd yc yd zc zd pc pd hSx hSy hSz hSp hHX hHY HSA HPA HWH HPW HT GA GB
      go_upto_region 9 with fail
      refine wp_region_grow 51 (by kernel_rfl) (by kernel_rfl) [GR.eq (.pointer (some ⟨g7, 1, none⟩)), GR.eq (.pointer (some ⟨g7, 1, none⟩)), GR.eq (.int .i64 X.x), GR.eq (.pointer (some ⟨g8, 1, none⟩)), GR.eq (.pointer (some ⟨g8, 1, none⟩)), GR.eq (.int .i64 Y.x), GR.eq (.int .i64 PA), GR.eq (.int .i64 WH), GR.eq (.int .i64 Sx), GR.eq (.pointer (some ⟨g7, 1, none⟩)), GR.eq (.pointer (some ⟨g7, 2, none⟩)), GR.eq (.int .i64 X.y), GR.eq (.pointer (some ⟨g8, 1, none⟩)), GR.eq (.pointer (some ⟨g8, 2, none⟩)), GR.eq (.int .i64 Y.y), GR.eq (.int .i64 PA), GR.eq (.int .i64 WH), GR.eq (.int .i64 Sy), GR.eq (.pointer (some ⟨g7, 1, none⟩)), GR.eq (.pointer (some ⟨g7, 3, none⟩)), GR.eq (.int .i64 X.z), GR.eq (.pointer (some ⟨g8, 1, none⟩)), GR.eq (.pointer (some ⟨g8, 3, none⟩)), GR.eq (.int .i64 Y.z), GR.eq (.int .i64 PA), GR.eq (.int .i64 WH), GR.eq (.int .i64 Sz), GR.eq (.agg #[.int .i64 Sx, .int .i64 Sy, .int .i64 Sz]), GR.eq (.pointer (some ⟨g8, 1, none⟩)), GR.eq (.pointer (some ⟨g8, 1, none⟩)), GR.eq (.int .i64 Y.x), GR.eq (.pointer (some ⟨g7, 1, none⟩)), GR.eq (.pointer (some ⟨g7, 1, none⟩)), GR.eq (.int .i64 X.x), GR.eq (.int .i64 HX), GR.eq (.pointer (some ⟨g8, 1, none⟩)), GR.eq (.pointer (some ⟨g8, 2, none⟩)), GR.eq (.int .i64 Y.y), GR.eq (.pointer (some ⟨g7, 1, none⟩)), GR.eq (.pointer (some ⟨g7, 2, none⟩)), GR.eq (.int .i64 X.y), GR.eq (.int .i64 HY), GR.eq (.agg #[.int .i64 HX, .int .i64 HY]), GR.eq (.pointer (some ⟨g7, 4, none⟩)), GR.eq (.int .i64 X.p), GR.eq (.pointer (some ⟨g8, 4, none⟩)), GR.eq (.int .i64 Y.p), GR.eq (.int .i64 PA), GR.eq (.int .i64 WH), GR.eq (.int .i64 Sp), GR.eq (.agg #[.int .i64 Sx, .int .i64 Sy, .int .i64 Sz, .int .i64 HX, .int .i64 HY, .int .i64 Sp])] 95 rfl (by kernel_rfl) ?_ ?_
      · refine ⟨?_, ?_, ?_, ?_, ?_, ?_, ?_, ?_, ?_, ?_, ?_, ?_, ?_, ?_, ?_, ?_, ?_, ?_, ?_, ?_, ?_, ?_, ?_, ?_, ?_, ?_, ?_, ?_, ?_, ?_, ?_, ?_, ?_, ?_, ?_, ?_, ?_, ?_, ?_, ?_, ?_, ?_, ?_, ?_, ?_, ?_, ?_, ?_, ?_, ?_, ?_, trivial⟩
        · intro a W hE hd ho; have e7 : a.tmps[7]?.getD undef = .pointer (some ⟨g7, 0, none⟩) := ho 7 (by kernel_rfl); exact gs_same (v := .pointer (some ⟨g7, 1, none⟩)) (by go_simp) rfl
        · intro a W hE hd ho; have e44 : a.tmps[44]?.getD undef = .pointer (some ⟨g7, 1, none⟩) := hd 0 44 (by kernel_rfl) (by kernel_rfl); exact gs_same (v := .pointer (some ⟨g7, 1, none⟩)) (by go_simp) rfl
        · intro a W hE hd ho; have e45 : a.tmps[45]?.getD undef = .pointer (some ⟨g7, 1, none⟩) := hd 1 45 (by kernel_rfl) (by kernel_rfl); have c1 := (BX.out.below hE).cell 1; simp only [fxRow, List.getElem?_toArray, List.getElem?_cons_zero, List.getElem?_cons_succ] at c1; exact gs_same (v := .int .i64 X.x) (by go_simp) rfl
        · intro a W hE hd ho; have e8 : a.tmps[8]?.getD undef = .pointer (some ⟨g8, 0, none⟩) := ho 8 (by kernel_rfl); exact gs_same (v := .pointer (some ⟨g8, 1, none⟩)) (by go_simp) rfl
        · intro a W hE hd ho; have e47 : a.tmps[47]?.getD undef = .pointer (some ⟨g8, 1, none⟩) := hd 3 47 (by kernel_rfl) (by kernel_rfl); exact gs_same (v := .pointer (some ⟨g8, 1, none⟩)) (by go_simp) rfl
        · intro a W hE hd ho; have e48 : a.tmps[48]?.getD undef = .pointer (some ⟨g8, 1, none⟩) := hd 4 48 (by kernel_rfl) (by kernel_rfl); have c1 := (BY.out.below hE).cell 1; simp only [fxRow, List.getElem?_toArray, List.getElem?_cons_zero, List.getElem?_cons_succ] at c1; exact gs_same (v := .int .i64 Y.x) (by go_simp) rfl
        · intro a W hE hd ho; have e9 : a.tmps[9]?.getD undef = .int .i64 PA := ho 9 (by kernel_rfl); exact gs_same (v := .int .i64 PA) (by go_simp) rfl
        · intro a W hE hd ho; have e10 : a.tmps[10]?.getD undef = .int .i64 WH := ho 10 (by kernel_rfl); exact gs_same (v := .int .i64 WH) (by go_simp) rfl
        · intro a W hE hd ho; have e46 : a.tmps[46]?.getD undef = .int .i64 X.x := hd 2 46 (by kernel_rfl) (by kernel_rfl); have e49 : a.tmps[49]?.getD undef = .int .i64 Y.x := hd 5 49 (by kernel_rfl) (by kernel_rfl); have e50 : a.tmps[50]?.getD undef = .int .i64 PA := hd 6 50 (by kernel_rfl) (by kernel_rfl); have e51 : a.tmps[51]?.getD undef = .int .i64 WH := hd 7 51 (by kernel_rfl) (by kernel_rfl); refine gs_call (f := 107) (args := #[.int .i64 X.x, .int .i64 Y.x, .int .i64 PA, .int .i64 WH]) (by go_simp) ?_; refine (Cx.out W).mono ?_; rintro e w' ⟨rfl, rfl⟩; exact ⟨_, rfl, Ext.refl _, rfl⟩
        · intro a W hE hd ho; have e7 : a.tmps[7]?.getD undef = .pointer (some ⟨g7, 0, none⟩) := ho 7 (by kernel_rfl); exact gs_same (v := .pointer (some ⟨g7, 1, none⟩)) (by go_simp) rfl
        · intro a W hE hd ho; have e53 : a.tmps[53]?.getD undef = .pointer (some ⟨g7, 1, none⟩) := hd 9 53 (by kernel_rfl) (by kernel_rfl); exact gs_same (v := .pointer (some ⟨g7, 2, none⟩)) (by go_simp) rfl
        · intro a W hE hd ho; have e54 : a.tmps[54]?.getD undef = .pointer (some ⟨g7, 2, none⟩) := hd 10 54 (by kernel_rfl) (by kernel_rfl); have c2 := (BX.out.below hE).cell 2; simp only [fxRow, List.getElem?_toArray, List.getElem?_cons_zero, List.getElem?_cons_succ] at c2; exact gs_same (v := .int .i64 X.y) (by go_simp) rfl
        · intro a W hE hd ho; have e8 : a.tmps[8]?.getD undef = .pointer (some ⟨g8, 0, none⟩) := ho 8 (by kernel_rfl); exact gs_same (v := .pointer (some ⟨g8, 1, none⟩)) (by go_simp) rfl
        · intro a W hE hd ho; have e56 : a.tmps[56]?.getD undef = .pointer (some ⟨g8, 1, none⟩) := hd 12 56 (by kernel_rfl) (by kernel_rfl); exact gs_same (v := .pointer (some ⟨g8, 2, none⟩)) (by go_simp) rfl
        · intro a W hE hd ho; have e57 : a.tmps[57]?.getD undef = .pointer (some ⟨g8, 2, none⟩) := hd 13 57 (by kernel_rfl) (by kernel_rfl); have c2 := (BY.out.below hE).cell 2; simp only [fxRow, List.getElem?_toArray, List.getElem?_cons_zero, List.getElem?_cons_succ] at c2; exact gs_same (v := .int .i64 Y.y) (by go_simp) rfl
        · intro a W hE hd ho; have e9 : a.tmps[9]?.getD undef = .int .i64 PA := ho 9 (by kernel_rfl); exact gs_same (v := .int .i64 PA) (by go_simp) rfl
        · intro a W hE hd ho; have e10 : a.tmps[10]?.getD undef = .int .i64 WH := ho 10 (by kernel_rfl); exact gs_same (v := .int .i64 WH) (by go_simp) rfl
        · intro a W hE hd ho; have e55 : a.tmps[55]?.getD undef = .int .i64 X.y := hd 11 55 (by kernel_rfl) (by kernel_rfl); have e58 : a.tmps[58]?.getD undef = .int .i64 Y.y := hd 14 58 (by kernel_rfl) (by kernel_rfl); have e59 : a.tmps[59]?.getD undef = .int .i64 PA := hd 15 59 (by kernel_rfl) (by kernel_rfl); have e60 : a.tmps[60]?.getD undef = .int .i64 WH := hd 16 60 (by kernel_rfl) (by kernel_rfl); refine gs_call (f := 107) (args := #[.int .i64 X.y, .int .i64 Y.y, .int .i64 PA, .int .i64 WH]) (by go_simp) ?_; refine (Cy.out W).mono ?_; rintro e w' ⟨rfl, rfl⟩; exact ⟨_, rfl, Ext.refl _, rfl⟩
        · intro a W hE hd ho; have e7 : a.tmps[7]?.getD undef = .pointer (some ⟨g7, 0, none⟩) := ho 7 (by kernel_rfl); exact gs_same (v := .pointer (some ⟨g7, 1, none⟩)) (by go_simp) rfl
        · intro a W hE hd ho; have e62 : a.tmps[62]?.getD undef = .pointer (some ⟨g7, 1, none⟩) := hd 18 62 (by kernel_rfl) (by kernel_rfl); exact gs_same (v := .pointer (some ⟨g7, 3, none⟩)) (by go_simp) rfl
        · intro a W hE hd ho; have e63 : a.tmps[63]?.getD undef = .pointer (some ⟨g7, 3, none⟩) := hd 19 63 (by kernel_rfl) (by kernel_rfl); have c3 := (BX.out.below hE).cell 3; simp only [fxRow, List.getElem?_toArray, List.getElem?_cons_zero, List.getElem?_cons_succ] at c3; exact gs_same (v := .int .i64 X.z) (by go_simp) rfl
        · intro a W hE hd ho; have e8 : a.tmps[8]?.getD undef = .pointer (some ⟨g8, 0, none⟩) := ho 8 (by kernel_rfl); exact gs_same (v := .pointer (some ⟨g8, 1, none⟩)) (by go_simp) rfl
        · intro a W hE hd ho; have e65 : a.tmps[65]?.getD undef = .pointer (some ⟨g8, 1, none⟩) := hd 21 65 (by kernel_rfl) (by kernel_rfl); exact gs_same (v := .pointer (some ⟨g8, 3, none⟩)) (by go_simp) rfl
        · intro a W hE hd ho; have e66 : a.tmps[66]?.getD undef = .pointer (some ⟨g8, 3, none⟩) := hd 22 66 (by kernel_rfl) (by kernel_rfl); have c3 := (BY.out.below hE).cell 3; simp only [fxRow, List.getElem?_toArray, List.getElem?_cons_zero, List.getElem?_cons_succ] at c3; exact gs_same (v := .int .i64 Y.z) (by go_simp) rfl
        · intro a W hE hd ho; have e9 : a.tmps[9]?.getD undef = .int .i64 PA := ho 9 (by kernel_rfl); exact gs_same (v := .int .i64 PA) (by go_simp) rfl
        · intro a W hE hd ho; have e10 : a.tmps[10]?.getD undef = .int .i64 WH := ho 10 (by kernel_rfl); exact gs_same (v := .int .i64 WH) (by go_simp) rfl
        · intro a W hE hd ho; have e64 : a.tmps[64]?.getD undef = .int .i64 X.z := hd 20 64 (by kernel_rfl) (by kernel_rfl); have e67 : a.tmps[67]?.getD undef = .int .i64 Y.z := hd 23 67 (by kernel_rfl) (by kernel_rfl); have e68 : a.tmps[68]?.getD undef = .int .i64 PA := hd 24 68 (by kernel_rfl) (by kernel_rfl); have e69 : a.tmps[69]?.getD undef = .int .i64 WH := hd 25 69 (by kernel_rfl) (by kernel_rfl); refine gs_call (f := 107) (args := #[.int .i64 X.z, .int .i64 Y.z, .int .i64 PA, .int .i64 WH]) (by go_simp) ?_; refine (Cz.out W).mono ?_; rintro e w' ⟨rfl, rfl⟩; exact ⟨_, rfl, Ext.refl _, rfl⟩
        · intro a W hE hd ho; have e52 : a.tmps[52]?.getD undef = .int .i64 Sx := hd 8 52 (by kernel_rfl) (by kernel_rfl); have e61 : a.tmps[61]?.getD undef = .int .i64 Sy := hd 17 61 (by kernel_rfl) (by kernel_rfl); have e70 : a.tmps[70]?.getD undef = .int .i64 Sz := hd 26 70 (by kernel_rfl) (by kernel_rfl); exact gs_same (v := .agg #[.int .i64 Sx, .int .i64 Sy, .int .i64 Sz]) (by go_simp) rfl
        · intro a W hE hd ho; have e8 : a.tmps[8]?.getD undef = .pointer (some ⟨g8, 0, none⟩) := ho 8 (by kernel_rfl); exact gs_same (v := .pointer (some ⟨g8, 1, none⟩)) (by go_simp) rfl
        · intro a W hE hd ho; have e72 : a.tmps[72]?.getD undef = .pointer (some ⟨g8, 1, none⟩) := hd 28 72 (by kernel_rfl) (by kernel_rfl); exact gs_same (v := .pointer (some ⟨g8, 1, none⟩)) (by go_simp) rfl
        · intro a W hE hd ho; have e73 : a.tmps[73]?.getD undef = .pointer (some ⟨g8, 1, none⟩) := hd 29 73 (by kernel_rfl) (by kernel_rfl); have c1 := (BY.out.below hE).cell 1; simp only [fxRow, List.getElem?_toArray, List.getElem?_cons_zero, List.getElem?_cons_succ] at c1; exact gs_same (v := .int .i64 Y.x) (by go_simp) rfl
        · intro a W hE hd ho; have e7 : a.tmps[7]?.getD undef = .pointer (some ⟨g7, 0, none⟩) := ho 7 (by kernel_rfl); exact gs_same (v := .pointer (some ⟨g7, 1, none⟩)) (by go_simp) rfl
        · intro a W hE hd ho; have e75 : a.tmps[75]?.getD undef = .pointer (some ⟨g7, 1, none⟩) := hd 31 75 (by kernel_rfl) (by kernel_rfl); exact gs_same (v := .pointer (some ⟨g7, 1, none⟩)) (by go_simp) rfl
        · intro a W hE hd ho; have e76 : a.tmps[76]?.getD undef = .pointer (some ⟨g7, 1, none⟩) := hd 32 76 (by kernel_rfl) (by kernel_rfl); have c1 := (BX.out.below hE).cell 1; simp only [fxRow, List.getElem?_toArray, List.getElem?_cons_zero, List.getElem?_cons_succ] at c1; exact gs_same (v := .int .i64 X.x) (by go_simp) rfl
        · intro a W hE hd ho; have e74 : a.tmps[74]?.getD undef = .int .i64 Y.x := hd 30 74 (by kernel_rfl) (by kernel_rfl); have e77 : a.tmps[77]?.getD undef = .int .i64 X.x := hd 33 77 (by kernel_rfl) (by kernel_rfl); exact gs_same (v := .int .i64 HX) (by go_simp) rfl
        · intro a W hE hd ho; have e8 : a.tmps[8]?.getD undef = .pointer (some ⟨g8, 0, none⟩) := ho 8 (by kernel_rfl); exact gs_same (v := .pointer (some ⟨g8, 1, none⟩)) (by go_simp) rfl
        · intro a W hE hd ho; have e79 : a.tmps[79]?.getD undef = .pointer (some ⟨g8, 1, none⟩) := hd 35 79 (by kernel_rfl) (by kernel_rfl); exact gs_same (v := .pointer (some ⟨g8, 2, none⟩)) (by go_simp) rfl
        · intro a W hE hd ho; have e80 : a.tmps[80]?.getD undef = .pointer (some ⟨g8, 2, none⟩) := hd 36 80 (by kernel_rfl) (by kernel_rfl); have c2 := (BY.out.below hE).cell 2; simp only [fxRow, List.getElem?_toArray, List.getElem?_cons_zero, List.getElem?_cons_succ] at c2; exact gs_same (v := .int .i64 Y.y) (by go_simp) rfl
        · intro a W hE hd ho; have e7 : a.tmps[7]?.getD undef = .pointer (some ⟨g7, 0, none⟩) := ho 7 (by kernel_rfl); exact gs_same (v := .pointer (some ⟨g7, 1, none⟩)) (by go_simp) rfl
        · intro a W hE hd ho; have e82 : a.tmps[82]?.getD undef = .pointer (some ⟨g7, 1, none⟩) := hd 38 82 (by kernel_rfl) (by kernel_rfl); exact gs_same (v := .pointer (some ⟨g7, 2, none⟩)) (by go_simp) rfl
        · intro a W hE hd ho; have e83 : a.tmps[83]?.getD undef = .pointer (some ⟨g7, 2, none⟩) := hd 39 83 (by kernel_rfl) (by kernel_rfl); have c2 := (BX.out.below hE).cell 2; simp only [fxRow, List.getElem?_toArray, List.getElem?_cons_zero, List.getElem?_cons_succ] at c2; exact gs_same (v := .int .i64 X.y) (by go_simp) rfl
        · intro a W hE hd ho; have e81 : a.tmps[81]?.getD undef = .int .i64 Y.y := hd 37 81 (by kernel_rfl) (by kernel_rfl); have e84 : a.tmps[84]?.getD undef = .int .i64 X.y := hd 40 84 (by kernel_rfl) (by kernel_rfl); exact gs_same (v := .int .i64 HY) (by go_simp) rfl
        · intro a W hE hd ho; have e78 : a.tmps[78]?.getD undef = .int .i64 HX := hd 34 78 (by kernel_rfl) (by kernel_rfl); have e85 : a.tmps[85]?.getD undef = .int .i64 HY := hd 41 85 (by kernel_rfl) (by kernel_rfl); exact gs_same (v := .agg #[.int .i64 HX, .int .i64 HY]) (by go_simp) rfl
        · intro a W hE hd ho; have e7 : a.tmps[7]?.getD undef = .pointer (some ⟨g7, 0, none⟩) := ho 7 (by kernel_rfl); exact gs_same (v := .pointer (some ⟨g7, 4, none⟩)) (by go_simp) rfl
        · intro a W hE hd ho; have e87 : a.tmps[87]?.getD undef = .pointer (some ⟨g7, 4, none⟩) := hd 43 87 (by kernel_rfl) (by kernel_rfl); have c4 := (BX.out.below hE).cell 4; simp only [fxRow, List.getElem?_toArray, List.getElem?_cons_zero, List.getElem?_cons_succ] at c4; exact gs_same (v := .int .i64 X.p) (by go_simp) rfl
        · intro a W hE hd ho; have e8 : a.tmps[8]?.getD undef = .pointer (some ⟨g8, 0, none⟩) := ho 8 (by kernel_rfl); exact gs_same (v := .pointer (some ⟨g8, 4, none⟩)) (by go_simp) rfl
        · intro a W hE hd ho; have e89 : a.tmps[89]?.getD undef = .pointer (some ⟨g8, 4, none⟩) := hd 45 89 (by kernel_rfl) (by kernel_rfl); have c4 := (BY.out.below hE).cell 4; simp only [fxRow, List.getElem?_toArray, List.getElem?_cons_zero, List.getElem?_cons_succ] at c4; exact gs_same (v := .int .i64 Y.p) (by go_simp) rfl
        · intro a W hE hd ho; have e9 : a.tmps[9]?.getD undef = .int .i64 PA := ho 9 (by kernel_rfl); exact gs_same (v := .int .i64 PA) (by go_simp) rfl
        · intro a W hE hd ho; have e10 : a.tmps[10]?.getD undef = .int .i64 WH := ho 10 (by kernel_rfl); exact gs_same (v := .int .i64 WH) (by go_simp) rfl
        · intro a W hE hd ho; have e88 : a.tmps[88]?.getD undef = .int .i64 X.p := hd 44 88 (by kernel_rfl) (by kernel_rfl); have e90 : a.tmps[90]?.getD undef = .int .i64 Y.p := hd 46 90 (by kernel_rfl) (by kernel_rfl); have e91 : a.tmps[91]?.getD undef = .int .i64 PA := hd 47 91 (by kernel_rfl) (by kernel_rfl); have e92 : a.tmps[92]?.getD undef = .int .i64 WH := hd 48 92 (by kernel_rfl) (by kernel_rfl); refine gs_call (f := 107) (args := #[.int .i64 X.p, .int .i64 Y.p, .int .i64 PA, .int .i64 WH]) (by go_simp) ?_; refine (Cp.out W).mono ?_; rintro e w' ⟨rfl, rfl⟩; exact ⟨_, rfl, Ext.refl _, rfl⟩
        · intro a W hE hd ho; have e71 : a.tmps[71]?.getD undef = .agg #[.int .i64 Sx, .int .i64 Sy, .int .i64 Sz] := hd 27 71 (by kernel_rfl) (by kernel_rfl); have e86 : a.tmps[86]?.getD undef = .agg #[.int .i64 HX, .int .i64 HY] := hd 42 86 (by kernel_rfl) (by kernel_rfl); have e93 : a.tmps[93]?.getD undef = .int .i64 Sp := hd 49 93 (by kernel_rfl) (by kernel_rfl); exact gs_same (v := .agg #[.int .i64 Sx, .int .i64 Sy, .int .i64 Sz, .int .i64 HX, .int .i64 HY, .int .i64 Sp]) (by go_simp) rfl
      intro v9 w4 hE hR; have y0 : v9 0 = .pointer (some ⟨g7, 1, none⟩) := hR 0 (by omega); have y1 : v9 1 = .pointer (some ⟨g7, 1, none⟩) := hR 1 (by omega); have y2 : v9 2 = .int .i64 X.x := hR 2 (by omega); have y3 : v9 3 = .pointer (some ⟨g8, 1, none⟩) := hR 3 (by omega); have y4 : v9 4 = .pointer (some ⟨g8, 1, none⟩) := hR 4 (by omega); have y5 : v9 5 = .int .i64 Y.x := hR 5 (by omega); have y6 : v9 6 = .int .i64 PA := hR 6 (by omega); have y7 : v9 7 = .int .i64 WH := hR 7 (by omega); have y8 : v9 8 = .int .i64 Sx := hR 8 (by omega); have y9 : v9 9 = .pointer (some ⟨g7, 1, none⟩) := hR 9 (by omega); have y10 : v9 10 = .pointer (some ⟨g7, 2, none⟩) := hR 10 (by omega); have y11 : v9 11 = .int .i64 X.y := hR 11 (by omega); have y12 : v9 12 = .pointer (some ⟨g8, 1, none⟩) := hR 12 (by omega); have y13 : v9 13 = .pointer (some ⟨g8, 2, none⟩) := hR 13 (by omega); have y14 : v9 14 = .int .i64 Y.y := hR 14 (by omega)
      have y15 : v9 15 = .int .i64 PA := hR 15 (by omega); have y16 : v9 16 = .int .i64 WH := hR 16 (by omega); have y17 : v9 17 = .int .i64 Sy := hR 17 (by omega); have y18 : v9 18 = .pointer (some ⟨g7, 1, none⟩) := hR 18 (by omega); have y19 : v9 19 = .pointer (some ⟨g7, 3, none⟩) := hR 19 (by omega); have y20 : v9 20 = .int .i64 X.z := hR 20 (by omega); have y21 : v9 21 = .pointer (some ⟨g8, 1, none⟩) := hR 21 (by omega); have y22 : v9 22 = .pointer (some ⟨g8, 3, none⟩) := hR 22 (by omega); have y23 : v9 23 = .int .i64 Y.z := hR 23 (by omega); have y24 : v9 24 = .int .i64 PA := hR 24 (by omega); have y25 : v9 25 = .int .i64 WH := hR 25 (by omega); have y26 : v9 26 = .int .i64 Sz := hR 26 (by omega); have y27 : v9 27 = .agg #[.int .i64 Sx, .int .i64 Sy, .int .i64 Sz] := hR 27 (by omega); have y28 : v9 28 = .pointer (some ⟨g8, 1, none⟩) := hR 28 (by omega); have y29 : v9 29 = .pointer (some ⟨g8, 1, none⟩) := hR 29 (by omega)
      have y30 : v9 30 = .int .i64 Y.x := hR 30 (by omega); have y31 : v9 31 = .pointer (some ⟨g7, 1, none⟩) := hR 31 (by omega); have y32 : v9 32 = .pointer (some ⟨g7, 1, none⟩) := hR 32 (by omega); have y33 : v9 33 = .int .i64 X.x := hR 33 (by omega); have y34 : v9 34 = .int .i64 HX := hR 34 (by omega); have y35 : v9 35 = .pointer (some ⟨g8, 1, none⟩) := hR 35 (by omega); have y36 : v9 36 = .pointer (some ⟨g8, 2, none⟩) := hR 36 (by omega); have y37 : v9 37 = .int .i64 Y.y := hR 37 (by omega); have y38 : v9 38 = .pointer (some ⟨g7, 1, none⟩) := hR 38 (by omega); have y39 : v9 39 = .pointer (some ⟨g7, 2, none⟩) := hR 39 (by omega); have y40 : v9 40 = .int .i64 X.y := hR 40 (by omega); have y41 : v9 41 = .int .i64 HY := hR 41 (by omega); have y42 : v9 42 = .agg #[.int .i64 HX, .int .i64 HY] := hR 42 (by omega); have y43 : v9 43 = .pointer (some ⟨g7, 4, none⟩) := hR 43 (by omega); have y44 : v9 44 = .int .i64 X.p := hR 44 (by omega)
      have y45 : v9 45 = .pointer (some ⟨g8, 4, none⟩) := hR 45 (by omega); have y46 : v9 46 = .int .i64 Y.p := hR 46 (by omega); have y47 : v9 47 = .int .i64 PA := hR 47 (by omega); have y48 : v9 48 = .int .i64 WH := hR 48 (by omega); have y49 : v9 49 = .int .i64 Sp := hR 49 (by omega); have y50 : v9 50 = .agg #[.int .i64 Sx, .int .i64 Sy, .int .i64 Sz, .int .i64 HX, .int .i64 HY, .int .i64 Sp] := hR 50 (by omega); simp only [List.range, List.range.loop, List.foldl_cons, List.foldl_nil, y0, y1, y2, y3, y4, y5, y6, y7, y8, y9, y10, y11, y12, y13, y14, y15, y16, y17, y18, y19, y20, y21, y22, y23, y24, y25, y26, y27, y28, y29, y30, y31, y32, y33, y34, y35, y36, y37, y38, y39, y40, y41, y42, y43, y44, y45, y46, y47, y48, y49, y50, List.drop_succ_cons, List.drop_zero]; simp only [dstAt, List.getElem?_toArray, List.getElem?_cons_zero, List.getElem?_cons_succ, Option.bind_some, Act.put, List.setIfInBounds_toArray, List.set_cons_zero, List.set_cons_succ]
      clear y0 y1 y2 y3 y4 y5 y6 y7 y8 y9 y10 y11 y12 y13 y14 y15 y16 y17 y18 y19 y20 y21 y22 y23 y24 y25 y26 y27 y28 y29 y30 y31 y32 y33 y34 y35 y36 y37 y38 y39 y40 y41 y42 y43 y44 y45 y46 y47 y48 y49 y50 hR; replace R := Lib.hid (R.out.below hE.below); replace HB := Lib.hid (HB.out.trans (hE.below.mono HB.out.size)); clear hE BX BY Cx Cy Cz Cp v1 v2
      go_wp2_with (refine wpList_store_row rfl 32 _ _ rfl g4 #[.int .i64 Sx, .int .i64 Sy, .int .i64 Sz, .int .i64 HX, .int .i64 HY, .int .i64 Sp] rfl rfl 32 _ R.out (by kernel_rfl) rfl (by simp [Value.oneCell']) ?_)
      have hlv := (R.out.setRow #[.int .i64 Sx, .int .i64 Sy, .int .i64 Sz, .int .i64 HX, .int .i64 HY, .int .i64 Sp]).lv Tryz.prog (T := 32) Tryz.underlying32 rfl (by kernel_rfl); refine bodyPost_ret (v := .agg #[.int .i64 Sx, .int .i64 Sy, .int .i64 Sz, .int .i64 HX, .int .i64 HY, .int .i64 Sp]) (by simp [results, Tryz.results42, asAddr, hlv]) rfl ?_; exact ⟨by rw [HS.out], HB.out.setRow' HG4.out _⟩
end Go.Proofs.YtmafmebcgmegeaaGreatDoor
