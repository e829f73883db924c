/- Texts Wd We of the proof. -/
import Derived.Test.YtmafmebcgmegeaaGreatDoorFz35
import Derived.Test.YtmafmebcgmegeaaGreatDoorFz36
namespace Go.Proofs.YtmafmebcgmegeaaGreatDoor
open Go.RowKit Go.Sort
set_option maxHeartbeats 400000 in
set_option maxRecDepth 100000 in
theorem refBetween_big (a b p v : Int) (w : World) (ha : 0 ≤ a ∧ a ≤ 100000000) (hb : 0 ≤ b ∧ b ≤ 100000000) (hp : 0 ≤ p ∧ p ≤ 100) (hv : 1 ≤ v ∧ v ≤ 100) (hpv : p ≤ v) :
    Calls Tryz.prog 107 #[.int .i64 a, .int .i64 b, .int .i64 p, .int .i64 v] w fun e w' => e = .returned (.int .i64 (Bell.betw a b p v)) ∧ w' = w := by
  have hm : ((b - a) * p).natAbs ≤ 100000000 * 100 := by
    rw [Int.natAbs_mul]; exact Nat.mul_le_mul (by omega) (by omega)
  have hB := Bell.betw_bounds (a := a) (b := b) (lo := 0) (hi := 100000000) (p := p) (w := v) (by omega) hp.1 hpv ha.1 hb.1 ha.2 hb.2; have HFL := Lib.hid (fun W => refFloor_gen ((b - a) * p) v W (by omega) (by omega)); obtain ⟨m, hmm⟩ : ∃ m, m = (b - a) * p := ⟨_, rfl⟩; obtain ⟨q, hq⟩ : ∃ q, q = m / v := ⟨_, rfl⟩; have e : Bell.betw a b p v = a + q := by unfold Bell.betw; rw [hq, hmm]
  rw [← hmm] at hm HFL; rw [← hq] at HFL; rw [e] at hB ⊢; have w1 : IntKind.i64.wrap (b - a) = b - a := IntWalk.i64_in _ (by omega); have w2 : IntKind.i64.wrap ((b - a) * p) = m := by rw [← hmm]; exact IntWalk.i64_in _ (by omega)
  have w3 : IntKind.i64.wrap (a + q) = a + q := IntWalk.i64_in _ (by omega); clear hB hm hmm hq e ha hb hp hv hpv
  go_enter Tryz.func107, Tryz.ntmps107
  go_wp2_with fail
  refine (HFL.out _).mono ?_; rintro e w' ⟨rfl, rfl⟩; go_wp2; go_ret; exact ⟨rfl, rfl⟩
theorem reachR_yes {l : List Int} {q x : Int} {k : Nat} (hx : x = l.getD k 0) (h : x ≤ q) : Bell.reachR l q (k + 1) = k := by
  rw [Bell.reachR, ← hx, if_pos h]
theorem reachR_no {l : List Int} {q x : Int} {k : Nat} (hx : x = l.getD k 0) (h : ¬ x ≤ q) : Bell.reachR l q (k + 1) = Bell.reachR l q k := by
  rw [Bell.reachR, ← hx, if_neg h]
theorem emisR_last {s : Bell.Sets} {r : Nat} {p : Int} (h : Bell.ePow s (s.length - 1) ≤ p) : Bell.emisR s r p = Bell.eAt s (s.length - 1) r := by
  unfold Bell.emisR; rw [if_pos h]
theorem emisR_hit {s : Bell.Sets} {r N : Nat} {p : Int} (h : ¬ Bell.ePow s (s.length - 1) ≤ p) (hN : Bell.nextOf s p = N) (h2 : N = 0 ∨ p = Bell.ePow s N) : Bell.emisR s r p = Bell.eAt s N r := by
  unfold Bell.emisR; rw [if_neg h, hN, if_pos h2]
theorem emisR_mid {s : Bell.Sets} {r N : Nat} {p : Int} (h : ¬ Bell.ePow s (s.length - 1) ≤ p) (hN : Bell.nextOf s p = N) (h2 : ¬ (N = 0 ∨ p = Bell.ePow s N)) : Bell.emisR s r p = Bell.betw (Bell.eAt s (N - 1) r) (Bell.eAt s N r) (p - Bell.ePow s (N - 1)) (Bell.ePow s N - Bell.ePow s (N - 1)) := by
  unfold Bell.emisR; rw [if_neg h, hN, if_neg h2]
set_option maxHeartbeats 4000000 in
set_option maxRecDepth 100000 in
theorem refEmission_any {cs : Array Value} {nm : ByteArray} {sh : List Int} {T : Bell.Ty} {sa : Option Addr} {sn sc qb qo qn qc gb go gn gc : Nat} (p q : Int) (w : World) (hT : TyAt w cs nm sh T sa sn sc qb qo qn qc gb go gn gc) (hG : GoodT sh T) (hp : 1 ≤ p ∧ p ≤ 100) :
    Calls Tryz.prog 28 #[.agg cs, .int .i64 p, .int .i64 q] w fun e w' => e = .returned (.int .i64 (Bell.emis T.sets (Bell.reachOf T.squares q) p)) ∧ Below w.heap.size w w' := by
  have HT := Lib.hid hT; have HG := Lib.hid hG; obtain ⟨p1, p2⟩ := hp; clear hT hG; have hrl : Bell.reachOf T.squares q < T.squares.length := Bell.reach_lt HG.out.ty.sq; have hm8 := HG.out.cnt.2; have hn6 : gn ≤ 6 := by have := HG.out.cnt.1.2; rw [HT.out.sets.1] at this; exact this
  have hn1 : 0 < gn := by have := HG.out.cnt.1.1; rw [HT.out.sets.1] at this; exact this
  have hrq := Bell.reachR_reach HG.out.sq (sq := q); have hlq : T.squares.length = qn := HT.out.squares.1; rw [hlq] at hrq hrl hm8; rw [← Bell.emisR_is HG.out.ty.sets]; obtain ⟨R, hR⟩ : ∃ R, R = Bell.reachOf T.squares q := ⟨_, rfl⟩; rw [← hR] at hrl hrq ⊢; clear hR; obtain ⟨V, hV⟩ : ∃ V, V = Bell.emisR T.sets R p := ⟨_, rfl⟩; rw [← hV]; have HV := Lib.hid hV; have HRQ := Lib.hid hrq; have HSL := Lib.hid HT.out.sets.1; have HL : Hid (∀ k, k < gn → ((T.sets.getD k (0, [])).2).length = qn) := fun k hk => by rw [← hlq]; exact HG.out.len (by rw [HT.out.sets.1]; exact hk)
  have HER : Hid (∀ k, k < gn → 0 ≤ Bell.eAt T.sets k R ∧ Bell.eAt T.sets k R ≤ 100000000) := fun k hk =>
    ⟨HG.out.ty.sets.lo k R (by rw [HT.out.sets.1]; exact hk) (by rw [hlq]; exact hrl), HG.out.ty.sets.hi k R (by rw [HT.out.sets.1]; exact hk) (by rw [hlq]; exact hrl)⟩
  have HUP : Hid (∀ i j, i < j → j < gn → Bell.ePow T.sets i < Bell.ePow T.sets j) := fun i j h1 h2 => HG.out.ty.sets.up i j h1 (by rw [HT.out.sets.1]; exact h2)
  obtain ⟨qb', qo', eq, HQ⟩ := HT.out.squares.2 hm8.1
  injection eq with eq
  injection eq with e1 e2 e3
  subst e1; subst e2; have HQ := Lib.hid HQ; clear hV hlq hrq e3
  go_enter Tryz.func28, Tryz.ntmps28
  go_upto_region 1 with fail
  obtain ⟨w1, hw1⟩ : ∃ W, W = (w.alloc (.cells cs 26)) := ⟨_, rfl⟩; rw [← hw1]; have B3 : Hid (Blk w1 (w.heap.size) 26 cs) := by show Blk _ _ _ _; rw [hw1]; exact Blk.new _ _ _
  have hb1 : Below w.heap.size w w1 := by rw [hw1]; exact ((Below.refl _ _).alloc (Nat.le_refl _) _)
  obtain ⟨g3, hg3⟩ : ∃ g, g = w.heap.size := ⟨_, rfl⟩; have HGw1 : Hid (g3 = w.heap.size) := hg3; rw [← hg3] at B3
  try rw [← hg3]
  clear hw1 hg3; have HB : Hid (Below w.heap.size w w1) := hb1; clear hb1; have c11 := (B3.out.cell 11).trans HT.out.c11; have c12 := (B3.out.cell 12).trans HT.out.c12; obtain ⟨hm1, hm8⟩ := hm8; go_wp2
  go_loopw [7, 8] (fun r i wr => ∃ k : Nat, k ≤ qn ∧ i = .int .i64 k ∧ r = .int .i64 (Bell.reachR T.squares q k : Nat) ∧ wr = w1) (fun _ i _ => qn - (intOf i).toNat)
  case atStart => exact ⟨0, Nat.zero_le _, rfl, rfl, rfl⟩
  case round =>
    obtain ⟨k, hk, rfl, rfl, rfl⟩ := hrel
    by_cases hlt : k < qn
    · have hx := HB.out.cell (p := ⟨qb, qo + k, none⟩) (World.block_lt_of_cell? _ _ (HQ.out k hlt)); rw [HQ.out k hlt] at hx; obtain ⟨x, hxx⟩ : ∃ x, x = T.squares.getD k 0 := ⟨_, rfl⟩; rw [← hxx] at hx; have HX := Lib.hid hxx; clear hxx
      by_cases hxq : x ≤ q
      · have e := Lib.hid (reachR_yes (q := q) HX.out hxq); go_wp2; go_roundw
        case rel => exact ⟨k + 1, by omega, by go_num, by rw [e.out], by first | rfl | trivial⟩
        case measure => simp [intOf]; omega
      · have e := Lib.hid (reachR_no (q := q) HX.out hxq); go_wp2; go_roundw
        case rel => exact ⟨k + 1, by omega, by go_num, by rw [e.out], by first | rfl | trivial⟩
        case measure => simp [intOf]; omega
    · obtain rfl : k = qn := by omega
      rw [HRQ.out]; clear hk; obtain ⟨gl, rfl⟩ : ∃ k, gn = k + 1 := ⟨gn - 1, by omega⟩; have HS1 := Lib.hid (HT.out.sets.keep HB.out); obtain ⟨eb, eo, en, ec, s1, s2, s3, s4⟩ := HS1.out.at (k := gl) (r := R) (by omega) (HL.out gl (by omega)) hrl; have hmax : ((k : Nat) : Int) ≤ 8 := by omega
      go_upto_region 8 with fail
      obtain ⟨X, hX⟩ : ∃ x, x = Bell.ePow T.sets gl := ⟨_, rfl⟩; obtain ⟨E, hE⟩ : ∃ x, x = Bell.eAt T.sets gl R := ⟨_, rfl⟩; rw [← hX] at s1 ⊢; rw [← hE] at s4; have HX := Lib.hid hX; have HE := Lib.hid hE; clear hX hE; have HEN := Lib.hid s3; clear s1 s2 s3 c12; obtain ⟨w2, hw2⟩ : ∃ W, W = (wr.alloc (.cells #[.int .i64 X, .slice (some ⟨eb, eo, none⟩) k ec] 145)) := ⟨_, rfl⟩; rw [← hw2]; have B9 : Hid (Blk w2 (wr.heap.size) 145 #[.int .i64 X, .slice (some ⟨eb, eo, none⟩) k ec]) := by show Blk _ _ _ _; rw [hw2]; exact Blk.new _ _ _
      have hb2 : Below wr.heap.size wr w2 := by rw [hw2]; exact ((Below.refl _ _).alloc (Nat.le_refl _) _)
      obtain ⟨g9, hg9⟩ : ∃ g, g = wr.heap.size := ⟨_, rfl⟩; have HGw2 : Hid (g9 = wr.heap.size) := hg9; rw [← hg9] at B9
      try rw [← hg9]
      clear hw2 hg9; have e4 := hb2.cell (p := ⟨eb, eo + R, none⟩) (World.block_lt_of_cell? _ _ s4); rw [s4] at e4; clear s4; replace HB := Lib.hid (HB.out.trans (hb2.mono HB.out.size)); replace B3 := Lib.hid (B3.out.below hb2); clear hb2; have z0 := B9.out.cell 0; have z1 := B9.out.cell 1; simp only [List.getElem?_toArray, List.getElem?_cons_zero, List.getElem?_cons_succ] at z0 z1; have hln : T.sets.length - 1 = gl := by rw [HSL.out, Nat.add_sub_cancel]
      by_cases hge : X ≤ p
      · have hv : Hid (V = E) := by
          show _ = _
          rw [HV.out, emisR_last (by rw [hln, ← HX.out]; exact hge), hln, ← HE.out]
        clear hln; go_wp2; go_ret; exact ⟨ret_int hv.out.symm, HB.out⟩
      have hlast : ¬ Bell.ePow T.sets (T.sets.length - 1) ≤ p := by rw [hln, ← HX.out]; exact hge
      have HLA := Lib.hid hlast; have c12 := (B3.out.cell 12).trans HT.out.c12; clear hln hlast e4; go_wp2; clear z0 z1 c12
      go_loopw [10, 11] (fun i _ wx => ∃ j : Nat, j ≤ gl + 1 ∧ i = .int .i64 j ∧ Hid (∀ n, n < j → Bell.ePow T.sets n < p) ∧ Hid (Below w2.heap.size w2 wx)) (fun i _ _ => gl + 1 - (intOf i).toNat)
      case atStart => exact ⟨0, Nat.zero_le _, rfl, (fun n hn => by omega), Below.refl _ _⟩
      case round =>
        obtain ⟨j, hj, rfl, hlow, hbx⟩ := hrel; have B3x := Lib.hid (B3.out.below hbx.out); have HBx := Lib.hid (HB.out.trans (hbx.out.mono HB.out.size)); have c12 := (B3x.out.cell 12).trans HT.out.c12
        by_cases hjl : j < gl + 1
        · have HSx := Lib.hid (HT.out.sets.keep HBx.out); obtain ⟨fb, fo, fn, fc, r1, r2, r3, r4⟩ := HSx.out.at (k := j) (r := R) hjl (HL.out j hjl) hrl; obtain ⟨Y, hY⟩ : ∃ x, x = Bell.ePow T.sets j := ⟨_, rfl⟩; obtain ⟨D, hD⟩ : ∃ x, x = Bell.eAt T.sets j R := ⟨_, rfl⟩; rw [← hY] at r1; rw [← hD] at r4; have HY := Lib.hid hY; have HD := Lib.hid hD; have hfn : R < fn := by omega
          have HRF := Lib.hid hfn; clear hY hD r3
          go_upto_region 14 with fail
          clear r1 r2; obtain ⟨w3, hw3⟩ : ∃ W, W = (wr.alloc (.cells #[.int .i64 Y, .slice (some ⟨fb, fo, none⟩) fn fc] 145)) := ⟨_, rfl⟩; rw [← hw3]; have B11 : Hid (Blk w3 (wr.heap.size) 145 #[.int .i64 Y, .slice (some ⟨fb, fo, none⟩) fn fc]) := by show Blk _ _ _ _; rw [hw3]; exact Blk.new _ _ _
          have hb3 : Below wr.heap.size wr w3 := by rw [hw3]; exact ((Below.refl _ _).alloc (Nat.le_refl _) _)
          obtain ⟨g11, hg11⟩ : ∃ g, g = wr.heap.size := ⟨_, rfl⟩; have HGw3 : Hid (g11 = wr.heap.size) := hg11; rw [← hg11] at B11
          try rw [← hg11]
          clear hw3 hg11; have f4 := hb3.cell (p := ⟨fb, fo + R, none⟩) (World.block_lt_of_cell? _ _ r4); rw [r4] at f4; have F4 := Lib.hid f4; have HW3 := Lib.hid (hbx.out.trans (hb3.mono hbx.out.size)); replace HBx := Lib.hid (HBx.out.trans (hb3.mono HBx.out.size)); replace B3x := Lib.hid (B3x.out.below hb3); clear hb3; have y0 := B11.out.cell 0; have y1 := B11.out.cell 1; simp only [List.getElem?_toArray, List.getElem?_cons_zero, List.getElem?_cons_succ] at y0 y1; clear r4 c12
          by_cases hgt : Y < p
          · have hq : Hid (∀ n, n < j + 1 → Bell.ePow T.sets n < p) := fun n hn => by
              by_cases hnj : n = j
              · subst hnj; rw [← HY.out]; exact hgt
              · exact hlow.out n (by omega)
            clear f4 y1; go_wp2; go_roundw
            case rel => exact ⟨j + 1, by omega, by go_num, hq.out, HW3.out⟩
            case measure => simp [intOf]; omega
          have hN := next_at_of (s := T.sets) (p := p) (k := j) (by rw [HSL.out]; exact hjl) hlow.out (by rw [← HY.out]; omega); rcases Nat.eq_zero_or_pos j with h0 | h0
          · subst h0
            have hv : Hid (V = D) := by
              show _ = _
              rw [HV.out, emisR_hit (Int.not_le.2 HLA.out) hN (.inl rfl), ← HD.out]
            clear hN; go_wp2; go_ret; exact ⟨ret_int hv.out.symm, HBx.out⟩
          by_cases hpy : p = Y
          · have hv : Hid (V = D) := by
              show _ = _
              rw [HV.out, emisR_hit (Int.not_le.2 HLA.out) hN (.inr (by rw [← HY.out]; exact hpy)), ← HD.out]
            clear hN hgt; go_wp2; go_ret; exact ⟨ret_int hv.out.symm, HBx.out⟩
          obtain ⟨i, rfl⟩ : ∃ i, j = i + 1 := ⟨j - 1, by omega⟩; have HS3 := Lib.hid (HT.out.sets.keep HBx.out); obtain ⟨db, dO, dn, dc, r1, r2, r3, r4⟩ := HS3.out.at (k := i) (r := R) (by omega) (HL.out i (by omega)) hrl
          have hmid : ¬ (i + 1 = 0 ∨ p = Bell.ePow T.sets (i + 1)) := by
            intro h; rcases h with h | h
            · omega
            · exact hpy (h.trans HY.out.symm)
          have hv1 := emisR_mid (r := R) (Int.not_le.2 HLA.out) hN hmid; rw [Nat.add_sub_cancel, ← HY.out, ← HD.out, ← HV.out] at hv1; have q1 := HG.out.pow (k := i) (by rw [HSL.out]; omega); have q2 := HG.out.pow (k := i + 1) (by rw [HSL.out]; omega); have q4 := hlow.out i (by omega); have q5 := HER.out i (by omega); have q6 := HER.out (i + 1) (by omega); have q7 := HUP.out i (i + 1) (by omega) hjl; rw [← HY.out] at q2 q7; rw [← HD.out] at q6; obtain ⟨X2, hX2⟩ : ∃ x, x = Bell.ePow T.sets i := ⟨_, rfl⟩; obtain ⟨E2, hE2⟩ : ∃ x, x = Bell.eAt T.sets i R := ⟨_, rfl⟩; rw [← hX2] at r1 q1 q4 q7 hv1; rw [← hE2] at r4 q5 hv1; have HV1 := Lib.hid hv1; have hdn : R < dn := by omega
          have HDN := Lib.hid hdn; have c12 := (B3x.out.cell 12).trans HT.out.c12; have hi1 : ((i + 1 : Nat) : Int) - 1 = (i : Int) := by omega
          have hz1 : ((((i : Nat) : Int) + 1 == 0) || (p == Y)) = false := by simp [hpy]; omega
          have hz2 : (p == Y) = false := by simp [hpy]
          have hz3 : (((i : Nat) : Int) + 1 == 0) = false := by simp; omega
          clear hN hv1 hX2 hE2 r3
          go_upto_region 18 with fail
          obtain ⟨w4, hw4⟩ : ∃ W, W = (w3.alloc (.cells #[.int .i64 X2, .slice (some ⟨db, dO, none⟩) dn dc] 145)) := ⟨_, rfl⟩; rw [← hw4]; have B12 : Hid (Blk w4 (w3.heap.size) 145 #[.int .i64 X2, .slice (some ⟨db, dO, none⟩) dn dc]) := by show Blk _ _ _ _; rw [hw4]; exact Blk.new _ _ _
          have hb4 : Below w3.heap.size w3 w4 := by rw [hw4]; exact ((Below.refl _ _).alloc (Nat.le_refl _) _)
          obtain ⟨g12, hg12⟩ : ∃ g, g = w3.heap.size := ⟨_, rfl⟩; have HGw4 : Hid (g12 = w3.heap.size) := hg12; rw [← hg12] at B12
          try rw [← hg12]
          clear hw4 hg12; have h4 := hb4.cell (p := ⟨db, dO + R, none⟩) (World.block_lt_of_cell? _ _ r4); rw [r4] at h4; have f5 := hb4.cell (p := ⟨fb, fo + R, none⟩) (World.block_lt_of_cell? _ _ F4.out); rw [F4.out] at f5; replace HBx := Lib.hid (HBx.out.trans (hb4.mono HBx.out.size)); replace B11 := Lib.hid (B11.out.below hb4); clear hb4; have y0 := B11.out.cell 0; have y1 := B11.out.cell 1; have x0 := B12.out.cell 0; have x1 := B12.out.cell 1; simp only [List.getElem?_toArray, List.getElem?_cons_zero, List.getElem?_cons_succ] at y0 y1 x0 x1; clear r1 r2 r4 c12 f4 F4; obtain ⟨q11, q12⟩ := q1; obtain ⟨q21, q22⟩ := q2; have HC4 := Lib.hid (fun W => refBetween_big E2 D (p - X2) (Y - X2) W q5 q6 (by omega) (by omega) (by omega)); clear q5 q6; refine wp_region_still_tail 19 (by kernel_rfl) (by kernel_rfl) ?_; simp only [List.take_succ_cons, List.take_zero, List.drop_succ_cons, List.drop_zero]
          change wpStill _ _ (World.drew _) _ _ _
          repeat still_step
          refine wpStill_nil ?_
          change wpList _ _ _ _ _ (World.drew _)
          go_wp2_with fail
          refine (HC4.out _).mono ?_; rintro e w6 ⟨rfl, rfl⟩; go_wp2; go_ret; exact ⟨ret_int HV1.out.symm, HBx.out.drew⟩
        · exfalso
          have h := hlow.out gl (by omega); rw [← HX.out] at h
          omega
end Go.Proofs.YtmafmebcgmegeaaGreatDoor

namespace Go.Proofs.YtmafmebcgmegeaaGreatDoor
open Go.RowKit Go.Sort
set_option maxHeartbeats 4000000 in
set_option maxRecDepth 100000 in
theorem refHeard_any {cs : Array Value} {nm : ByteArray} {sh : List Int} {T : Bell.Ty} {sa : Option Addr} {sn sc qb qo qn qc gb go gn gc : Nat} (s : Bell.St) (r : Bell.Pl) (w : World) (hT : TyAt w cs nm sh T sa sn sc qb qo qn qc gb go gn gc) (hG : GoodT sh T) (hs : Bell.GoodSt s) (hr : GoodPl r) :
    Calls Tryz.prog 30 #[.agg cs, .agg (stV s), .agg (plV r)] w fun e w' => e = .returned (.int .i64 (Bell.heardOf T s r)) ∧ Below w.heap.size w w' := by
  have HT := Lib.hid hT; have HG := Lib.hid hG; have IT : Hid ((Tryz.prog.info? 26).map (·.size) = some cs.size) := by show _ = _; rw [hT.cells]; kernel_rfl
  obtain ⟨x0, x1, y0, y1, z0, z1, hx0, hx1, hy0, hy1, p0, p1⟩ := hs; obtain ⟨⟨rx0, rx1⟩, ⟨ry0, ry1⟩, ⟨rz0, rz1⟩⟩ := hr; clear hT hG; obtain ⟨V, hV⟩ : ∃ V, V = Bell.heardOf T s r := ⟨_, rfl⟩; rw [← hV]; have HV := Lib.hid hV; clear hV; unfold stV plV; obtain ⟨a, ha⟩ : ∃ a, a = r.x - s.x := ⟨_, rfl⟩; obtain ⟨b, hb⟩ : ∃ b, b = r.y - s.y := ⟨_, rfl⟩; obtain ⟨c, hc⟩ : ∃ c, c = r.z - s.z := ⟨_, rfl⟩; have a1 : -200000 ≤ a ∧ a ≤ 200000 := by omega
  have b1 : -200000 ≤ b ∧ b ≤ 200000 := by omega
  have c1 : -20000 ≤ c ∧ c ≤ 20000 := by omega
  have sa1 := sq_in a1.1 a1.2; have sb1 := sq_in b1.1 b1.2; have sc1 := sq_in c1.1 c1.2; have hSc := Lib.hid (fun W => refSector_any s.hx s.hy a b W (by omega) (by omega) (by omega) (by omega)); have hEm := Lib.hid (fun W (hb : Below w.heap.size w W) => refEmission_any s.p (a * a + b * b + c * c) W (HT.out.keep hb) HG.out ⟨p0, p1⟩); obtain ⟨E, hE⟩ : ∃ E, E = Bell.emis T.sets (Bell.reachOf T.squares (a * a + b * b + c * c)) s.p := ⟨_, rfl⟩; obtain ⟨S, hS⟩ : ∃ S, S = Bell.sectorOf s.hx s.hy a b := ⟨_, rfl⟩; have hS8 : S < 8 := by rw [hS]; exact Bell.sector_lt _ _ _ _
  have hEr := Bell.emis_range HG.out.ty.sets (r := Bell.reachOf T.squares (a * a + b * b + c * c)) (Bell.reach_lt HG.out.ty.sq) s.p; obtain ⟨D, hD⟩ : ∃ D, D = T.direct.getD S 0 := ⟨_, rfl⟩; have hDr := HG.out.ty.dir S hS8
  have hv : Hid (V = if a * a + b * b ≤ 4 * c * c then E * D / 1000 else E * D * T.side / 1000000) := by
    show _ = _
    rw [HV.out, hE, hD, hS, ha, hb, hc]; unfold Bell.heardOf Bell.steepOf Bell.energyOf Bell.sqOf; rfl
  rw [← hE] at hEm hEr; rw [← hS] at hSc; rw [← hD] at hDr; have HDir := Lib.hid (HT.out.dir hS8); rw [← hD] at HDir; have hED := mul_in (a := E) (b := D) (m := 100000000) (n := 2000) (by omega) (by omega) (by omega) (by omega); have hED0 : 0 ≤ E * D := Int.mul_nonneg hEr.1 hDr.1; obtain ⟨X, hX⟩ : ∃ X, X = E * D := ⟨_, rfl⟩; have v7 : IntKind.i64.wrap (E * D) = X := by rw [hX]; exact IntWalk.i64_in _ (by omega)
  rw [← hX] at hED hED0 hv; have hsd0 := HG.out.ty.side0; have hsd1 := HG.out.ty.side1; have hXS := mul_in (a := X) (b := T.side) (m := 200000000000) (n := 1000) (by omega) (by omega) (by omega) (by omega); have hXS0 : 0 ≤ X * T.side := Int.mul_nonneg hED0 hsd0; obtain ⟨sd, hsd⟩ : ∃ x, x = T.side := ⟨_, rfl⟩; have HSide := Lib.hid HT.out.c10; rw [← hsd] at HSide hXS hXS0 hsd0 hsd1 hv; obtain ⟨X1, hX1⟩ : ∃ x, x = X * sd := ⟨_, rfl⟩; have v8 : Hid (IntKind.i64.wrap (X * sd) = X1) := by show _ = _; rw [hX1]; exact IntWalk.i64_in _ (by omega)
  rw [← hX1] at hXS hXS0 hv; obtain ⟨A2, hA2⟩ : ∃ x, x = a * a := ⟨_, rfl⟩; obtain ⟨B2, hB2⟩ : ∃ x, x = b * b := ⟨_, rfl⟩; obtain ⟨C2, hC2⟩ : ∃ x, x = c * c := ⟨_, rfl⟩; have e4 : 4 * c * c = 4 * C2 := by rw [Int.mul_assoc, hC2]
  have v1 : IntKind.i64.wrap (a * a) = A2 := by rw [hA2]; exact IntWalk.i64_in _ (by omega)
  have v2 : IntKind.i64.wrap (b * b) = B2 := by rw [hB2]; exact IntWalk.i64_in _ (by omega)
  have v3 : IntKind.i64.wrap (c * c) = C2 := by rw [hC2]; exact IntWalk.i64_in _ (by omega)
  rw [← hA2] at sa1; rw [← hB2] at sb1; rw [← hC2] at sc1; rw [← hA2, ← hB2] at hv hEm; rw [← hC2] at hEm; rw [e4] at hv; obtain ⟨H, hH⟩ : ∃ x, x = A2 + B2 := ⟨_, rfl⟩; obtain ⟨Q, hQ⟩ : ∃ x, x = H + C2 := ⟨_, rfl⟩; obtain ⟨C4, hC4⟩ : ∃ x, x = 4 * C2 := ⟨_, rfl⟩; obtain ⟨c4, hc4⟩ : ∃ x, x = 4 * c := ⟨_, rfl⟩; have v4 : IntKind.i64.wrap (A2 + B2) = H := by rw [hH]; exact IntWalk.i64_in _ (by omega)
  have v5 : IntKind.i64.wrap (H + C2) = Q := by rw [hQ]; exact IntWalk.i64_in _ (by omega)
  have v9 : Hid (IntKind.i64.wrap (4 * c) = c4) := by show _ = _; rw [hc4]; exact IntWalk.i64_in _ (by omega)
  have v10 : Hid (IntKind.i64.wrap (c4 * c) = C4) := by show _ = _; rw [hc4, e4, ← hC4]; exact IntWalk.i64_in _ (by omega)
  have v11 : IntKind.i64.wrap (r.x - s.x) = a := by rw [ha]; exact IntWalk.i64_in _ (by omega)
  have v12 : IntKind.i64.wrap (r.y - s.y) = b := by rw [hb]; exact IntWalk.i64_in _ (by omega)
  have v13 : IntKind.i64.wrap (r.z - s.z) = c := by rw [hc]; exact IntWalk.i64_in _ (by omega)
  rw [← hH] at hv hEm; rw [← hC4] at hv; rw [← hQ] at hEm; have HBD : Hid ((0 ≤ X ∧ X ≤ 200000000000) ∧ (0 ≤ X1 ∧ X1 ≤ 200000000000000)) := by show _ ∧ _; omega
  have V1 := Lib.hid v1; have V2 := Lib.hid v2; have V3 := Lib.hid v3; have V4 := Lib.hid v4; have V5 := Lib.hid v5; have V7 := Lib.hid v7; clear ha hb hc hE hS hD hX hsd HV hED hXS hX1 hA2 hB2 hC2 hH hQ hC4 hc4 e4 a1 b1 c1 sa1 sb1 sc1 hED0 hXS0 hsd0 hsd1 hEr hDr x0 x1 y0 y1 z0 z1 hx0 hx1 hy0 hy1 p0 p1 rx0 rx1 ry0 ry1 rz0 rz1 v1 v2 v3 v4 v5 v7
  go_enter Tryz.func30, Tryz.ntmps30
  go_upto_region 1 with fail
  obtain ⟨w1, hw1⟩ : ∃ W, W = (((w.alloc (.cells cs 26)).alloc (.cells #[.int .i64 s.x, .int .i64 s.y, .int .i64 s.z, .int .i64 s.hx, .int .i64 s.hy, .int .i64 s.p] 32)).alloc (.cells #[.int .i64 r.x, .int .i64 r.y, .int .i64 r.z] 28)) := ⟨_, rfl⟩; rw [← hw1]; have T3 : Hid (Blk w1 (w.heap.size) 26 cs) := by show Blk _ _ _ _; rw [hw1]; exact ((Blk.new _ _ _).alloc _).alloc _
  have S4 : Hid (Blk w1 (w.heap.size + 1) 32 #[.int .i64 s.x, .int .i64 s.y, .int .i64 s.z, .int .i64 s.hx, .int .i64 s.hy, .int .i64 s.p]) := by show Blk _ _ _ _; rw [hw1]; exact (Blk.at_size _ _ (by simp)).alloc _
  have R5 : Hid (Blk w1 (w.heap.size + 1 + 1) 28 #[.int .i64 r.x, .int .i64 r.y, .int .i64 r.z]) := by show Blk _ _ _ _; rw [hw1]; exact Blk.at_size _ _ (by simp)
  have hb1 : Below w.heap.size w w1 := by rw [hw1]; exact ((((Below.refl _ _).alloc (Nat.le_refl _) _).alloc (by simp) _).alloc (by simp; omega) _)
  obtain ⟨g3, hg3⟩ : ∃ g, g = w.heap.size := ⟨_, rfl⟩; obtain ⟨g4, hg4⟩ : ∃ g, g = w.heap.size + 1 := ⟨_, rfl⟩; obtain ⟨g5, hg5⟩ : ∃ g, g = w.heap.size + 1 + 1 := ⟨_, rfl⟩; have HGw1 : Hid (g3 = w.heap.size ∧ g4 = w.heap.size + 1 ∧ g5 = w.heap.size + 1 + 1) := ⟨hg3, hg4, hg5⟩; rw [← hg5] at R5
  try rw [← hg5]
  rw [← hg4] at S4
  try rw [← hg4]
  rw [← hg3] at T3
  try rw [← hg3]
  clear hw1 hg3 hg4 hg5; have HB : Hid (Below w.heap.size w w1) := hb1; clear hb1; have r0 := R5.out.cell 0; have r1 := R5.out.cell 1; have r2 := R5.out.cell 2; have s0 := S4.out.cell 0; have s1 := S4.out.cell 1; have s2 := S4.out.cell 2; simp only [List.getElem?_toArray, List.getElem?_cons_zero, List.getElem?_cons_succ] at r0 r1 r2 s0 s1 s2
  go_upto_region 1 with fail
  go_big_quiet (fail)
  obtain ⟨w2, hw2⟩ : ∃ W, W = w1.drewN nq := ⟨_, rfl⟩; rw [← hw2]; have hb2 : Below w1.heap.size w1 w2 := by rw [hw2]; exact below_drewN' (Below.refl _ _) _
  replace HB := Lib.hid (HB.out.trans (hb2.mono HB.out.size)); replace T3 := Lib.hid (T3.out.below hb2); replace S4 := Lib.hid (S4.out.below hb2); clear hb2; clear hw2 r0 r1 r2 s0 s1 s2 v11 v12 v13 R5; have v1 := V1.out; have v2 := V2.out; have v3 := V3.out; have v4 := V4.out; have v5 := V5.out; have v7 := V7.out; have bw : ∀ d os, Below w2.heap.size w2 (grow (redrawn w2 d) os) := fun d os => below_regrown w2 d os
  have lT := fun d os => (T3.out.below (bw d os)).lv Tryz.prog (T := 26) Tryz.underlying26 rfl IT.out
  have s3 := fun d os => cell_regrown (S4.out.cell 3) d os
  have s4 := fun d os => cell_regrown (S4.out.cell 4) d os
  have s5 := fun d os => cell_regrown (S4.out.cell 5) d os
  have td := fun d os => cell_regrown ((T3.out.cell (2 + S)).trans HDir.out) d os
  have ce := fun d os => Calls.regrown_of (hEm.out (grow (redrawn w2 d) os) (HB.out.trans ((bw d os).mono HB.out.size)))
  have cc := fun d os => Calls.regrown_of (hSc.out (grow (redrawn w2 d) os))
  have hS8i : (S : Int) < 8 := by omega
  go_upto_region 2 with fail
  refine wp_region_quiet_below (by kernel_rfl) (by kernel_rfl) ?_; refine quiet_load _ _ rfl (by rfl) _ _ rfl lT ?_
  iterate 13 (quiet_step (fail))
  quiet_step (exact ce _ _)
  iterate 5 (quiet_step (fail))
  quiet_step (exact cc _ _)
  repeat (quiet_step (fail))
  refine wpQuiet_nil ?_; intro w4 hw'; obtain ⟨⟨dq, osq⟩, hw''⟩ := hw'; have hb4 := bw dq osq; rw [← hw''] at hb4; replace HB := Lib.hid (HB.out.trans (hb4.mono HB.out.size)); replace T3 := Lib.hid (T3.out.below hb4); clear hb4; have t10 := (T3.out.cell 10).trans HSide.out; clear hw'' lT s3 s4 s5 td ce cc bw S4 hSc hEm HDir V1 V2 V3 V4 V5 V7 v5 v7; have v9 := v9.out; have v10 := v10.out; have v8 := v8.out; obtain ⟨⟨q1, q2⟩, q3, q4⟩ := HBD.out
  by_cases hst : H ≤ C4
  · rw [if_pos hst] at hv; go_wp2; go_ret; exact ⟨ret_int hv.out.symm, HB.out⟩
  · rw [if_neg hst] at hv; go_wp2; go_ret; exact ⟨ret_int hv.out.symm, HB.out⟩
end Go.Proofs.YtmafmebcgmegeaaGreatDoor
