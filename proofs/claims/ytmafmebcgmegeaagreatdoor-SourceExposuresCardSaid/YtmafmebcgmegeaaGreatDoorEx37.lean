/- Texts Wm Wc Ql Qn Qp of the proof. -/
import Derived.Test.YtmafmebcgmegeaaGreatDoorEx36
import Derived.Test.YtmafmebcgmegeaaGreatDoorEx35
import Derived.BigQuiet
import Derived.Test.YtmafmebcgmegeaaGreatDoorEx22
import Derived.Test.YtmafmebcgmegeaaGreatDoorEx17
namespace Go.Proofs.YtmafmebcgmegeaaGreatDoor
open Go.RowKit Go.Sort
set_option maxHeartbeats 1000000 in
set_option maxRecDepth 100000 in
theorem refTicks_any (f t : Int) (w : World) :
    Calls Tryz.prog 58 #[.agg #[.int .i64 f, .int .i64 t]] w fun e w' => e = .returned (.int .i64 (ticksE f t)) ∧ Below w.heap.size w w' := by
  obtain ⟨Z, hZ⟩ : ∃ z, z = ticksE f t := ⟨_, rfl⟩
  rw [← hZ]
  by_cases h1 : f < 0
  · have hr : Z = 14 := by rw [hZ]; unfold ticksE; rw [if_pos h1]
    subst hr
    clear hZ
    go_enter Tryz.func58, Tryz.ntmps58
    go_upto_region 1 with fail
    obtain ⟨w1, hw1⟩ : ∃ W, W = (w.alloc (.cells #[.int .i64 f, .int .i64 t] 93)) := ⟨_, rfl⟩
    rw [← hw1]
    have B1 : Hid (Blk w1 (w.heap.size) 93 #[.int .i64 f, .int .i64 t]) := by show Blk _ _ _ _; rw [hw1]; exact Blk.new _ _ _
    have hb1 : Below w.heap.size w w1 := by rw [hw1]; exact ((Below.refl _ _).alloc (Nat.le_refl _) _)
    obtain ⟨g1, hg1⟩ : ∃ g, g = w.heap.size := ⟨_, rfl⟩
    have HGw1 : Hid (g1 = w.heap.size) := hg1
    rw [← hg1] at B1
    try rw [← hg1]
    clear hw1 hg1
    have AA := B1.out
    have ac0 := AA.cell 0; have af0 := AA.frozen 0; have ac1 := AA.cell 1; have af1 := AA.frozen 1
    simp only [List.getElem?_toArray, List.getElem?_cons_zero, List.getElem?_cons_succ] at ac0 ac1
    clear AA
    go_wp2_with fail
    refine (refWhen_as (b := true) (x := 14) (a := 14) _ rfl).mono ?_
    rintro e w2 ⟨rfl, rfl⟩
    go_wp2
    go_ret
    exact ⟨rfl, hb1⟩
  by_cases h2 : t < f
  · have hr : Z = 14 := by rw [hZ]; unfold ticksE; rw [if_neg h1, if_pos h2]
    subst hr
    clear hZ
    go_enter Tryz.func58, Tryz.ntmps58
    go_upto_region 1 with fail
    obtain ⟨w1, hw1⟩ : ∃ W, W = (w.alloc (.cells #[.int .i64 f, .int .i64 t] 93)) := ⟨_, rfl⟩
    rw [← hw1]
    have B1 : Hid (Blk w1 (w.heap.size) 93 #[.int .i64 f, .int .i64 t]) := by show Blk _ _ _ _; rw [hw1]; exact Blk.new _ _ _
    have hb1 : Below w.heap.size w w1 := by rw [hw1]; exact ((Below.refl _ _).alloc (Nat.le_refl _) _)
    obtain ⟨g1, hg1⟩ : ∃ g, g = w.heap.size := ⟨_, rfl⟩
    have HGw1 : Hid (g1 = w.heap.size) := hg1
    rw [← hg1] at B1
    try rw [← hg1]
    clear hw1 hg1
    have AA := B1.out
    have ac0 := AA.cell 0; have af0 := AA.frozen 0; have ac1 := AA.cell 1; have af1 := AA.frozen 1
    simp only [List.getElem?_toArray, List.getElem?_cons_zero, List.getElem?_cons_succ] at ac0 ac1
    clear AA
    go_wp2_with fail
    refine (refWhen_as (b := true) (x := 14) (a := 14) _ rfl).mono ?_
    rintro e w2 ⟨rfl, rfl⟩
    go_wp2
    go_ret
    exact ⟨rfl, hb1⟩
  by_cases h3 : 100000000 < t
  · have hr : Z = 14 := by rw [hZ]; unfold ticksE; rw [if_neg h1, if_neg h2, if_pos h3]
    subst hr
    clear hZ
    go_enter Tryz.func58, Tryz.ntmps58
    go_upto_region 1 with fail
    obtain ⟨w1, hw1⟩ : ∃ W, W = (w.alloc (.cells #[.int .i64 f, .int .i64 t] 93)) := ⟨_, rfl⟩
    rw [← hw1]
    have B1 : Hid (Blk w1 (w.heap.size) 93 #[.int .i64 f, .int .i64 t]) := by show Blk _ _ _ _; rw [hw1]; exact Blk.new _ _ _
    have hb1 : Below w.heap.size w w1 := by rw [hw1]; exact ((Below.refl _ _).alloc (Nat.le_refl _) _)
    obtain ⟨g1, hg1⟩ : ∃ g, g = w.heap.size := ⟨_, rfl⟩
    have HGw1 : Hid (g1 = w.heap.size) := hg1
    rw [← hg1] at B1
    try rw [← hg1]
    clear hw1 hg1
    have AA := B1.out
    have ac0 := AA.cell 0; have af0 := AA.frozen 0; have ac1 := AA.cell 1; have af1 := AA.frozen 1
    simp only [List.getElem?_toArray, List.getElem?_cons_zero, List.getElem?_cons_succ] at ac0 ac1
    clear AA
    go_wp2_with fail
    refine (refWhen_as (b := true) (x := 14) (a := 14) _ rfl).mono ?_
    rintro e w2 ⟨rfl, rfl⟩
    go_wp2
    go_ret
    exact ⟨rfl, hb1⟩
  · have hr : Z = 0 := by rw [hZ]; unfold ticksE; rw [if_neg h1, if_neg h2, if_neg h3]
    subst hr
    clear hZ
    go_enter Tryz.func58, Tryz.ntmps58
    go_upto_region 1 with fail
    obtain ⟨w1, hw1⟩ : ∃ W, W = (w.alloc (.cells #[.int .i64 f, .int .i64 t] 93)) := ⟨_, rfl⟩
    rw [← hw1]
    have B1 : Hid (Blk w1 (w.heap.size) 93 #[.int .i64 f, .int .i64 t]) := by show Blk _ _ _ _; rw [hw1]; exact Blk.new _ _ _
    have hb1 : Below w.heap.size w w1 := by rw [hw1]; exact ((Below.refl _ _).alloc (Nat.le_refl _) _)
    obtain ⟨g1, hg1⟩ : ∃ g, g = w.heap.size := ⟨_, rfl⟩
    have HGw1 : Hid (g1 = w.heap.size) := hg1
    rw [← hg1] at B1
    try rw [← hg1]
    clear hw1 hg1
    have AA := B1.out
    have ac0 := AA.cell 0; have af0 := AA.frozen 0; have ac1 := AA.cell 1; have af1 := AA.frozen 1
    simp only [List.getElem?_toArray, List.getElem?_cons_zero, List.getElem?_cons_succ] at ac0 ac1
    clear AA
    go_wp2_with fail
    refine (refWhen_as (b := false) (x := 14) (a := 0) _ rfl).mono ?_
    rintro e w2 ⟨rfl, rfl⟩
    go_wp2
    go_ret
    exact ⟨rfl, hb1⟩
end Go.Proofs.YtmafmebcgmegeaaGreatDoor

namespace Go.Proofs.YtmafmebcgmegeaaGreatDoor
open Go.RowKit Go.Sort
theorem turn_stop {k : Nat} {u v : Int} {n : Nat} (h : u > 0 ∧ v ≥ 0) : Bell.turnR (k + 1) u v n = (u, v, n) := by
  rw [Bell.turnR, if_pos h]
theorem turn_go {k : Nat} {u v : Int} {n : Nat} (h : ¬ (u > 0 ∧ v ≥ 0)) : Bell.turnR (k + 1) u v n = Bell.turnR k v (-u) (n + 2) := by
  rw [Bell.turnR, if_neg h]
theorem sector_end {u v p q : Int} {n : Nat} (h0 : ¬ (u = 0 ∧ v = 0)) (h : Bell.turnR 4 u v 0 = (p, q, n)) : (p ≤ q → Bell.secOf u v = n + 1) ∧ (¬ p ≤ q → Bell.secOf u v = n) := by
  rw [← Bell.sectorR_is]
  unfold Bell.sectorR
  rw [if_neg h0, h]
  exact ⟨fun k => if_pos k, fun k => if_neg k⟩
set_option maxHeartbeats 4000000 in
set_option maxRecDepth 100000 in
theorem refSector_any (hx hy x y : Int) (w : World) (h1 : -1000000 ≤ hx ∧ hx ≤ 1000000) (h2 : -1000000 ≤ hy ∧ hy ≤ 1000000) (h3 : -1000000 ≤ x ∧ x ≤ 1000000) (h4 : -1000000 ≤ y ∧ y ≤ 1000000) :
    Calls Tryz.prog 29 #[.agg #[.int .i64 hx, .int .i64 hy], .agg #[.int .i64 x, .int .i64 y]] w fun e w' => e = .returned (.int .i64 (Bell.sectorOf hx hy x y : Nat)) ∧ Below w.heap.size w w' := by
  obtain ⟨a1, a2⟩ := mul_in h1.1 h1.2 h3.1 h3.2
  obtain ⟨b1, b2⟩ := mul_in h2.1 h2.2 h4.1 h4.2
  obtain ⟨c1, c2⟩ := mul_in h1.1 h1.2 h4.1 h4.2
  obtain ⟨d1, d2⟩ := mul_in h2.1 h2.2 h3.1 h3.2
  rw [Bell.sector_is]
  obtain ⟨m1, hm1⟩ : ∃ m, m = hx * x := ⟨_, rfl⟩
  obtain ⟨m2, hm2⟩ : ∃ m, m = hy * y := ⟨_, rfl⟩
  obtain ⟨m3, hm3⟩ : ∃ m, m = hx * y := ⟨_, rfl⟩
  obtain ⟨m4, hm4⟩ : ∃ m, m = hy * x := ⟨_, rfl⟩
  rw [← hm1] at a1 a2
  rw [← hm2] at b1 b2
  rw [← hm3] at c1 c2
  rw [← hm4] at d1 d2
  rw [← hm1, ← hm2, ← hm3, ← hm4]
  obtain ⟨u, hu⟩ : ∃ u, u = m1 + m2 := ⟨_, rfl⟩
  obtain ⟨v, hv⟩ : ∃ v, v = m3 - m4 := ⟨_, rfl⟩
  have u1 : -2000000000000 ≤ u ∧ u ≤ 2000000000000 := by omega
  have v1 : -2000000000000 ≤ v ∧ v ≤ 2000000000000 := by omega
  have w1 : IntKind.i64.wrap (hx * x) = m1 := by rw [hm1]; exact IntWalk.i64_in _ (by omega)
  have w2 : IntKind.i64.wrap (hy * y) = m2 := by rw [hm2]; exact IntWalk.i64_in _ (by omega)
  have w3 : IntKind.i64.wrap (hx * y) = m3 := by rw [hm3]; exact IntWalk.i64_in _ (by omega)
  have w4 : IntKind.i64.wrap (hy * x) = m4 := by rw [hm4]; exact IntWalk.i64_in _ (by omega)
  have w5 : IntKind.i64.wrap (m1 + m2) = u := by rw [hu]; exact IntWalk.i64_in _ (by omega)
  have w6 : IntKind.i64.wrap (m3 - m4) = v := by rw [hv]; exact IntWalk.i64_in _ (by omega)
  rw [← hu, ← hv]
  obtain ⟨S, hS⟩ : ∃ S, S = Bell.secOf u v := ⟨_, rfl⟩
  rw [← hS]
  have HS := Lib.hid hS
  have HU := Lib.hid u1
  have HV := Lib.hid v1
  clear hS h1 h2 h3 h4 a1 a2 b1 b2 c1 c2 d1 d2 hm1 hm2 hm3 hm4 hu hv u1 v1
  go_enter Tryz.func29, Tryz.ntmps29
  go_upto_region 1 with fail
  obtain ⟨wn, hwn⟩ : ∃ W, W = ((w.alloc (.cells #[.int .i64 hx, .int .i64 hy] 30)).alloc (.cells #[.int .i64 x, .int .i64 y] 30)) := ⟨_, rfl⟩
  rw [← hwn]
  have B2 : Hid (Blk wn (w.heap.size) 30 #[.int .i64 hx, .int .i64 hy]) := by show Blk _ _ _ _; rw [hwn]; exact (Blk.new _ _ _).alloc _
  have B3 : Hid (Blk wn (w.heap.size + 1) 30 #[.int .i64 x, .int .i64 y]) := by show Blk _ _ _ _; rw [hwn]; exact Blk.at_size _ _ (by simp)
  have hb1 : Below w.heap.size w wn := by rw [hwn]; exact (((Below.refl _ _).alloc (Nat.le_refl _) _).alloc (by simp) _)
  obtain ⟨g2, hg2⟩ : ∃ g, g = w.heap.size := ⟨_, rfl⟩
  obtain ⟨g3, hg3⟩ : ∃ g, g = w.heap.size + 1 := ⟨_, rfl⟩
  have HGwn : Hid (g2 = w.heap.size ∧ g3 = w.heap.size + 1) := ⟨hg2, hg3⟩
  rw [← hg3] at B3
  try rw [← hg3]
  rw [← hg2] at B2
  try rw [← hg2]
  clear hwn hg2 hg3
  have HB : Hid (Below w.heap.size w wn) := hb1
  clear hb1
  have AA := B2.out
  have BB := B3.out
  have ac0 := AA.cell 0; have af0 := AA.frozen 0; have ac1 := AA.cell 1; have af1 := AA.frozen 1
  simp only [List.getElem?_toArray, List.getElem?_cons_zero, List.getElem?_cons_succ] at ac0 ac1
  clear AA
  have bc0 := BB.cell 0; have bf0 := BB.frozen 0; have bc1 := BB.cell 1; have bf1 := BB.frozen 1
  simp only [List.getElem?_toArray, List.getElem?_cons_zero, List.getElem?_cons_succ] at bc0 bc1
  clear BB
  go_upto_region 1 with fail
  go_big_quiet (fail)
  clear w1 w2 w3 w4 w5 w6
  obtain ⟨w9, hw9⟩ : ∃ W, W = wn.drewN nq := ⟨_, rfl⟩
  rw [← hw9]
  have hb9 : Below wn.heap.size wn w9 := by rw [hw9]; exact below_drewN' (Below.refl _ _) _
  replace HB := Lib.hid (HB.out.trans (hb9.mono HB.out.size))
  clear hb9
  clear hw9 B2 B3
  by_cases hz : u = 0 ∧ v = 0
  · obtain ⟨rfl, rfl⟩ := hz
    have hs : S = 0 := by rw [HS.out]; rfl
    subst hs
    go_wp2
    go_ret
    exact ⟨rfl, HB.out⟩
  have HN := Lib.hid hz
  by_cases hu0 : u = 0
  case pos =>
    have hv0 : ¬ v = 0 := fun h => hz ⟨hu0, h⟩
    clear hz
    subst hu0
    go_wp2
    go_loopw [5, 6, 7, 8] (fun a b n i wr => ∃ (p q : Int) (k : Nat), k ≤ 4 ∧ a = .int .i64 p ∧ b = .int .i64 q ∧ n = .int .i64 ((2 * k : Nat) : Int) ∧ i = .int .i64 k ∧ Hid ((-2000000000000 ≤ p ∧ p ≤ 2000000000000) ∧ (-2000000000000 ≤ q ∧ q ≤ 2000000000000) ∧ Bell.turnR 4 0 v 0 = Bell.turnR (4 - k) p q (2 * k)) ∧ wr = w9) (fun _ _ _ i _ => 4 - (intOf i).toNat)
    case atStart => exact ⟨0, v, 0, by omega, rfl, rfl, rfl, rfl, ⟨HU.out, HV.out, rfl⟩, rfl⟩
    case round =>
      obtain ⟨p, q, k, hk, rfl, rfl, rfl, rfl, hr, rfl⟩ := hrel
      obtain ⟨⟨p1, p2⟩, ⟨q1, q2⟩, ht⟩ := hr.out
      clear hr
      by_cases hlt : k < 4
      · have hkk : 4 - k = (4 - (k + 1)) + 1 := by omega
        by_cases hst : p > 0 ∧ q ≥ 0
        · rw [hkk, turn_stop hst] at ht
          have he := sector_end (fun h => hv0 h.2) ht
          rw [← HS.out] at he
          have HE := Lib.hid he
          clear ht he hkk
          obtain ⟨s1, s2⟩ := hst
          by_cases hpq : p ≤ q
          · obtain rfl := HE.out.1 hpq
            clear HE HS
            go_wp2
            go_ret
            exact ⟨ret_int (by omega), HB.out⟩
          · obtain rfl := HE.out.2 hpq
            clear HE HS
            go_wp2
            go_ret
            exact ⟨rfl, HB.out⟩
        · rw [hkk, turn_go hst] at ht
          have HT := Lib.hid ht
          clear ht hkk
          by_cases hp0 : p > 0
          · have hq0 : ¬ q ≥ 0 := fun h => hst ⟨hp0, h⟩
            clear hst
            go_wp2
            go_roundw
            case rel => exact ⟨q, -p, k + 1, by omega, by go_num, by go_num, by go_num, by go_num, ⟨⟨q1, q2⟩, ⟨by omega, by omega⟩, HT.out⟩, by first | rfl | trivial⟩
            case measure => simp [intOf]; omega
          · clear hst
            go_wp2
            go_roundw
            case rel => exact ⟨q, -p, k + 1, by omega, by go_num, by go_num, by go_num, by go_num, ⟨⟨q1, q2⟩, ⟨by omega, by omega⟩, HT.out⟩, by first | rfl | trivial⟩
            case measure => simp [intOf]; omega
      · obtain rfl : k = 4 := by omega
        have he := sector_end (fun h => hv0 h.2) ht
        rw [← HS.out] at he
        have HE := Lib.hid he
        clear ht he
        by_cases hpq : p ≤ q
        · obtain rfl := HE.out.1 hpq
          clear HE HS
          go_wp2
          go_ret
          exact ⟨ret_int (by omega), HB.out⟩
        · obtain rfl := HE.out.2 hpq
          clear HE HS
          go_wp2
          go_ret
          exact ⟨rfl, HB.out⟩
  clear hz
  go_wp2
  go_loopw [5, 6, 7, 8] (fun a b n i wr => ∃ (p q : Int) (k : Nat), k ≤ 4 ∧ a = .int .i64 p ∧ b = .int .i64 q ∧ n = .int .i64 ((2 * k : Nat) : Int) ∧ i = .int .i64 k ∧ Hid ((-2000000000000 ≤ p ∧ p ≤ 2000000000000) ∧ (-2000000000000 ≤ q ∧ q ≤ 2000000000000) ∧ Bell.turnR 4 u v 0 = Bell.turnR (4 - k) p q (2 * k)) ∧ wr = w9) (fun _ _ _ i _ => 4 - (intOf i).toNat)
  case atStart => exact ⟨u, v, 0, by omega, rfl, rfl, rfl, rfl, ⟨HU.out, HV.out, rfl⟩, rfl⟩
  case round =>
    obtain ⟨p, q, k, hk, rfl, rfl, rfl, rfl, hr, rfl⟩ := hrel
    obtain ⟨⟨p1, p2⟩, ⟨q1, q2⟩, ht⟩ := hr.out
    clear hr
    by_cases hlt : k < 4
    · have hkk : 4 - k = (4 - (k + 1)) + 1 := by omega
      by_cases hst : p > 0 ∧ q ≥ 0
      · rw [hkk, turn_stop hst] at ht
        have he := sector_end (fun h => hu0 h.1) ht
        rw [← HS.out] at he
        have HE := Lib.hid he
        clear ht he hkk
        obtain ⟨s1, s2⟩ := hst
        by_cases hpq : p ≤ q
        · obtain rfl := HE.out.1 hpq
          clear HE HS
          go_wp2
          go_ret
          exact ⟨ret_int (by omega), HB.out⟩
        · obtain rfl := HE.out.2 hpq
          clear HE HS
          go_wp2
          go_ret
          exact ⟨rfl, HB.out⟩
      · rw [hkk, turn_go hst] at ht
        have HT := Lib.hid ht
        clear ht hkk
        by_cases hp0 : p > 0
        · have hq0 : ¬ q ≥ 0 := fun h => hst ⟨hp0, h⟩
          clear hst
          go_wp2
          go_roundw
          case rel => exact ⟨q, -p, k + 1, by omega, by go_num, by go_num, by go_num, by go_num, ⟨⟨q1, q2⟩, ⟨by omega, by omega⟩, HT.out⟩, by first | rfl | trivial⟩
          case measure => simp [intOf]; omega
        · clear hst
          go_wp2
          go_roundw
          case rel => exact ⟨q, -p, k + 1, by omega, by go_num, by go_num, by go_num, by go_num, ⟨⟨q1, q2⟩, ⟨by omega, by omega⟩, HT.out⟩, by first | rfl | trivial⟩
          case measure => simp [intOf]; omega
    · obtain rfl : k = 4 := by omega
      have he := sector_end (fun h => hu0 h.1) ht
      rw [← HS.out] at he
      have HE := Lib.hid he
      clear ht he
      by_cases hpq : p ≤ q
      · obtain rfl := HE.out.1 hpq
        clear HE HS
        go_wp2
        go_ret
        exact ⟨ret_int (by omega), HB.out⟩
      · obtain rfl := HE.out.2 hpq
        clear HE HS
        go_wp2
        go_ret
        exact ⟨rfl, HB.out⟩
end Go.Proofs.YtmafmebcgmegeaaGreatDoor

namespace Go.Proofs.YtmafmebcgmegeaaGreatDoor
open Go.RowKit Go.Sort
theorem firstE4_and (a b c d : Int) : firstE [a, b, c, d] = andE (firstE [a, b, c]) d := by
  unfold andE
  by_cases h1 : a = 0 <;> by_cases h2 : b = 0 <;> by_cases h3 : c = 0 <;> by_cases h4 : d = 0 <;> simp_all [firstE]
theorem length_first {n : Nat} {k a b : Int} (ha : a = if decide ((n : Int) < 2) then 16 else 0) (hb : b = if decide (k < (n : Int)) then 5 else 0) : firstE [a, b] = lengthE n k := by
  unfold lengthE atMostE
  by_cases h1 : n < 2
  · rw [if_pos h1]
    have : a = 16 := by rw [ha, if_pos (by simpa using (by omega : (n : Int) < 2))]
    rw [this]; rfl
  · rw [if_neg h1]
    have : a = 0 := by rw [ha, if_neg (by simp; omega)]
    rw [this, hb]
    by_cases h2 : k < (n : Int)
    · rw [if_pos (by simpa using h2), if_pos h2]; rfl
    · rw [if_neg (by simpa using h2), if_neg h2]; rfl
end Go.Proofs.YtmafmebcgmegeaaGreatDoor

namespace Go.Proofs.YtmafmebcgmegeaaGreatDoor
open Go.RowKit Go.Sort
set_option maxHeartbeats 4000000 in
set_option maxRecDepth 100000 in
theorem refTrack_full (A : Option Addr) (n c : Nat) (l : List Bell.Fx) (w : World) (hl : TrAt w A n l) (hn : n ≤ 140737488351232) :
    Calls Tryz.prog 39 #[.slice A n c] w fun e w' => e = .returned (.int .i64 (trackE l)) ∧ Below w.heap.size w w' := by
  have HL := Lib.hid hl
  obtain ⟨V, hV⟩ : ∃ V, V = trackE l := ⟨_, rfl⟩
  have HV : Hid (V = andE (lengthE n 16) (andE (firstR (fxAtE l) n) (lastE l))) := by show _ = _; rw [hV, ← hl.1]; rfl
  rw [← hV]
  clear hl hV
  go_enter Tryz.func39, Tryz.ntmps39
  go_wp2_with fail
  refine (refWhen_let _ _ _).mono ?_
  rintro e w1 ⟨a, rfl, ha, rfl⟩
  go_wp2_with fail
  refine (refWhen_let _ _ _).mono ?_
  rintro e w2 ⟨b, rfl, hb, rfl⟩
  go_wp2_with fail
  refine (refFirst2 _ _ a b _ (by go_simp) (by go_simp)).mono ?_
  have hab := length_first ha.out hb.out
  obtain ⟨E, hE⟩ : ∃ E, E = lengthE n 16 := ⟨_, rfl⟩
  rw [hab, ← hE]
  rw [← hE] at HV
  have KE := Lib.hid hE
  clear hE hab ha hb
  rintro e w4 ⟨rfl, rfl⟩
  obtain ⟨w5, hw5⟩ : ∃ W, W = w2.alloc (.cells #[.int .i64 a, .int .i64 b] 3) := ⟨_, rfl⟩
  rw [← hw5]
  have hbl : Below w2.heap.size w2 w5 := by rw [hw5]; exact (Below.refl _ _).alloc (Nat.le_refl _) _
  have H5 := Lib.hid (HL.out.keep hbl)
  have HB := Lib.hid hbl
  clear hw5 hbl HL
  by_cases he : E = 0
  case neg =>
    have h1 : (E != 0) = true := by simp [he]
    have hr : Hid (V = E) := by show _ = _; rw [HV.out, andE_n he]
    go_wp2
    go_ret
    exact ⟨ret_int hr.out.symm, HB.out⟩
  have h1 : (E != 0) = false := by simp [he]
  have n1 : 2 ≤ n := by have := lengthE_zero2 (k := 16) (KE.out.symm.trans he); omega
  replace HV : Hid (V = andE (firstR (fxAtE l) n) (lastE l)) := by show _ = _; rw [HV.out, andE_0 he]
  obtain ⟨bb, off, rfl, hc⟩ := H5.out.2 (by omega)
  clear hc KE he
  go_wp2
  go_loopw [2, 4, 5] (fun _ k _ wr => ∃ j : Nat, j ≤ n ∧ k = .int .i64 j ∧ Hid (∀ i, i < j → fxAtE l i = 0) ∧ Hid (Below w5.heap.size w5 wr)) (fun _ k _ _ => n - (intOf k).toNat)
  case atStart => exact ⟨0, Nat.zero_le _, rfl, (fun i hi => by omega), Below.refl _ _⟩
  case round =>
    clear h1
    obtain ⟨j, hj, rfl, hz, hb⟩ := hrel
    by_cases hlt : j < n
    · obtain ⟨b', o', e', hcc⟩ := (H5.out.keep hb.out).2 (by omega)
      cases e'
      obtain ⟨h0, h1, h2, h3, h4⟩ := hcc.2 j hlt
      have HJ : Hid (fxAtE l j = andE (fixE (Bell.fxAt l j).t (Bell.fxAt l j).x (Bell.fxAt l j).y (Bell.fxAt l j).z (Bell.fxAt l j).p) (if 0 < j ∧ (Bell.fxAt l j).t ≤ (Bell.fxAt l (j - 1)).t then 11 else 0)) := rfl
      have HQQ := Lib.hid (fun p (hp : p < n) => hcc.2 p hp)
      obtain ⟨tt, htt⟩ : ∃ x, x = (Bell.fxAt l j).t := ⟨_, rfl⟩
      obtain ⟨x, hx⟩ : ∃ x, x = (Bell.fxAt l j).x := ⟨_, rfl⟩
      obtain ⟨y, hy⟩ : ∃ y, y = (Bell.fxAt l j).y := ⟨_, rfl⟩
      obtain ⟨z, hz0⟩ : ∃ z, z = (Bell.fxAt l j).z := ⟨_, rfl⟩
      obtain ⟨pw, hpw⟩ : ∃ z, z = (Bell.fxAt l j).p := ⟨_, rfl⟩
      rw [← htt] at h0 HJ
      rw [← hx] at h1 HJ
      rw [← hy] at h2 HJ
      rw [← hz0] at h3 HJ
      rw [← hpw] at h4 HJ
      have a0 := fun d os => cell_regrown h0 d os
      have a1 := fun d os => cell_regrown h1 d os
      have a2 := fun d os => cell_regrown h2 d os
      have a3 := fun d os => cell_regrown h3 d os
      have a4 := fun d os => cell_regrown h4 d os
      have ct := fun d os => Calls.regrown_of (Calls.grow_same (refTick_st tt (grow (redrawn wr d) os)))
      have cp := fun d os => Calls.regrown_of (Calls.grow_same (refPower_st pw (grow (redrawn wr d) os)))
      have cl := fun d os => Calls.regrown_of (refPlace_any x y z (grow (redrawn wr d) os))
      clear htt hx hy hz0 hpw h0 h1 h2 h3 h4 hcc
      have pl : (j : Int) < (n : Int) := by omega
      rcases Nat.eq_zero_or_pos j with rfl | hp
      · simp only [Nat.zero_mul, Nat.add_zero] at a0 a1 a2 a3 a4
        obtain ⟨f, hf⟩ : ∃ f : Int, f = if false = true then 11 else 0 := ⟨_, rfl⟩
        have HFf := Lib.hid hf
        have cw := fun d os => Calls.regrown_of (Calls.grow_same (refWhen_as (grow (redrawn wr d) os) hf))
        have HEQ : Hid (firstE [withinE tt 0 100000000, placeE x y z, withinE pw 1 100, f] = fxAtE l 0) := by
          show _ = _
          rw [show firstE [withinE tt 0 100000000, placeE x y z, withinE pw 1 100, f] = andE (fixE tt x y z pw) f from firstE4_and _ _ _ _, HJ.out, HFf.out]
          simp
        clear hf HJ HFf HQQ
        go_wp2
        refine wp_region_below_tail 36 (by kernel_rfl) (by kernel_rfl) ?_
        simp only [List.take_succ_cons, List.take_zero, List.drop_succ_cons, List.drop_zero]
        iterate 5 (go_big_quiet_step (fail))
        go_big_quiet_step (exact ct _ _)
        clear ct
        iterate 5 (go_big_quiet_step (fail))
        go_big_quiet_step (exact cl _ _)
        clear cl a1 a2 a3
        iterate 5 (go_big_quiet_step (fail))
        go_big_quiet_step (exact cp _ _)
        clear cp a4
        iterate 17 (go_big_quiet_step (fail))
        go_big_quiet_step (exact cw _ _)
        clear cw
        refine wpQuiet_nil ?_
        intro w6 hw'
        obtain ⟨⟨dq, osq⟩, hw''⟩ := hw'
        have HB6 := Lib.hid (hb.out.trans ((below_regrown wr dq osq).mono hb.out.size))
        rw [← hw''] at HB6
        clear hw''
        go_wp2_with fail
        refine (refFirst4 _ _ (withinE tt 0 100000000) (placeE x y z) (withinE pw 1 100) f _ (by go_simp) (by go_simp) (by go_simp) (by go_simp)).mono ?_
        rw [HEQ.out]
        obtain ⟨F, hF⟩ : ∃ F, F = fxAtE l 0 := ⟨_, rfl⟩
        rw [← hF]
        have HF := Lib.hid hF
        clear hF
        rintro e w7 ⟨rfl, rfl⟩
        obtain ⟨w8, hw8⟩ : ∃ W, W = w6.alloc (.cells #[.int .i64 (withinE tt 0 100000000), .int .i64 (placeE x y z), .int .i64 (withinE pw 1 100), .int .i64 f] 3) := ⟨_, rfl⟩
        rw [← hw8]
        have HB8 : Hid (Below w5.heap.size w5 w8) := by show Below _ _ _; rw [hw8]; exact HB6.out.alloc HB6.out.size _
        clear hw8 HB6
        by_cases hf : F = 0
        · have h1 : (F != 0) = false := by simp [hf]
          have HF0 := Lib.hid hf
          clear hf
          go_wp2
          go_roundw
          case rel =>
            refine ⟨0 + 1, by omega, by go_num, fun i hi => ?_, HB8⟩
            by_cases hij : i < 0
            · exact hz.out i hij
            · obtain rfl : i = 0 := by omega
              exact HF.out.symm.trans HF0.out
          case measure => simp [intOf]; omega
        · have h1 : (F != 0) = true := by simp [hf]
          have hr : Hid (V = F) := by show _ = _; rw [HV.out, firstR_hit hlt hz.out (by rw [← HF.out]; exact hf), andE_n (by rw [← HF.out]; exact hf), HF.out]
          go_wp2
          go_ret
          exact ⟨ret_int hr.out.symm, HB.out.trans (HB8.out.mono HB.out.size)⟩
      · have g0 : decide (0 < j) = true := decide_eq_true hp
        have g1 : decide ((0 : Int) < (j : Int)) = true := decide_eq_true (by omega)
        have g2 : decide ((j : Int) = 0) = false := decide_eq_false (by omega)
        have g3 : ((j : Int) == 0) = false := by simp; omega
        obtain ⟨p, hpj⟩ : ∃ p, p + 1 = j := ⟨j - 1, by omega⟩
        obtain ⟨k0, _⟩ := HQQ.out p (by omega)
        have hp1 : j - 1 = p := by omega
        rw [hp1] at HJ
        obtain ⟨u, hu⟩ : ∃ u, u = (Bell.fxAt l p).t := ⟨_, rfl⟩
        rw [← hu] at k0 HJ
        have ap := fun d os => cell_regrown k0 d os
        have hmx : ∀ ts t W, (Builtin.max_ ts t #[.int .i64 0, .int .i64 ((j : Int) - 1)]).run Tryz.prog W = .ok (.int .i64 (p : Int)) W := fun ts t W => by
          rw [run_max2']; congr 2; omega
        have pl2 : (p : Int) < (n : Int) := by omega
        have wj : IntKind.i64.wrap ((j : Int) - 1) = (j : Int) - 1 := IntWalk.i64_in _ (by omega)
        obtain ⟨B, hB⟩ : ∃ B, decide (tt ≤ u) = B := ⟨_, rfl⟩
        obtain ⟨f, hf⟩ : ∃ f : Int, f = if B then 11 else 0 := ⟨_, rfl⟩
        have cw := fun d os => Calls.regrown_of (Calls.grow_same (refWhen_as (grow (redrawn wr d) os) hf))
        have HEQ : Hid (firstE [withinE tt 0 100000000, placeE x y z, withinE pw 1 100, f] = fxAtE l j) := by
          show _ = _
          rw [show firstE [withinE tt 0 100000000, placeE x y z, withinE pw 1 100, f] = andE (fixE tt x y z pw) f from firstE4_and _ _ _ _, HJ.out, hf, ← hB]
          congr 1
          by_cases h1 : tt ≤ u <;> simp [h1, hp]
        clear hu hf HJ HQQ k0 hpj hp1
        go_wp2
        refine wp_region_below_tail 36 (by kernel_rfl) (by kernel_rfl) ?_
        simp only [List.take_succ_cons, List.take_zero, List.drop_succ_cons, List.drop_zero]
        iterate 5 (go_big_quiet_step (fail))
        go_big_quiet_step (exact ct _ _)
        clear ct
        iterate 5 (go_big_quiet_step (fail))
        go_big_quiet_step (exact cl _ _)
        clear cl a1 a2 a3
        iterate 5 (go_big_quiet_step (fail))
        go_big_quiet_step (exact cp _ _)
        clear cp a4
        iterate 17 (go_big_quiet_step (fail))
        go_big_quiet_step (exact cw _ _)
        clear cw
        refine wpQuiet_nil ?_
        intro w6 hw'
        obtain ⟨⟨dq, osq⟩, hw''⟩ := hw'
        have HB6 := Lib.hid (hb.out.trans ((below_regrown wr dq osq).mono hb.out.size))
        rw [← hw''] at HB6
        clear hw''
        go_wp2_with fail
        refine (refFirst4 _ _ (withinE tt 0 100000000) (placeE x y z) (withinE pw 1 100) f _ (by go_simp) (by go_simp) (by go_simp) (by go_simp)).mono ?_
        rw [HEQ.out]
        obtain ⟨F, hF⟩ : ∃ F, F = fxAtE l j := ⟨_, rfl⟩
        rw [← hF]
        have HF := Lib.hid hF
        clear hF
        rintro e w7 ⟨rfl, rfl⟩
        obtain ⟨w8, hw8⟩ : ∃ W, W = w6.alloc (.cells #[.int .i64 (withinE tt 0 100000000), .int .i64 (placeE x y z), .int .i64 (withinE pw 1 100), .int .i64 f] 3) := ⟨_, rfl⟩
        rw [← hw8]
        have HB8 : Hid (Below w5.heap.size w5 w8) := by show Below _ _ _; rw [hw8]; exact HB6.out.alloc HB6.out.size _
        clear hw8 HB6
        by_cases hf : F = 0
        · have h1 : (F != 0) = false := by simp [hf]
          have HF0 := Lib.hid hf
          clear hf
          go_wp2
          go_roundw
          case rel =>
            refine ⟨j + 1, by omega, by go_num, fun i hi => ?_, HB8⟩
            by_cases hij : i < j
            · exact hz.out i hij
            · obtain rfl : i = j := by omega
              exact HF.out.symm.trans HF0.out
          case measure => simp [intOf]; omega
        · have h1 : (F != 0) = true := by simp [hf]
          have hr : Hid (V = F) := by show _ = _; rw [HV.out, firstR_hit hlt hz.out (by rw [← HF.out]; exact hf), andE_n (by rw [← HF.out]; exact hf), HF.out]
          go_wp2
          go_ret
          exact ⟨ret_int hr.out.symm, HB.out.trans (HB8.out.mono HB.out.size)⟩
    · obtain rfl : j = n := by omega
      replace HV : Hid (V = lastE l) := by show _ = _; rw [HV.out, firstR_miss hz.out, andE_0 rfl]
      obtain ⟨m, hm⟩ : ∃ m, m + 1 = j := ⟨j - 1, by omega⟩
      have HLN : Hid (l.length = j) := H5.out.1
      obtain ⟨b', o', e', hcc⟩ := (H5.out.keep hb.out).2 (by omega)
      cases e'
      have hA := (hcc.2 0 (by omega)).1
      have hZ := (hcc.2 m (by omega)).1
      have ga := goodFx_fix (andE_zero (hz.out 0 (by omega))).1
      have gz := goodFx_fix (andE_zero (hz.out m (by omega))).1
      have gA := ga.t0
      have gA2 := ga.t1
      have gZ := gz.t0
      have gZ2 := gz.t1
      have HVL : Hid (V = if 1000 < (Bell.fxAt l m).t - (Bell.fxAt l 0).t then 14 else 0) := by show _ = _; rw [HV.out]; unfold lastE; rw [HLN.out, show j - 1 = m by omega]
      obtain ⟨P, hP⟩ : ∃ P, P = Bell.fxAt l 0 := ⟨_, rfl⟩
      obtain ⟨Z, hZZ⟩ : ∃ Z, Z = Bell.fxAt l m := ⟨_, rfl⟩
      rw [← hP] at hA gA gA2 HVL
      rw [← hZZ] at hZ gZ gZ2 HVL
      simp only [Nat.zero_mul, Nat.add_zero] at hA
      have a0 := fun d os => cell_regrown hA d os
      have a1 := fun d os => cell_regrown hZ d os
      have w1 : IntKind.i64.wrap ((j : Int) - 1) = (m : Int) := by rw [IntWalk.i64_in _ (by omega)]; omega
      have pl : (m : Int) < (j : Int) := by omega
      have pl2 : (0 : Int) < (j : Int) := by omega
      obtain ⟨f, hf⟩ : ∃ f : Int, f = if decide (1000 < Z.t - P.t) = true then 14 else 0 := ⟨_, rfl⟩
      have cw := fun d os => Calls.regrown_of (Calls.grow_same (refWhen_as (grow (redrawn wr d) os) hf))
      have hr : Hid (V = f) := by show _ = _; rw [HVL.out, hf]; simp
      clear hm hA hZ hP hZZ hf hcc ga gz HVL
      go_wp2
      refine wp_region_below_tail 14 (by kernel_rfl) (by kernel_rfl) ?_
      simp only [List.take_succ_cons, List.take_zero, List.drop_succ_cons, List.drop_zero]
      iterate 13 (go_big_quiet_step (fail))
      go_big_quiet_step (exact cw _ _)
      refine wpQuiet_nil ?_
      intro w6 hw'
      obtain ⟨⟨dq, osq⟩, hw''⟩ := hw'
      have HB6 := Lib.hid (hb.out.trans ((below_regrown wr dq osq).mono hb.out.size))
      rw [← hw''] at HB6
      clear hw'' a0 a1 cw
      go_wp2
      go_ret
      exact ⟨ret_int hr.out.symm, HB.out.trans (HB6.out.mono HB.out.size)⟩
end Go.Proofs.YtmafmebcgmegeaaGreatDoor

namespace Go.Proofs.YtmafmebcgmegeaaGreatDoor
open Go.RowKit Go.Sort
theorem quo_facts {x d : Int} (hd : 1 ≤ d) : (x.tdiv d).natAbs ≤ x.natAbs ∧ (x.tmod d).natAbs < d.natAbs ∧ x.tmod d + x.tdiv d * d = x := by
  refine ⟨by rw [Int.natAbs_tdiv]; exact Nat.div_le_self _ _, ?_, ?_⟩
  · rw [Int.natAbs_tmod]; exact Nat.mod_lt _ (by omega)
  · rw [Int.mul_comm]; exact Int.tmod_add_mul_tdiv x d
set_option maxHeartbeats 400000 in
set_option maxRecDepth 100000 in
theorem refFloor_gen (x d : Int) (w : World) (hx : -100000000000000000 ≤ x ∧ x ≤ 100000000000000000) (hd : 1 ≤ d ∧ d ≤ 10000000) :
    Calls Tryz.prog 170 #[.int .i64 x, .int .i64 d] w fun e w' => e = .returned (.int .i64 (x / d)) ∧ w' = w := by
  obtain ⟨f1, f2, f3⟩ := quo_facts (x := x) hd.1
  have hf := Bell.floorR_is (n := x) (d := d) (by omega)
  obtain ⟨q, hq⟩ : ∃ q, x.tdiv d = q := ⟨_, rfl⟩
  obtain ⟨r, hr⟩ : ∃ r, x.tmod d = r := ⟨_, rfl⟩
  rw [hq] at f1 f3 hf
  rw [hr] at f2 f3
  obtain ⟨m, hm⟩ : ∃ m, q * d = m := ⟨_, rfl⟩
  rw [hm] at f3 hf
  have HF := Lib.hid hf
  have hd0 : ¬ d = 0 := by omega
  have w1 : IntKind.i64.wrap q = q := IntWalk.i64_in _ (by omega)
  have w2 : IntKind.i64.wrap m = m := IntWalk.i64_in _ (by omega)
  have w3 : IntKind.i64.wrap (q - 1) = q - 1 := IntWalk.i64_in _ (by omega)
  have HQ := Lib.hid hq
  by_cases h : x < m
  · have HH := Lib.hid h
    clear f1 f2 f3 hf hr
    go_enter Tryz.func170, Tryz.ntmps170
    go_wp2
    go_ret
    have h9 := HF.out
    rw [if_pos HH.out] at h9
    exact ⟨ret_int h9, rfl⟩
  · have HH := Lib.hid h
    clear f1 f2 f3 hf hr
    go_enter Tryz.func170, Tryz.ntmps170
    go_wp2
    go_ret
    have h9 := HF.out
    rw [if_neg (Int.not_lt.2 HH.out)] at h9
    exact ⟨ret_int h9, rfl⟩
theorem ceil_gen {x v : Int} (hv : 1 ≤ v) : 0 - (0 - x) / v = (x + v - 1) / v := by
  have h1 := Int.emod_add_mul_ediv (0 - x) v
  have h2 := Int.emod_nonneg (0 - x) (show v ≠ 0 by omega)
  have h3 := Int.emod_lt_of_pos (0 - x) (show 0 < v by omega)
  obtain ⟨q, hq⟩ : ∃ q, (0 - x) / v = q := ⟨_, rfl⟩
  rw [hq] at h1 ⊢
  have e1 : (0 - q) * v = -(v * q) := by rw [Int.sub_mul, Int.zero_mul, Int.zero_sub, Int.mul_comm]
  have e2 : (0 - q + 1) * v = -(v * q) + v := by rw [Int.add_mul, e1, Int.one_mul]
  apply Int.le_antisymm
  · apply Int.le_ediv_of_mul_le (by omega)
    rw [e1]; omega
  · have : (x + v - 1) / v < 0 - q + 1 := Int.ediv_lt_of_lt_mul (by omega) (by rw [e2]; omega)
    omega
end Go.Proofs.YtmafmebcgmegeaaGreatDoor
