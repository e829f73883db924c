/- Part. -/
import Derived.Test.YtmafmebcgmegeaaGreatDoorGz1
import Derived.Test.YtmafmebcgmegeaaGreatDoorGz35
import Derived.Test.YtmafmebcgmegeaaGreatDoorGz13
import Derived.Test.YtmafmebcgmegeaaGreatDoorGz14
import Derived.Test.YtmafmebcgmegeaaGreatDoorGz29
import Derived.Test.YtmafmebcgmegeaaGreatDoorGz30
import Derived.Test.YtmafmebcgmegeaaGreatDoorGz24
namespace Go.Proofs.YtmafmebcgmegeaaGreatDoor
open Go.RowKit Go.Sort
theorem cnt_two {n : Nat} {k a b R : Int} (ha : a = if ((n : Int) == 0) = true then 12 else 0) (hb : b = if decide (k < (n : Int)) = true then 5 else 0) (hk : 0 <= k) : firstE [a, b, R] = firstE [cntI n k, R] := by
 unfold cntI atMostE
 by_cases h0 : n = 0
 ·subst h0; have e : a = 12 := by rw [ha]; rfl
  rw [e, if_pos rfl]
  rfl
 ·have e : a = 0 := by rw [ha, if_neg (by simp; omega)]
  rw [e, if_neg h0]
  by_cases h1 : k < (n : Int)
  ·have e2 : b = 5 := by rw [hb, if_pos (decide_eq_true h1)]
   rw [e2, if_pos h1]
   rfl
  ·have e2 : b = 0 := by rw [hb, if_neg (by simp; omega)]
   rw [e2, if_neg h1]
   rfl
set_option maxHeartbeats 1000000 in
set_option maxRecDepth 100000 in
theorem refShares_full (A : Option Addr) (n c : Nat) (l : List Int) (w : World) (hl : IntsAt w A n l) (hn9 : n <= 140737488351232) :
  Calls Tryz.prog 101 #[.slice A n c] w fun e w' => e = .returned (.int .i64 (Bell.shE l)) /\ Below w.heap.size w w' := by
 have HL := lh hl; have HN := lh hl.1; clear hl; obtain ⟨R, hR⟩ : ∃ R, R = firstInE (fun x => withinE x 0 1000) l := ⟨_, rfl⟩; obtain ⟨Z, hZ⟩ : ∃ Z, Z = firstE [cntI n 8, R] := ⟨_, rfl⟩; obtain ⟨V, hV⟩ : ∃ V, V = Bell.shE l := ⟨_, rfl⟩
 have HV : Hid ((Z ≠ 0 -> V = Z) /\ (Z = 0 -> V = if l.sum = 1000 then 0 else 1)) := by
  have hS : Bell.shE l = if Z = 0 then (if l.sum = 1000 then 0 else 1) else Z := by
   unfold Bell.shE Bell.thenE; rw [bfirst, beach, cntE_cnt, HN.out, hZ, hR]
   rfl
  exact ⟨fun h => by rw [hV, hS, if_neg h], fun h => by rw [hV, hS, if_pos h]⟩
 rw [<- hV]; have HZ := lh hZ; have HR := lh hR; clear hR hZ hV
 go_enter Tryz.func101, Tryz.ntmps101
 go_wp2_with fail
 refine (refWhen_let _ _ _).mono ?_; rintro e w1 ⟨a, rfl, ha, rfl⟩
 go_wp2_with fail
 refine (refWhen_let _ _ _).mono ?_; rintro e w2 ⟨b, rfl, hb, rfl⟩
 go_wp2_with fail
 refine (refRanges_any A n c l 0 1000 w2 (by omega) HL.out).mono ?_; rw [<- HR.out]; rintro e w3 ⟨rfl, rfl⟩
 go_wp2_with fail
 refine (refFirst3 _ _ a b R _ (by go_simp) (by go_simp) (by go_simp)).mono ?_; obtain ⟨E, hE⟩ : ∃ E, E = firstE [a, b, R] := ⟨_, rfl⟩; rw [<- hE]; have HE := lh hE; clear hE; rintro e w4 ⟨rfl, rfl⟩; obtain ⟨w5, hw5⟩ : ∃ W, W = w3.alloc (.cells #[.int .i64 a, .int .i64 b, .int .i64 R] 3) := ⟨_, rfl⟩; rw [<- hw5]; have hbl : Below w3.heap.size w3 w5 := by rw [hw5]; exact (Below.refl _ _).alloc (Nat.le_refl _) _
 have H5 := lh (HL.out.keep hbl); have HB := lh hbl; clear hw5 hbl; have HEZ : Hid (E = Z) := by show _ = _; rw [HE.out, HZ.out]; exact cnt_two ha.out hb.out (by omega)
 by_cases he : E = 0
 ·have HV2 := lh (HV.out.2 (HEZ.out.symm.trans he)); have h1 : (E != 0) = false := by simp [he]
  obtain ⟨z1, z2, z3⟩ := firstE3_zero (HE.out.symm.trans he); have y1 := when_off (by omega) ha.out z1; have y2 := when_off (by omega) hb.out z2
  have n0 : 0 < n := by
   have : ¬ (n : Int) = 0 := by simpa using y1
   omega
  have n8 : n <= 8 := by have := of_decide_eq_false y2; omega
  have HG := lh (firstIn_rng (HR.out.symm.trans z3)); obtain ⟨bb, off, rfl, hc⟩ := H5.out.2 n0; have HC := lh hc; clear hc he z1 z2 z3 y1 y2 ha hb HE HR HL HEZ HV HZ; go_wp2
  go_loop [4, 5] (fun s k => ∃ j : Nat, j <= n /\ k = .int .i64 j /\ s = .int .i64 (sumL (l.take j))) (fun _ k => n - (intOf k).toNat)
  case atStart => exact ⟨0, Nat.zero_le _, rfl, rfl⟩
  case round =>
   obtain ⟨j, hj, rfl, rfl⟩ := hrel; have hv : ∀ i, i < l.length -> 0 <= l.getD i 0 /\ l.getD i 0 <= 100000000000000 := fun i hi => by have := HG.out _ (Bell.getD_mem hi); omega
   by_cases hlt : j < n
   ·have h0 := HC.out j hlt; have b1 := sumL_bd l hv j (by rw [HN.out]; omega); have HS := lh (sumL_succ l j (by rw [HN.out]; exact hlt)); have b4 := hv j (by rw [HN.out]; exact hlt); obtain ⟨x, hx⟩ : ∃ x, x = l.getD j 0 := ⟨_, rfl⟩; obtain ⟨s, hs⟩ : ∃ s, s = sumL (l.take j) := ⟨_, rfl⟩; rw [<- hx] at h0 b4 HS; rw [<- hs] at b1 HS ⊢; obtain ⟨b1, b2⟩ := b1; have b5 : s <= 1000000000000000 := by omega
    clear hx hs hv b2; go_wp2
    go_round
    case rel => exact ⟨j + 1, by omega, by go_num, by rw [HS.out]⟩
    case measure => simp [intOf]; omega
   ·obtain ⟨s, hs⟩ : ∃ s, s = sumL (l.take j) := ⟨_, rfl⟩
    have HS : Hid (s = sumL l) := by
     show _ = _
     rw [hs, List.take_of_length_le (by rw [HN.out]; omega)]
    rw [<- hs]; clear hs hv
    go_wp2_with fail
    refine (refWhen_let _ _ _).mono ?_; rintro e w6 ⟨d, rfl, hd, rfl⟩; go_wp2; go_ret
    have hr : V = d := by
     rw [HV2.out, <- sumL_sum, <- HS.out, hd.out]
     by_cases h : s = 1000
     ·simp [h]
     ·simp [h]
    first | exact ⟨ret_int hr.symm, HB.out⟩ | exact ⟨ret_int rfl, HB.out⟩
 ·have h1 : (E != 0) = true := by simp [he]
  have hr : V = E := by rw [HEZ.out]; exact HV.out.1 (by rw [<- HEZ.out]; exact he)
  go_wp2
  go_ret
  first | exact ⟨ret_int hr.symm, HB.out⟩ | exact ⟨ret_int rfl, HB.out⟩
set_option maxHeartbeats 1000000 in
set_option maxRecDepth 100000 in
theorem refSquares_full (A : Option Addr) (n c : Nat) (l : List Int) (w : World) (hl : IntsAt w A n l) (hn9 : n <= 140737488351232) :
  Calls Tryz.prog 104 #[.slice A n c] w fun e w' => e = .returned (.int .i64 (Bell.sqE l)) /\ Below w.heap.size w w' := by
 have HL := lh hl; have HN := lh hl.1; clear hl; obtain ⟨R, hR⟩ : ∃ R, R = firstInE (fun x => withinE x 0 100000000000) l := ⟨_, rfl⟩; obtain ⟨Z, hZ⟩ : ∃ Z, Z = firstE [cntI n 8, R] := ⟨_, rfl⟩; obtain ⟨V, hV⟩ : ∃ V, V = Bell.sqE l := ⟨_, rfl⟩
 have HV : Hid ((Z ≠ 0 -> V = Z) /\ (Z = 0 -> V = if l.headD 0 = 0 /\ Bell.asc (l.headD 0) l.tail then 0 else 11)) := by
  have hS : Bell.sqE l = if Z = 0 then (if l.headD 0 = 0 /\ Bell.asc (l.headD 0) l.tail then 0 else 11) else Z := by
   unfold Bell.sqE Bell.thenE; rw [bfirst, beach, cntE_cnt, HN.out, hZ, hR]
   rfl
  exact ⟨fun h => by rw [hV, hS, if_neg h], fun h => by rw [hV, hS, if_pos h]⟩
 rw [<- hV]; have HZ := lh hZ; have HR := lh hR; clear hR hZ hV
 go_enter Tryz.func104, Tryz.ntmps104
 go_wp2_with fail
 refine (refWhen_let _ _ _).mono ?_; rintro e w1 ⟨a, rfl, ha, rfl⟩
 go_wp2_with fail
 refine (refWhen_let _ _ _).mono ?_; rintro e w2 ⟨b, rfl, hb, rfl⟩
 go_wp2_with fail
 refine (refRanges_any A n c l 0 100000000000 w2 (by omega) HL.out).mono ?_; rw [<- HR.out]; rintro e w3 ⟨rfl, rfl⟩
 go_wp2_with fail
 refine (refFirst3 _ _ a b R _ (by go_simp) (by go_simp) (by go_simp)).mono ?_; obtain ⟨E, hE⟩ : ∃ E, E = firstE [a, b, R] := ⟨_, rfl⟩; rw [<- hE]; have HE := lh hE; clear hE; rintro e w4 ⟨rfl, rfl⟩; obtain ⟨w5, hw5⟩ : ∃ W, W = w3.alloc (.cells #[.int .i64 a, .int .i64 b, .int .i64 R] 3) := ⟨_, rfl⟩; rw [<- hw5]; have hbl : Below w3.heap.size w3 w5 := by rw [hw5]; exact (Below.refl _ _).alloc (Nat.le_refl _) _
 have H5 := lh (HL.out.keep hbl); have HB := lh hbl; clear hw5 hbl; have HEZ : Hid (E = Z) := by show _ = _; rw [HE.out, HZ.out]; exact cnt_two ha.out hb.out (by omega)
 by_cases he : E = 0
 ·have HV2 := lh (HV.out.2 (HEZ.out.symm.trans he)); have h1 : (E != 0) = false := by simp [he]
  obtain ⟨z1, z2, z3⟩ := firstE3_zero (HE.out.symm.trans he); have y1 := when_off (by omega) ha.out z1; have y2 := when_off (by omega) hb.out z2
  have n0 : 0 < n := by
   have : ¬ (n : Int) = 0 := by simpa using y1
   omega
  have n8 : n <= 8 := by have := of_decide_eq_false y2; omega
  have HG := lh (firstIn_rng (HR.out.symm.trans z3))
  have HV3 : Hid (((l.getD 0 0 = 0 /\ ∀ i, i + 1 < l.length -> l.getD i 0 < l.getD (i + 1) 0) -> V = 0) /\ (¬ (l.getD 0 0 = 0 /\ ∀ i, i + 1 < l.length -> l.getD i 0 < l.getD (i + 1) 0) -> V = 11)) := by
   refine ⟨fun h => ?_, fun h => ?_⟩
   ·rw [HV2.out, if_pos ((sqOrd (by rw [HN.out]; exact n0)).2 h)]
   ·rw [HV2.out, if_neg (fun h2 => h ((sqOrd (by rw [HN.out]; exact n0)).1 h2))]
  clear HV2; obtain ⟨bb, off, rfl, hc⟩ := H5.out.2 n0; have HC := lh hc; clear hc he z1 z2 z3 y1 y2 ha hb HE HR HL HEZ HV HZ; go_wp2
  go_loopw [2, 4] (fun _ k wr => ∃ j : Nat, j <= n /\ k = .int .i64 j /\ Hid (0 < j -> l.getD 0 0 = 0) /\ Hid (∀ i, i + 1 < j -> l.getD i 0 < l.getD (i + 1) 0) /\ ∃ q, wr = w5.drewN q) (fun _ k _ => n - (intOf k).toNat)
  case atStart => exact ⟨0, Nat.zero_le _, rfl, fun h => absurd h (by omega), (fun i hi => by omega), 0, rfl⟩
  case round =>
   obtain ⟨j, hj, rfl, hz, hu, q, rfl⟩ := hrel
   by_cases hlt : j < n
   ·have h0 := HC.out j hlt; obtain ⟨x, hx⟩ : ∃ x, x = l.getD j 0 := ⟨_, rfl⟩; rw [<- hx] at h0; have HX := lh hx; clear hx; rcases Nat.eq_zero_or_pos j with rfl | hp
    ·rw [Nat.add_zero] at h0; have pl : (0 : Int) < (n : Int) := by omega
     by_cases hx0 : x = 0
     ·have t1 : (x != 0) = false := by simp [hx0]
      have HX0 := lh hx0; clear hx0; go_wp2
      go_quiet (fail)
      go_wp2
      go_roundw
      case rel => exact ⟨1, by omega, rfl, (fun _ => by rw [<- HX.out]; exact HX0.out), (fun i hi => by omega), _, rfl⟩
      case measure => simp [intOf]; omega
     ·have t1 : (x != 0) = true := by simp [hx0]
      have hr : V = 11 := HV3.out.2 (fun h => hx0 (HX.out.trans h.1)); clear hx0; go_wp2
      go_quiet (fail)
      go_wp2
      go_ret
      first | exact ⟨ret_int hr.symm, below_drewN' (below_drewN' HB.out _) _⟩ | exact ⟨ret_int rfl, below_drewN' (below_drewN' HB.out _) _⟩
    ·have g0 : ((j : Int) == 0) = false := by simp; omega
     have g1 : decide (0 < j) = true := decide_eq_true (by omega); obtain ⟨p, hpj⟩ : ∃ p, p + 1 = j := ⟨j - 1, by omega⟩; have h1 := HC.out p (by omega); obtain ⟨y, hy⟩ : ∃ y, y = l.getD p 0 := ⟨_, rfl⟩; rw [<- hy] at h1; have HY := lh hy
     have hmx : ∀ ts t W, (Builtin.max_ ts t #[.int .i64 0, .int .i64 ((j : Int) - 1)]).run Tryz.prog W = .ok (.int .i64 (p : Int)) W := fun ts t W => by
      rw [run_max2']; congr 2; omega
     have pl : (p : Int) < (n : Int) := by omega
     have pl2 : (j : Int) < (n : Int) := by omega
     have wj : IntKind.i64.wrap ((j : Int) - 1) = (j : Int) - 1 := IntWalk.i64_in _ (by omega); have HPJ := lh hpj; clear hy hp hpj
     by_cases hxy : x <= y
     ·have t1 : decide (x <= y) = true := decide_eq_true hxy
      have hr : V = 11 := HV3.out.2 (fun h => by
       have h2 := h.2 p (by rw [HPJ.out, HN.out]; exact hlt); rw [HPJ.out, <- HX.out, <- HY.out] at h2
       omega)
      clear hxy; go_wp2
      go_quiet (fail)
      go_wp2
      go_ret
      first | exact ⟨ret_int hr.symm, below_drewN' (below_drewN' HB.out _) _⟩ | exact ⟨ret_int rfl, below_drewN' (below_drewN' HB.out _) _⟩
     ·have t1 : decide (x <= y) = false := decide_eq_false hxy; have HXY := lh hxy; clear hxy; go_wp2
      go_quiet (fail)
      go_wp2
      go_roundw
      case rel =>
       have hpj := HPJ.out; refine ⟨j + 1, by omega, by go_num, (fun _ => hz.out (by omega)), (fun i hi => ?_), _, rfl⟩
       by_cases hip : i + 1 < j
       ·exact hu.out i hip
       ·obtain rfl : i = p := by omega
        rw [hpj]; have := HXY.out; rw [<- HX.out, <- HY.out]; omega
      case measure => simp [intOf]; omega
   ·obtain rfl : j = n := by omega
    go_wp2
    go_ret
    have hr : V = 0 := HV3.out.1 ⟨hz.out n0, fun i hi => hu.out i (by rw [<- HN.out]; exact hi)⟩
    first | exact ⟨ret_int hr.symm, below_drewN' HB.out _⟩ | exact ⟨ret_int rfl, below_drewN' HB.out _⟩
 ·have h1 : (E != 0) = true := by simp [he]
  have hr : V = E := by rw [HEZ.out]; exact HV.out.1 (by rw [<- HEZ.out]; exact he)
  go_wp2
  go_ret
  first | exact ⟨ret_int hr.symm, HB.out⟩ | exact ⟨ret_int rfl, HB.out⟩
def setF (k : Nat) (p p0 : Int) (en qn : Nat) (zs : List Int) : Int := firstE [withinE p 1 100, if decide (0 < k) && decide (p <= p0) then 11 else 0, if ((en : Int) != (qn : Int)) = true then 2 else 0, firstInE (fun x => withinE x 0 100000000) zs]
def SetK (E : Int) (k : Nat) (p p0 : Int) (en qn : Nat) (zs ys : List Int) : Prop :=
 (setF k p p0 en qn zs ≠ 0 -> E = setF k p p0 en qn zs) /\
 (setF k p p0 en qn zs = 0 -> (∀ i, 0 < i -> i < en -> zs.getD i 0 <= zs.getD (i - 1) 0) -> (0 < k -> ∀ i, i < en -> ys.getD i 0 <= zs.getD i 0) -> E = 0) /\
 (setF k p p0 en qn zs = 0 -> ¬ ((∀ i, 0 < i -> i < en -> zs.getD i 0 <= zs.getD (i - 1) 0) /\ (0 < k -> ∀ i, i < en -> ys.getD i 0 <= zs.getD i 0)) -> E = 21)
theorem setK_is {E : Int} {k en qn : Nat} {p p0 bp : Int} {zs ys be : List Int} (h : SetK E k p p0 en qn zs ys) (hz : zs.length = en) (h0 : k = 0 -> bp = 0 /\ ∀ i, be.getD i 0 = 0) (h1 : 0 < k -> bp = p0 /\ be = ys) : E = Bell.setE qn bp be (p, zs) := by
 obtain ⟨k1, k2, k3⟩ := h
 have e : Bell.firstE [Bell.inR p 1 100, if p <= bp then 11 else 0, if zs.length = qn then 0 else 2, Bell.eachE (fun n => Bell.inR n 0 100000000) zs] = setF k p p0 en qn zs := by
  rw [bfirst, beach, hz]; unfold setF
  have e2 : (if en = qn then (0 : Int) else 2) = if ((en : Int) != (qn : Int)) = true then 2 else 0 := by
   by_cases h : en = qn
   ·subst h; simp
   ·rw [if_neg h, if_pos (by simp; omega)]
  rw [e2]
  by_cases hw : withinE p 1 100 = 0
  ·have hp := withinE_zero hw
   have e1 : (if p <= bp then (11 : Int) else 0) = if (decide (0 < k) && decide (p <= p0)) = true then 11 else 0 := by
    rcases Nat.eq_zero_or_pos k with hk | hk
    ·subst hk; rw [if_neg (by have := (h0 rfl).1; omega)]
     rfl
    ·rw [(h1 hk).1, decide_eq_true hk, Bool.true_and]
     by_cases hq : p <= p0
     ·rw [if_pos hq, if_pos (decide_eq_true hq)]
     ·rw [if_neg hq, if_neg (by simp; omega)]
   rw [e1]
   rfl
  ·show firstE [withinE p 1 100, _, _, _] = firstE [withinE p 1 100, _, _, _]
   simp only [firstE, if_neg hw]
 unfold Bell.setE Bell.thenE
 show E = if Bell.firstE [Bell.inR p 1 100, if p <= bp then 11 else 0, if zs.length = qn then 0 else 2, Bell.eachE (fun n => Bell.inR n 0 100000000) zs] = 0 then (if Bell.ruleOk (zs.headD 0) be zs = true then 0 else 21) else Bell.firstE [Bell.inR p 1 100, if p <= bp then 11 else 0, if zs.length = qn then 0 else 2, Bell.eachE (fun n => Bell.inR n 0 100000000) zs]
 rw [e]
 by_cases hF : setF k p p0 en qn zs = 0
 ·rw [if_pos hF]; have hr : firstInE (fun x => withinE x 0 100000000) zs = 0 := firstE_zero hF _ (by simp); have hrg := firstInE_rng hr
  have hiff : Bell.ruleOk (zs.headD 0) be zs = true ↔ ((∀ i, 0 < i -> i < en -> zs.getD i 0 <= zs.getD (i - 1) 0) /\ (0 < k -> ∀ i, i < en -> ys.getD i 0 <= zs.getD i 0)) := by
   rw [rule_iff, hz]
   constructor
   ·intro hh; refine ⟨fun i _ hi => (hh i hi).2, fun hk i hi => ?_⟩; have := (hh i hi).1
    rwa [(h1 hk).2] at this
   ·rintro ⟨a1, a2⟩ i hi
    constructor
    ·rcases Nat.eq_zero_or_pos k with hk | hk
     ·rw [(h0 hk).2 i]; exact (hrg _ (Bell.getD_mem (by rw [hz]; exact hi))).1
     ·rw [(h1 hk).2]; exact a2 hk i hi
    ·rcases Nat.eq_zero_or_pos i with q | q
     ·subst q; exact Int.le_refl _
     ·exact a1 i q hi
  by_cases hru : Bell.ruleOk (zs.headD 0) be zs = true
  ·rw [if_pos hru]; obtain ⟨a1, a2⟩ := hiff.1 hru; exact k2 hF a1 a2
  ·rw [if_neg hru]; exact k3 hF (fun h => hru (hiff.2 h))
 ·rw [if_neg hF]; exact k1 hF
set_option maxHeartbeats 4000000 in
set_option maxRecDepth 100000 in
theorem refSetting_full {cs : Array Value} (w : World) (gb go gn gc k q : Nat) (h12 : cs[12]? = some (.slice (some ⟨gb, go, none⟩) gn gc)) (qa : Option Addr) (qn qc : Nat) (h11 : cs[11]? = some (.slice qa qn qc)) (hk : k < gn) (hq : q = k - 1) (hgn : gn <= 7)
  (p p0 : Int) (ea fa : Option Addr) (en ec fn fc : Nat) (zs ys : List Int) (hs : SetAt w gb (go + k * 2) p ea en ec) (hf : SetAt w gb (go + q * 2) p0 fa fn fc) (hz : IntsAt w ea en zs) (hy : IntsAt w fa fn ys) (hen : en <= 140737488351232) (hfn : 0 < k -> fn = qn) :
  Calls Tryz.prog 106 #[.agg cs, .int .i64 k] w fun e w' => ∃ E : Int, e = .returned (.int .i64 E) /\ Hid (SetK E k p p0 en qn zs ys) /\ Below w.heap.size w w' := by
 have HZ := lh hz; have HY := lh hy; have HFN := lh hfn; have HS := lh hs; have HF := lh hf; have HQ := lh hq; clear hz hy hfn hs hf
 go_enter Tryz.func106, Tryz.ntmps106
 go_upto_region 1 with fail
 obtain ⟨w1, hw1⟩ : ∃ W, W = w.alloc (.cells cs 26) := ⟨_, rfl⟩; rw [<- hw1]; have T1 : Hid (Blk w1 w.heap.size 26 cs) := by show Blk _ _ _ _; rw [hw1]; exact Blk.new _ _ _
 have HB1 : Hid (Below w.heap.size w w1) := by show Below _ _ _; rw [hw1]; exact (Below.refl _ _).alloc (Nat.le_refl _) _
 obtain ⟨g, hg⟩ : ∃ g, g = w.heap.size := ⟨_, rfl⟩; rw [<- hg] at T1 ⊢; have HGs := lh hg; clear hw1 hg; have kc : ∀ {x : Addr} {v : Value}, w.cell? x = some v -> w1.cell? x = some v := fun {x v} hc => by rw [HB1.out.cell (World.block_lt_of_cell? _ _ hc)]; exact hc
 have t12 := (T1.out.cell 12).trans h12; have s0 := kc HS.out.1; have s1 := kc HS.out.2; have f0 := kc HF.out.1; have f1 := kc HF.out.2
 have hmx : ∀ ts t W, (Builtin.max_ ts t #[.int .i64 0, .int .i64 ((k : Int) - 1)]).run Tryz.prog W = .ok (.int .i64 (q : Int)) W := fun ts t W => by
  rw [run_max2']; congr 2; omega
 have wk : IntKind.i64.wrap ((k : Int) - 1) = (k : Int) - 1 := IntWalk.i64_in _ (by omega); have pl : (k : Int) < (gn : Int) := by omega
 have pl2 : (q : Int) < (gn : Int) := by omega
 clear kc hq; have hgl : g < w1.heap.size := lt_of_block T1.out; have hgbl : gb < w1.heap.size := World.block_lt_of_cell? _ _ s0; have e1 : (g = w1.heap.size) = False := by simp; omega
 have e2 : (g = w1.heap.size + 1) = False := by simp; omega
 have e3 : (gb = w1.heap.size) = False := by simp; omega
 have e4 : (gb = w1.heap.size + 1) = False := by simp; omega
 apply via3 (A := fun (W : World) (a : Nat) => Hid (Blk W a 145 #[.int .i64 p, .slice ea en ec])) (B := fun (W : World) (a : Nat) => Hid (Blk W a 145 #[.int .i64 p0, .slice fa fn fc])) (C := fun W => Hid (Below w1.heap.size w1 W))
 ·intro key
  go_region
  all_goals
   first
   | (obtain ⟨w2, hw2⟩ : ∃ W, W = ((w1.alloc (.cells #[.int .i64 p, .slice ea en ec] 145)).alloc (.cells #[.int .i64 p0, .slice fa fn fc] 145)).drew := ⟨_, rfl⟩
      rw [<- hw2]; have P2 : Hid (Blk w2 (w1.heap.size) 145 #[.int .i64 p, .slice ea en ec]) := by show Blk _ _ _ _; rw [hw2]; exact ((Blk.new _ _ _).alloc _).drew
      have F2 : Hid (Blk w2 (w1.heap.size + 1) 145 #[.int .i64 p0, .slice fa fn fc]) := by show Blk _ _ _ _; rw [hw2]; exact (Blk.at_size _ _ (by simp)).drew
      have hb2 : Hid (Below w1.heap.size w1 w2) := by show Below _ _ _; rw [hw2]; exact (((Below.refl _ _).alloc (Nat.le_refl _) _).alloc (by simp) _).drew
      obtain ⟨gP, hgP⟩ : ∃ x, x = w1.heap.size := ⟨_, rfl⟩; obtain ⟨gF, hgF⟩ : ∃ x, x = w1.heap.size + 1 := ⟨_, rfl⟩; rw [<- hgP] at P2; rw [<- hgF] at F2; rw [<- hgF, <- hgP]; exact key w2 gP gF P2 F2 hb2)
   | (obtain ⟨w2, hw2⟩ : ∃ W, W = ((w1.alloc (.cells #[.int .i64 p0, .slice fa fn fc] 145)).alloc (.cells #[.int .i64 p, .slice ea en ec] 145)).drew := ⟨_, rfl⟩
      rw [<- hw2]; have P2 : Hid (Blk w2 (w1.heap.size + 1) 145 #[.int .i64 p, .slice ea en ec]) := by show Blk _ _ _ _; rw [hw2]; exact (Blk.at_size _ _ (by simp)).drew
      have F2 : Hid (Blk w2 (w1.heap.size) 145 #[.int .i64 p0, .slice fa fn fc]) := by show Blk _ _ _ _; rw [hw2]; exact ((Blk.new _ _ _).alloc _).drew
      have hb2 : Hid (Below w1.heap.size w1 w2) := by show Below _ _ _; rw [hw2]; exact (((Below.refl _ _).alloc (Nat.le_refl _) _).alloc (by simp) _).drew
      obtain ⟨gP, hgP⟩ : ∃ x, x = w1.heap.size + 1 := ⟨_, rfl⟩; obtain ⟨gF, hgF⟩ : ∃ x, x = w1.heap.size := ⟨_, rfl⟩; rw [<- hgP] at P2; rw [<- hgF] at F2; rw [<- hgP, <- hgF]; exact key w2 gP gF P2 F2 hb2)
 ·intro w2 gP gF P2 F2 hb2; have hb2 := hb2.out; have T2 := lh (T1.out.below hb2); have HB2 := lh (HB1.out.trans (hb2.mono HB1.out.size)); have HZ2 := lh (HZ.out.keep HB2.out); have HY2 := lh (HY.out.keep HB2.out); clear hb2 t12 s0 s1 f0 f1 hmx wk pl pl2 hgl hgbl e1 e2 e3 e4; have a0 := fun d os => cell_regrown (P2.out.cell 0) d os
  have a1 := fun d os => cell_regrown (P2.out.cell 1) d os
  have b0 := fun d os => cell_regrown (F2.out.cell 0) d os
  have t11 := fun d os => cell_regrown ((T2.out.cell 11).trans h11) d os
  have cp := fun d os => Calls.regrown_of (Calls.grow_same (refPower_st p (grow (redrawn w2 d) os)))
  obtain ⟨x2, hx2⟩ : ∃ f : Int, f = if ((en : Int) != (qn : Int)) = true then 2 else 0 := ⟨_, rfl⟩; have c2 := fun d os => Calls.regrown_of (Calls.grow_same (refWhen_as (grow (redrawn w2 d) os) hx2))
  obtain ⟨R, hR⟩ : ∃ R, R = firstInE (fun x => withinE x 0 100000000) zs := ⟨_, rfl⟩; have cr := fun d os => Calls.regrown_of (Calls.grow_same (refRanges_any ea en ec zs 0 100000000 (grow (redrawn w2 d) os) (by omega) (HZ2.out.keep (below_regrown w2 d os))))
  rw [<- hR] at cr; have HX2 := lh hx2; have HR := lh hR; clear hx2 hR; rcases Nat.eq_zero_or_pos k with hk0 | hk0
  ·have g0 : decide (0 < k) = false := decide_eq_false (by omega); have g1 : decide ((0 : Int) < (k : Int)) = false := decide_eq_false (by omega); have HK0 := lh hk0; obtain ⟨x1, hx1⟩ : ∃ f : Int, f = if false = true then 11 else 0 := ⟨_, rfl⟩; have HX1 : Hid (x1 = if decide (0 < k) && decide (p <= p0) then 11 else 0) := by show _ = _; rw [hx1, g0]; simp
   have c1 := fun d os => Calls.regrown_of (Calls.grow_same (refWhen_as (grow (redrawn w2 d) os) hx1))
   clear hx1 hk0; go_wp2; refine wp_region_below_tail 24 (by kernel_rfl) (by kernel_rfl) ?_; simp only [List.take_succ_cons, List.take_zero, List.drop_succ_cons, List.drop_zero]
   iterate 2 (go_big_quiet_step (fail))
   go_big_quiet_step (exact cp _ _)
   iterate 9 (go_big_quiet_step (fail))
   go_big_quiet_step (exact c1 _ _)
   iterate 7 (go_big_quiet_step (fail))
   go_big_quiet_step (exact c2 _ _)
   iterate 2 (go_big_quiet_step (fail))
   go_big_quiet_step (exact cr _ _)
   refine wpQuiet_nil ?_; intro w3 hw'; obtain ⟨⟨dq, osq⟩, hw''⟩ := hw'; have hb3 := below_regrown w2 dq osq; rw [<- hw''] at hb3; have HB3 := lh (HB2.out.trans (hb3.mono HB2.out.size)); have P3 := lh (P2.out.below hb3); have F3 := lh (F2.out.below hb3); clear hw'' a0 a1 b0 t11 cp c1 c2 cr hb3 HB2 P2 F2 T2 HZ2 HY2
   go_wp2_with fail
   refine (refFirst4 _ _ (withinE p 1 100) x1 x2 R _ (by go_simp) (by go_simp) (by go_simp) (by go_simp)).mono ?_; obtain ⟨F, hF⟩ : ∃ F, F = firstE [withinE p 1 100, x1, x2, R] := ⟨_, rfl⟩; rw [<- hF]; have HF := lh hF; have HFQ : Hid (F = setF k p p0 en qn zs) := by show _ = _; rw [hF, HX1.out, HX2.out, HR.out]; rfl
   clear hF; rintro e w4 ⟨rfl, rfl⟩; obtain ⟨w5, hw5⟩ : ∃ W, W = w3.alloc (.cells #[.int .i64 (withinE p 1 100), .int .i64 x1, .int .i64 x2, .int .i64 R] 3) := ⟨_, rfl⟩; rw [<- hw5]; have hb5 : Below w3.heap.size w3 w5 := by rw [hw5]; exact (Below.refl _ _).alloc (Nat.le_refl _) _
   have HB5 := lh (HB3.out.trans (hb5.mono HB3.out.size)); have P5 := lh (P3.out.below hb5); have F5 := lh (F3.out.below hb5); clear hw5 hb5 HB3 P3 F3
   by_cases hf0 : F = 0
   rotate_left
   ·have h1 : (F != 0) = true := by simp [hf0]
    go_wp2
    go_ret
    exact ⟨F, rfl, ⟨fun _ => HFQ.out, fun h => absurd (HFQ.out.trans h) hf0, fun h => absurd (HFQ.out.trans h) hf0⟩, HB5.out⟩
   have h1 : (F != 0) = false := by simp [hf0]
   obtain ⟨z1, z2, z3, z4⟩ := firstE4_zero (HF.out.symm.trans hf0)
   have hq2 : en = qn := by
    have h9 := when_off (by omega) HX2.out z3; have h8 : (en : Int) = (qn : Int) := by simpa using h9
    omega
   have HEQ := lh hq2; have HFE : Hid (0 < k -> fn = en) := fun h => (HFN.out h).trans hq2.symm
   have HW := lh z1; have HR0 := lh (HR.out.symm.trans z4); have HX0 : Hid ((decide (0 < k) && decide (p <= p0)) = false) := when_off (by omega) HX1.out z2; have HF0 : Hid (setF k p p0 en qn zs = 0) := by show _ = _; rw [<- HFQ.out]; exact hf0
   clear z1 z2 z3 z4 hf0 hq2; have c5 := P5.out.cell 1; have d5 := F5.out.cell 1; simp only [List.getElem?_toArray, List.getElem?_cons_zero, List.getElem?_cons_succ] at c5 d5; go_wp2
   go_loopw [4, 8] (fun _ j wr => ∃ m : Nat, m <= en /\ j = .int .i64 m /\ Hid (∀ i, 0 < i -> i < m -> zs.getD i 0 <= zs.getD (i - 1) 0) /\ Hid (0 < k -> ∀ i, i < m -> ys.getD i 0 <= zs.getD i 0) /\ ∃ q', wr = w5.drewN q') (fun _ j _ => en - (intOf j).toNat)
   case atStart => exact ⟨0, Nat.zero_le _, rfl, (fun i _ hi => by omega), (fun _ i hi => by omega), 0, rfl⟩
   case round =>
    obtain ⟨m, hm, rfl, hd, ho, q', rfl⟩ := hrel
    by_cases hlt : m < en
    rotate_left
    ·obtain rfl : m = en := by omega
     clear hlt; go_wp2; go_ret; exact ⟨0, rfl, ⟨fun h => absurd HF0.out h, fun _ _ _ => rfl, fun _ h => absurd ⟨hd.out, ho.out⟩ h⟩, below_drewN' HB5.out _⟩
    ·obtain ⟨zb, zo, hze, hz⟩ := (HZ.out.keep HB5.out).2 (by omega); have HC := lh hz; have h0 := hz m hlt; have c6 := c5; rw [hze] at c6; obtain ⟨x, hx⟩ : ∃ x, x = zs.getD m 0 := ⟨_, rfl⟩; rw [<- hx] at h0; have HX := lh hx; have pm : (m : Int) < (en : Int) := by omega
     clear hx hz hze c5; rcases Nat.eq_zero_or_pos m with rfl | hp
     ·rw [Nat.add_zero] at h0; clear d5; go_wp2
      go_quiet (fail)
      go_wp2
      go_roundw
      case rel =>
       refine ⟨1, by omega, by go_num, (fun i hi0 hi => ?_), (fun h => absurd h (by have := HK0.out; omega)), _, rfl⟩
       ·omega
      case measure => simp [intOf]; omega
     ·have g2 : decide (0 < m) = true := decide_eq_true hp; have g3 : decide ((0 : Int) < (m : Int)) = true := decide_eq_true (by omega); obtain ⟨q2, hpm⟩ : ∃ q2, q2 = m - 1 := ⟨_, rfl⟩; have h2 := HC.out q2 (by omega); obtain ⟨y, hy⟩ : ∃ y, y = zs.getD q2 0 := ⟨_, rfl⟩; rw [<- hy] at h2; have HY2 : Hid (y = zs.getD q2 0) := hy
      have hmx2 : ∀ ts t W, (Builtin.max_ ts t #[.int .i64 0, .int .i64 ((m : Int) - 1)]).run Tryz.prog W = .ok (.int .i64 (q2 : Int)) W := fun ts t W => by
       rw [run_max2']; congr 2; omega
      have pl : (q2 : Int) < (en : Int) := by omega
      have wj : IntKind.i64.wrap ((m : Int) - 1) = (m : Int) - 1 := IntWalk.i64_in _ (by omega); have HPM : Hid (m - 1 = q2) := hpm.symm; have hp0 : 0 < m := hp; clear hy hp hpm
      by_cases hxy : y < x
      ·have t1 : decide (y < x) = true := decide_eq_true hxy; have HXB := lh hxy; clear hxy; go_wp2
       go_quiet (fail)
       go_wp2
       go_ret
       exact ⟨21, rfl, ⟨fun h => absurd HF0.out h, fun _ h _ => absurd (h m hp0 (by omega)) (by rw [HPM.out, <- HX.out, <- HY2.out]; have := HXB.out; omega), fun _ _ => rfl⟩, below_drewN' (below_drewN' HB5.out _) _⟩
      ·have t1 : decide (y < x) = false := decide_eq_false hxy; have HXY := lh hxy; clear hxy; clear d5; go_wp2
       go_quiet (fail)
       go_wp2
       go_roundw
       case rel =>
        refine ⟨m + 1, by omega, by go_num, (fun i hi0 hi => ?_), (fun h => absurd h (by have := HK0.out; omega)), _, rfl⟩
        ·by_cases him : i < m
         ·exact hd.out i hi0 him
         ·obtain rfl : i = m := by omega
          have := HXY.out; rw [HPM.out, <- HX.out, <- HY2.out]; omega
       case measure => simp [intOf]; omega
  ·have g0 : decide (0 < k) = true := decide_eq_true (by omega); have g1 : decide ((0 : Int) < (k : Int)) = true := decide_eq_true (by omega); have HK0 := lh hk0; obtain ⟨x1, hx1⟩ : ∃ f : Int, f = if decide (p <= p0) = true then 11 else 0 := ⟨_, rfl⟩; have HX1 : Hid (x1 = if decide (0 < k) && decide (p <= p0) then 11 else 0) := by show _ = _; rw [hx1, g0]; simp
   have c1 := fun d os => Calls.regrown_of (Calls.grow_same (refWhen_as (grow (redrawn w2 d) os) hx1))
   clear hx1 hk0; go_wp2; refine wp_region_below_tail 24 (by kernel_rfl) (by kernel_rfl) ?_; simp only [List.take_succ_cons, List.take_zero, List.drop_succ_cons, List.drop_zero]
   iterate 2 (go_big_quiet_step (fail))
   go_big_quiet_step (exact cp _ _)
   iterate 9 (go_big_quiet_step (fail))
   go_big_quiet_step (exact c1 _ _)
   iterate 7 (go_big_quiet_step (fail))
   go_big_quiet_step (exact c2 _ _)
   iterate 2 (go_big_quiet_step (fail))
   go_big_quiet_step (exact cr _ _)
   refine wpQuiet_nil ?_; intro w3 hw'; obtain ⟨⟨dq, osq⟩, hw''⟩ := hw'; have hb3 := below_regrown w2 dq osq; rw [<- hw''] at hb3; have HB3 := lh (HB2.out.trans (hb3.mono HB2.out.size)); have P3 := lh (P2.out.below hb3); have F3 := lh (F2.out.below hb3); clear hw'' a0 a1 b0 t11 cp c1 c2 cr hb3 HB2 P2 F2 T2 HZ2 HY2
   go_wp2_with fail
   refine (refFirst4 _ _ (withinE p 1 100) x1 x2 R _ (by go_simp) (by go_simp) (by go_simp) (by go_simp)).mono ?_; obtain ⟨F, hF⟩ : ∃ F, F = firstE [withinE p 1 100, x1, x2, R] := ⟨_, rfl⟩; rw [<- hF]; have HF := lh hF; have HFQ : Hid (F = setF k p p0 en qn zs) := by show _ = _; rw [hF, HX1.out, HX2.out, HR.out]; rfl
   clear hF; rintro e w4 ⟨rfl, rfl⟩; obtain ⟨w5, hw5⟩ : ∃ W, W = w3.alloc (.cells #[.int .i64 (withinE p 1 100), .int .i64 x1, .int .i64 x2, .int .i64 R] 3) := ⟨_, rfl⟩; rw [<- hw5]; have hb5 : Below w3.heap.size w3 w5 := by rw [hw5]; exact (Below.refl _ _).alloc (Nat.le_refl _) _
   have HB5 := lh (HB3.out.trans (hb5.mono HB3.out.size)); have P5 := lh (P3.out.below hb5); have F5 := lh (F3.out.below hb5); clear hw5 hb5 HB3 P3 F3
   by_cases hf0 : F = 0
   rotate_left
   ·have h1 : (F != 0) = true := by simp [hf0]
    go_wp2
    go_ret
    exact ⟨F, rfl, ⟨fun _ => HFQ.out, fun h => absurd (HFQ.out.trans h) hf0, fun h => absurd (HFQ.out.trans h) hf0⟩, HB5.out⟩
   have h1 : (F != 0) = false := by simp [hf0]
   obtain ⟨z1, z2, z3, z4⟩ := firstE4_zero (HF.out.symm.trans hf0)
   have hq2 : en = qn := by
    have h9 := when_off (by omega) HX2.out z3; have h8 : (en : Int) = (qn : Int) := by simpa using h9
    omega
   have HEQ := lh hq2; have HFE : Hid (0 < k -> fn = en) := fun h => (HFN.out h).trans hq2.symm
   have HW := lh z1; have HR0 := lh (HR.out.symm.trans z4); have HX0 : Hid ((decide (0 < k) && decide (p <= p0)) = false) := when_off (by omega) HX1.out z2; have HF0 : Hid (setF k p p0 en qn zs = 0) := by show _ = _; rw [<- HFQ.out]; exact hf0
   clear z1 z2 z3 z4 hf0 hq2; have c5 := P5.out.cell 1; have d5 := F5.out.cell 1; simp only [List.getElem?_toArray, List.getElem?_cons_zero, List.getElem?_cons_succ] at c5 d5; go_wp2
   go_loopw [4, 8] (fun _ j wr => ∃ m : Nat, m <= en /\ j = .int .i64 m /\ Hid (∀ i, 0 < i -> i < m -> zs.getD i 0 <= zs.getD (i - 1) 0) /\ Hid (0 < k -> ∀ i, i < m -> ys.getD i 0 <= zs.getD i 0) /\ ∃ q', wr = w5.drewN q') (fun _ j _ => en - (intOf j).toNat)
   case atStart => exact ⟨0, Nat.zero_le _, rfl, (fun i _ hi => by omega), (fun _ i hi => by omega), 0, rfl⟩
   case round =>
    obtain ⟨m, hm, rfl, hd, ho, q', rfl⟩ := hrel
    by_cases hlt : m < en
    rotate_left
    ·obtain rfl : m = en := by omega
     clear hlt; go_wp2; go_ret; exact ⟨0, rfl, ⟨fun h => absurd HF0.out h, fun _ _ _ => rfl, fun _ h => absurd ⟨hd.out, ho.out⟩ h⟩, below_drewN' HB5.out _⟩
    ·obtain ⟨zb, zo, hze, hz⟩ := (HZ.out.keep HB5.out).2 (by omega); have HC := lh hz; have h0 := hz m hlt; have c6 := c5; rw [hze] at c6; obtain ⟨x, hx⟩ : ∃ x, x = zs.getD m 0 := ⟨_, rfl⟩; rw [<- hx] at h0; have HX := lh hx; have pm : (m : Int) < (en : Int) := by omega
     clear hx hz hze c5; rcases Nat.eq_zero_or_pos m with rfl | hp
     ·rw [Nat.add_zero] at h0; have hfe := HFE.out HK0.out; obtain ⟨yb, yo, hye, hy⟩ := (HY.out.keep HB5.out).2 (by omega); have u0 := hy 0 (by omega); have d6 := d5; rw [hye] at d6; obtain ⟨u, hu⟩ : ∃ u, u = ys.getD 0 0 := ⟨_, rfl⟩; rw [<- hu] at u0; have HU := lh hu; have pf : (0 : Int) < (fn : Int) := by omega
      clear hu hy hye d5 hfe; rw [Nat.add_zero] at u0
      by_cases hxu : x < u
      ·have t2 : decide (x < u) = true := decide_eq_true hxu; have HXB := lh hxu; clear hxu; go_wp2
       go_quiet (fail)
       go_wp2
       go_ret
       exact ⟨21, rfl, ⟨fun h => absurd HF0.out h, fun _ _ h => absurd (h HK0.out 0 (by omega)) (by rw [<- HX.out, <- HU.out]; have := HXB.out; omega), fun _ _ => rfl⟩, below_drewN' (below_drewN' HB5.out _) _⟩
      ·have t2 : decide (x < u) = false := decide_eq_false hxu; have HXU := lh hxu; clear hxu; go_wp2
       go_quiet (fail)
       go_wp2
       go_roundw
       case rel =>
        refine ⟨1, by omega, by go_num, (fun i hi0 hi => ?_), (fun h i hi => ?_), _, rfl⟩
        ·omega
        ·by_cases him : i < 0
         ·exact ho.out h i him
         ·obtain rfl : i = 0 := by omega
          have := HXU.out; rw [<- HX.out, <- HU.out]; omega
       case measure => simp [intOf]; omega
     ·have g2 : decide (0 < m) = true := decide_eq_true hp; have g3 : decide ((0 : Int) < (m : Int)) = true := decide_eq_true (by omega); obtain ⟨q2, hpm⟩ : ∃ q2, q2 = m - 1 := ⟨_, rfl⟩; have h2 := HC.out q2 (by omega); obtain ⟨y, hy⟩ : ∃ y, y = zs.getD q2 0 := ⟨_, rfl⟩; rw [<- hy] at h2; have HY2 : Hid (y = zs.getD q2 0) := hy
      have hmx2 : ∀ ts t W, (Builtin.max_ ts t #[.int .i64 0, .int .i64 ((m : Int) - 1)]).run Tryz.prog W = .ok (.int .i64 (q2 : Int)) W := fun ts t W => by
       rw [run_max2']; congr 2; omega
      have pl : (q2 : Int) < (en : Int) := by omega
      have wj : IntKind.i64.wrap ((m : Int) - 1) = (m : Int) - 1 := IntWalk.i64_in _ (by omega); have HPM : Hid (m - 1 = q2) := hpm.symm; have hp0 : 0 < m := hp; clear hy hp hpm
      by_cases hxy : y < x
      ·have t1 : decide (y < x) = true := decide_eq_true hxy; have HXB := lh hxy; clear hxy; go_wp2
       go_quiet (fail)
       go_wp2
       go_ret
       exact ⟨21, rfl, ⟨fun h => absurd HF0.out h, fun _ h _ => absurd (h m hp0 (by omega)) (by rw [HPM.out, <- HX.out, <- HY2.out]; have := HXB.out; omega), fun _ _ => rfl⟩, below_drewN' (below_drewN' HB5.out _) _⟩
      ·have t1 : decide (y < x) = false := decide_eq_false hxy; have HXY := lh hxy; clear hxy; have hfe := HFE.out HK0.out; obtain ⟨yb, yo, hye, hy⟩ := (HY.out.keep HB5.out).2 (by omega); have u0 := hy m (by omega); have d6 := d5; rw [hye] at d6; obtain ⟨u, hu⟩ : ∃ u, u = ys.getD m 0 := ⟨_, rfl⟩; rw [<- hu] at u0; have HU := lh hu; have pf : (m : Int) < (fn : Int) := by omega
       clear hu hy hye d5 hfe
       by_cases hxu : x < u
       ·have t2 : decide (x < u) = true := decide_eq_true hxu; have HXB := lh hxu; clear hxu; go_wp2
        go_quiet (fail)
        go_wp2
        go_ret
        exact ⟨21, rfl, ⟨fun h => absurd HF0.out h, fun _ _ h => absurd (h HK0.out m (by omega)) (by rw [<- HX.out, <- HU.out]; have := HXB.out; omega), fun _ _ => rfl⟩, below_drewN' (below_drewN' HB5.out _) _⟩
       ·have t2 : decide (x < u) = false := decide_eq_false hxu; have HXU := lh hxu; clear hxu; go_wp2
        go_quiet (fail)
        go_wp2
        go_roundw
        case rel =>
         refine ⟨m + 1, by omega, by go_num, (fun i hi0 hi => ?_), (fun h i hi => ?_), _, rfl⟩
         ·by_cases him : i < m
          ·exact hd.out i hi0 him
          ·obtain rfl : i = m := by omega
           have := HXY.out; rw [HPM.out, <- HX.out, <- HY2.out]; omega
         ·by_cases him : i < m
          ·exact ho.out h i him
          ·obtain rfl : i = m := by omega
           have := HXU.out; rw [<- HX.out, <- HU.out]; omega
        case measure => simp [intOf]; omega
def GR.isN (N : Int) : GR := ⟨fun v _ => ∃ b : Int, v = .int .i64 b /\ b = N, fun h _ => h⟩
theorem refName_full (s : ByteArray) (w : World) (hs : s.size <= 140737488351232) :
  Calls Tryz.prog 100 #[.string s] w fun e w' => e = .returned (.int .i64 (nameE s)) /\ w' = w := by
 have HN := lh (fun W => refIsName_any s W hs)
 cases hv : nameB s
 ·have hr : nameE s = 8 := by unfold nameE; rw [if_neg (by rw [hv]; decide)]
  rw [hr]; rw [hv] at HN; clear hv hr
  go_enter Tryz.func100, Tryz.ntmps100
  go_wp2_with fail
  refine (HN.out w).mono ?_; rintro e w' ⟨rfl, rfl⟩
  go_wp2_with fail
  refine (refWhen_as (b := true) (x := 8) (a := 8) _ rfl).mono ?_; rintro e w2 ⟨rfl, rfl⟩; go_wp2; go_ret; exact ⟨rfl, rfl⟩
 ·have hr : nameE s = 0 := by unfold nameE; rw [if_pos hv]
  rw [hr]; rw [hv] at HN; clear hv hr
  go_enter Tryz.func100, Tryz.ntmps100
  go_wp2_with fail
  refine (HN.out w).mono ?_; rintro e w' ⟨rfl, rfl⟩
  go_wp2_with fail
  refine (refWhen_as (b := false) (x := 8) (a := 0) _ rfl).mono ?_; rintro e w2 ⟨rfl, rfl⟩; go_wp2; go_ret; exact ⟨rfl, rfl⟩
def GR.row (n : Nat) (T : TypeId) (cs : Array Value) : GR := ⟨fun v W => ∃ g, v = .slice (some ⟨g, 0, none⟩) n n /\ Blk W g T cs, fun ⟨g, e, h⟩ hE => ⟨g, e, h.below hE⟩⟩
end Go.Proofs.YtmafmebcgmegeaaGreatDoor
