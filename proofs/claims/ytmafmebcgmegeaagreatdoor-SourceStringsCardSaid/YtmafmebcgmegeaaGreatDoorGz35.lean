/- Part. -/
import Derived.Test.YtmafmebcgmegeaaGreatDoorGz1
import Derived.Test.YtmafmebcgmegeaaGreatDoorGz34
import Derived.Test.YtmafmebcgmegeaaGreatDoorGz10
import Derived.Test.YtmafmebcgmegeaaGreatDoorGz4
import Derived.Test.YtmafmebcgmegeaaGreatDoorGz14
namespace Go.Proofs.YtmafmebcgmegeaaGreatDoor
open Go.RowKit Go.Sort
theorem asc_iff (a : Int) (l : List Int) : Bell.asc a l = true ↔ ∀ i, i < l.length -> (a :: l).getD i 0 < (a :: l).getD (i + 1) 0 := by
 induction l generalizing a with
 | nil => simp [Bell.asc]
 | cons b l ih =>
   simp only [Bell.asc, Bool.and_eq_true, decide_eq_true_eq]; rw [ih]
   constructor
   ·rintro ⟨h1, h2⟩ i hi
    cases i with
    | zero => exact h1
    | succ i => exact h2 i (by simpa using hi)
   ·intro h; exact ⟨h 0 (by simp), fun i hi => h (i + 1) (by simpa using hi)⟩
theorem sqOrd {l : List Int} (hl : 0 < l.length) : (l.headD 0 = 0 /\ Bell.asc (l.headD 0) l.tail = true) ↔ (l.getD 0 0 = 0 /\ ∀ i, i + 1 < l.length -> l.getD i 0 < l.getD (i + 1) 0) := by
 cases l with
 | nil => simp at hl
 | cons a l =>
   show (a = 0 /\ Bell.asc a l = true) ↔ (a = 0 /\ _)
   rw [asc_iff]; exact ⟨fun h => ⟨h.1, fun i hi => h.2 i (by simpa using hi)⟩, fun h => ⟨h.1, fun i hi => h.2 i (by simpa using hi)⟩⟩
set_option maxHeartbeats 1000000 in
set_option maxRecDepth 100000 in
theorem checkSquares_any (A : Option Addr) (n c : Nat) (l : List Int) (w : World) (hl : IntsAt w A n l) (hn9 : n <= 140737488351232) (hcap : n <= c) (hc2 : c <= 9223372036854775807) :
  Calls Tryz.prog 113 #[.slice A n c] w fun e w' => e = .returned (.int .i64 (Bell.sqE l)) /\ Below w.heap.size w w' := by
 obtain ⟨C, hC⟩ : ∃ C, C = cntI n 8 := ⟨_, rfl⟩; obtain ⟨E, hE⟩ : ∃ E, E = firstInE (fun x => withinE x 0 100000000000) l := ⟨_, rfl⟩; obtain ⟨Z, hZ⟩ : ∃ Z, Z = firstE [C, E] := ⟨_, rfl⟩
 have hS : Bell.sqE l = if Z = 0 then (if l.headD 0 = 0 /\ Bell.asc (l.headD 0) l.tail then 0 else 11) else Z := by
  unfold Bell.sqE Bell.thenE; rw [bfirst, beach, cntE_cnt, hl.1, hZ, hC, hE]
  rfl
 obtain ⟨V, hV⟩ : ∃ V, V = Bell.sqE l := ⟨_, rfl⟩; rw [<- hV]; have HV : Hid (V = if Z = 0 then (if l.headD 0 = 0 /\ Bell.asc (l.headD 0) l.tail then 0 else 11) else Z) := hV.trans hS; have HL := lh hl; have HN := lh hl.1; have HC := lh hC; have HE := lh hE; have HZ := lh hZ; clear hl hC hE hZ hS hV
 go_enter Tryz.func113, Tryz.ntmps113
 go_wp2_with fail
 refine (countInt_any A n c 8 w).mono ?_; rw [<- HC.out]; rintro e w' ⟨rfl, rfl⟩
 go_wp2_with fail
 refine (firstIn_any 89 0 100000000000 A n c l w' hn9 enters_srcSquare srcSquare_st HL.out).mono ?_; rw [<- HE.out]; rintro e w2 ⟨rfl, rfl⟩
 go_wp2_with fail
 obtain ⟨w4, hw4⟩ : ∃ W, W = (w2.alloc (.cells #[.int .i64 C, .int .i64 E] 37)) := ⟨_, rfl⟩; rw [<- hw4]; have ES : Hid (Blk w4 (w2.heap.size) 37 #[.int .i64 C, .int .i64 E]) := by show Blk _ _ _ _; rw [hw4]; exact Blk.new _ _ _
 have hb : Below w2.heap.size w2 w4 := by rw [hw4]; exact ((Below.refl _ _).alloc (Nat.le_refl _) _)
 obtain ⟨ge, hge⟩ : ∃ g, g = w2.heap.size := ⟨_, rfl⟩; have HGw4 : Hid (ge = w2.heap.size) := hge; rw [<- hge] at ES
 try rw [<- hge]
 clear hw4 hge; clear HGw4; refine (first2 _ _ C E _ (ES.out.cell 0) (ES.out.cell 1)).mono ?_; rw [<- HZ.out]; rintro e w3 ⟨rfl, rfl⟩; clear ES
 by_cases h0 : Z = 0
 case neg =>
  have hr : V = Z := by rw [HV.out, if_neg h0]
  have HB := lh hb; clear hb; go_wp2; go_ret
  first | exact ⟨ret_int hr.symm, HB.out⟩ | exact ⟨ret_int rfl, HB.out⟩
 have hz := firstE_p (HZ.out.symm.trans h0); have hcn := cntI_zero (HC.out.symm.trans hz.1); have n1 : 0 < n := hcn.1; have n2 : n <= 8 := by omega
 have HV2 : Hid (((l.getD 0 0 = 0 /\ ∀ i, i + 1 < l.length -> l.getD i 0 < l.getD (i + 1) 0) -> V = 0) /\ (¬ (l.getD 0 0 = 0 /\ ∀ i, i + 1 < l.length -> l.getD i 0 < l.getD (i + 1) 0) -> V = 11)) := by
  refine ⟨fun h => ?_, fun h => ?_⟩
  ·rw [HV.out, if_pos h0, if_pos ((sqOrd (by rw [HN.out]; exact n1)).2 h)]
  ·rw [HV.out, if_pos h0, if_neg (fun h2 => h ((sqOrd (by rw [HN.out]; exact n1)).1 h2))]
 obtain ⟨b, off, rfl, hc⟩ := HL.out.2 n1
 have HC4 : Hid (∀ i, i < n -> w4.cell? ⟨b, off + i, none⟩ = some (.int .i64 (l.getD i 0))) := fun i hi => by
  rw [hb.cell (p := ⟨b, off + i, none⟩) (World.block_lt_of_cell? _ _ (hc i hi))]; exact hc i hi
 have HB := lh hb; subst h0; clear hb hz hcn hc HC HE HZ HL HV; obtain ⟨m, rfl⟩ : ∃ m, n = m + 1 := ⟨n - 1, by omega⟩
 have hsl : ∀ W, (Instr.slice 22 (.slice (some ⟨b, off, none⟩) (m + 1) c) (some (.int .i64 1)) none none).run Tryz.prog W = .ok (.slice (some ⟨b, if c = 1 then off else off + 1, none⟩) m (c - 1)) W := fun W => by
  rw [run_slice_l W _ _ _ _ (by kernel_rfl) .i64 _ (by omega) (by omega), show Tryz.prog.elem 22 = 3 by kernel_rfl, show (Go.sizeOf 3).run Tryz.prog W = .ok 1 W by kernel_rfl]; simp only [Result.andThen, sliced, Int.toNat_one, Option.map_some, Addr.add, Nat.mul_one]
  by_cases h1 : c = 1
  ·subst h1; simp
  ·simp [h1]
 obtain ⟨of2, hof⟩ : ∃ o, o = (if c = 1 then off else off + 1) := ⟨_, rfl⟩; have HOF : Hid (0 < m -> of2 = off + 1) := fun h => by rw [hof, if_neg (by omega)]
 rw [<- hof] at hsl; clear hof; have h0 := HC4.out 0 (by omega); rw [Nat.add_zero] at h0; obtain ⟨x0, hx0⟩ : ∃ x, x = l.getD 0 0 := ⟨_, rfl⟩; rw [<- hx0] at h0; have HX0 := lh hx0; clear hx0
 by_cases hz0 : x0 = 0
 case neg =>
  have hr : V = 11 := HV2.out.2 (fun h => hz0 (HX0.out.trans h.1)); have h1 : (x0 != 0) = true := by simp [hz0]
  go_wp2
  go_ret
  first | exact ⟨ret_int hr.symm, HB.out⟩ | exact ⟨ret_int rfl, HB.out⟩
 subst hz0; go_wp2; clear h0
 go_loop [4, 5, 22] (fun _ _ k => ∃ j : Nat, j <= m /\ k = .int .i64 j /\ Hid (∀ i, i < j -> l.getD i 0 < l.getD (i + 1) 0)) (fun _ _ k => m - (intOf k).toNat)
 case atStart => exact ⟨0, Nat.zero_le _, rfl, fun i hi => by omega⟩
 case round =>
  obtain ⟨j, hj, rfl, hup⟩ := hrel
  by_cases hlt : j < m
  ·have h0 := HC4.out j (by omega); have h1 := HC4.out (j + 1) (by omega); have ho := HOF.out (by omega); rw [show off + (j + 1) = of2 + j by omega] at h1; obtain ⟨x, hx⟩ : ∃ x, x = l.getD j 0 := ⟨_, rfl⟩; obtain ⟨y, hy⟩ : ∃ y, y = l.getD (j + 1) 0 := ⟨_, rfl⟩; rw [<- hx] at h0; rw [<- hy] at h1; have HXY : Hid (x = l.getD j 0 /\ y = l.getD (j + 1) 0) := ⟨hx, hy⟩; clear hx hy ho
   by_cases hxy : x < y
   ·have HUP2 : Hid (∀ i, i < j + 1 -> l.getD i 0 < l.getD (i + 1) 0) := fun i hi => by
     rcases Nat.lt_or_ge i j with q | q
     ·exact hup.out i q
     ·obtain rfl : i = j := by omega
      rw [<- HXY.out.1, <- HXY.out.2]; exact hxy
    go_wp2
    go_round
    case rel => exact ⟨j + 1, by omega, by go_num, HUP2.out⟩
    case measure => simp [intOf]; omega
   ·have hr : V = 11 := HV2.out.2 (fun h => hxy (by rw [HXY.out.1, HXY.out.2]; exact h.2 j (by rw [HN.out]; omega))); go_wp2; go_ret
    first | exact ⟨ret_int hr.symm, HB.out⟩ | exact ⟨ret_int rfl, HB.out⟩
  ·obtain rfl : j = m := by omega
   have hr : V = 0 := HV2.out.1 ⟨HX0.out.symm, fun i hi => hup.out i (by rw [HN.out] at hi; omega)⟩; go_wp2; go_ret
   first | exact ⟨ret_int hr.symm, HB.out⟩ | exact ⟨ret_int rfl, HB.out⟩
theorem rule_iff {prev l : List Int} : Bell.ruleOk (l.headD 0) prev l = true ↔ ∀ i, i < l.length -> prev.getD i 0 <= l.getD i 0 /\ l.getD i 0 <= l.getD (i - 1) 0 := by
 constructor
 ·intro h i hi; obtain ⟨r1, _, r3⟩ := Bell.ruleOk_at h; exact ⟨r1 i hi, r3 (i - 1) i (by omega) hi⟩
 ·intro h
  have hd : ∀ i j, i <= j -> j < l.length -> l.getD j 0 <= l.getD i 0 := by
   intro i j
   induction j with
   | zero => intro hij _; rw [show i = 0 by omega]; exact Int.le_refl _
   | succ j ih =>
     intro hij hj; rcases Nat.lt_or_ge i (j + 1) with q | q
     ·have h1 := ih (by omega) (by omega); have h2 := (h (j + 1) hj).2; rw [Nat.add_sub_cancel] at h2
      omega
     ·rw [show i = j + 1 by omega]; exact Int.le_refl _
  refine Bell.ruleOk_of (fun i hi => (h i hi).1) (fun i hi => ?_) hd; have h1 := hd 0 i (Nat.zero_le _) hi
  cases l with
  | nil => simp at hi
  | cons a l => exact h1
set_option maxHeartbeats 2000000 in
set_option maxRecDepth 100000 in
theorem settingCheck_any (p p0 : Int) (ea : Option Addr) (en ec : Nat) (fa : Option Addr) (fn fc : Nat) (zs ys : List Int) (w : World) (hz : IntsAt w ea en zs) (hy : IntsAt w fa fn ys) (hn : fn <= 8) (he9 : en <= 140737488351232) :
  Calls Tryz.prog 115 #[.agg #[.int .i64 p, .slice ea en ec], .agg #[.int .i64 p0, .slice fa fn fc]] w fun e w' => e = .returned (.int .i64 (Bell.setE fn p0 ys (p, zs))) /\ Below w.heap.size w w' := by
 obtain ⟨X1, hX1⟩ : ∃ x, x = withinE p 1 100 := ⟨_, rfl⟩; obtain ⟨X4, hX4⟩ : ∃ x, x = firstInE (fun x => withinE x 0 100000000) zs := ⟨_, rfl⟩; obtain ⟨V, hV⟩ : ∃ x, x = Bell.setE fn p0 ys (p, zs) := ⟨_, rfl⟩
 have HS : Hid (V = if X1 = 0 then (if p <= p0 then 11 else if en = fn then (if X4 = 0 then (if Bell.ruleOk (zs.headD 0) ys zs = true then 0 else 21) else X4) else 2) else X1) := by
  show _ = _
  rw [hV]; unfold Bell.setE Bell.thenE; rw [bfirst, beach, <- hX4, hz.1]
  show (if firstE [withinE p 1 100, if p <= p0 then 11 else 0, if en = fn then 0 else 2, X4] = 0 then _ else firstE [withinE p 1 100, if p <= p0 then 11 else 0, if en = fn then 0 else 2, X4]) = _
  rw [<- hX1]; simp only [firstE]
  by_cases h1 : X1 = 0
  ·by_cases h2 : p <= p0
   ·simp [h1, h2]
   ·by_cases h3 : en = fn
    ·by_cases h4 : X4 = 0
     ·simp [h1, h2, h3, h4]
     ·simp [h1, h2, h3, h4]
    ·simp [h1, h2, h3]
  ·simp [h1]
 have RI := rule_iff (prev := ys) (l := zs)
 have HK : Hid ((X1 ≠ 0 -> V = X1) /\ (X1 = 0 -> p <= p0 -> V = 11) /\ (X1 = 0 -> p0 < p -> en ≠ fn -> V = 2) /\ (X1 = 0 -> p0 < p -> en = fn -> X4 ≠ 0 -> V = X4) /\ (X1 = 0 -> p0 < p -> en = fn -> X4 = 0 -> (∀ i, i < zs.length -> ys.getD i 0 <= zs.getD i 0 /\ zs.getD i 0 <= zs.getD (i - 1) 0) -> V = 0) /\ (X1 = 0 -> p0 < p -> en = fn -> X4 = 0 -> ¬ (∀ i, i < zs.length -> ys.getD i 0 <= zs.getD i 0 /\ zs.getD i 0 <= zs.getD (i - 1) 0) -> V = 21)) := by
  refine ⟨fun h1 => ?_, fun h1 h2 => ?_, fun h1 h2 h3 => ?_, fun h1 h2 h3 h4 => ?_, fun h1 h2 h3 h4 h5 => ?_, fun h1 h2 h3 h4 h5 => ?_⟩
  ·rw [HS.out, if_neg h1]
  ·rw [HS.out, if_pos h1, if_pos h2]
  ·rw [HS.out, if_pos h1, if_neg (by omega), if_neg h3]
  ·rw [HS.out, if_pos h1, if_neg (by omega), if_pos h3, if_neg h4]
  ·rw [HS.out, if_pos h1, if_neg (by omega), if_pos h3, if_pos h4, if_pos (RI.2 h5)]
  ·rw [HS.out, if_pos h1, if_neg (by omega), if_pos h3, if_pos h4, if_neg (fun h => h5 (RI.1 h))]
 clear HS RI; rw [<- hV]; have HZ := lh hz; have HY := lh hy; have HZL := lh hz.1; have HX1 := lh hX1; have HX4 := lh hX4; clear hz hy hX1 hX4 hV
 go_enter Tryz.func115, Tryz.ntmps115
 go_upto_region 1 with fail
 obtain ⟨w1, hw1⟩ : ∃ W, W = ((w.alloc (.cells #[.int .i64 p, .slice ea en ec] 172)).alloc (.cells #[.int .i64 p0, .slice fa fn fc] 172)) := ⟨_, rfl⟩; rw [<- hw1]; have SS : Hid (Blk w1 (w.heap.size) 172 #[.int .i64 p, .slice ea en ec]) := by show Blk _ _ _ _; rw [hw1]; exact (Blk.new _ _ _).alloc _
 have SF : Hid (Blk w1 (w.heap.size + 1) 172 #[.int .i64 p0, .slice fa fn fc]) := by show Blk _ _ _ _; rw [hw1]; exact Blk.at_size _ _ (by simp)
 have hb : Below w.heap.size w w1 := by rw [hw1]; exact (((Below.refl _ _).alloc (Nat.le_refl _) _).alloc (by simp) _)
 obtain ⟨g, hg⟩ : ∃ g, g = w.heap.size := ⟨_, rfl⟩; obtain ⟨gf, hgf⟩ : ∃ g, g = w.heap.size + 1 := ⟨_, rfl⟩; have HGw1 : Hid (g = w.heap.size /\ gf = w.heap.size + 1) := ⟨hg, hgf⟩; rw [<- hgf] at SF
 try rw [<- hgf]
 rw [<- hg] at SS
 try rw [<- hg]
 clear hw1 hg hgf; have HZ1 := lh (HZ.out.keep hb); have HY1 := lh (HY.out.keep hb); have HB := lh hb; have S1 := SS.out; have F1 := SF.out; clear hb HZ HY HGw1 SS SF; have sc0 := S1.cell 0; have sf0 := S1.frozen 0; have sc1 := S1.cell 1; have sf1 := S1.frozen 1; simp only [List.getElem?_toArray, List.getElem?_cons_zero, List.getElem?_cons_succ] at sc0 sc1; clear S1; have fc0 := F1.cell 0; have ff0 := F1.frozen 0; have fc1 := F1.cell 1; have ff1 := F1.frozen 1; simp only [List.getElem?_toArray, List.getElem?_cons_zero, List.getElem?_cons_succ] at fc0 fc1; clear F1
 go_wp2_with fail
 refine (srcPower_st p w1).mono ?_; rw [<- HX1.out]; rintro e w' ⟨rfl, rfl⟩; obtain ⟨k1, k2, k3, k4, k5, k6⟩ := HK.out; have K1 := lh k1; have K2 := lh k2; have K3 := lh k3; have K4 := lh k4; have K5 := lh k5; have K6 := lh k6; clear k1 k2 k3 k4 k5 k6 HK
 by_cases h1 : X1 = 0
 case neg =>
  have hr : V = X1 := K1.out h1; go_wp2; go_ret
  first | exact ⟨ret_int hr.symm, HB.out⟩ | exact ⟨ret_int rfl, HB.out⟩
 by_cases h2 : p <= p0
 ·have hr : V = 11 := K2.out h1 h2; go_wp2; go_ret
  first | exact ⟨ret_int hr.symm, HB.out⟩ | exact ⟨ret_int rfl, HB.out⟩
 by_cases h3 : en = fn
 case neg =>
  have hr : V = 2 := K3.out h1 (by omega) h3; have h4 : ((en : Int) != (fn : Int)) = true := by simp; omega
  go_wp2
  go_ret
  first | exact ⟨ret_int hr.symm, HB.out⟩ | exact ⟨ret_int rfl, HB.out⟩
 have h22 : p0 < p := by omega
 have K45 : Hid ((X4 ≠ 0 -> V = X4) /\ (X4 = 0 -> (∀ i, i < zs.length -> ys.getD i 0 <= zs.getD i 0 /\ zs.getD i 0 <= zs.getD (i - 1) 0) -> V = 0) /\ (X4 = 0 -> ¬ (∀ i, i < zs.length -> ys.getD i 0 <= zs.getD i 0 /\ zs.getD i 0 <= zs.getD (i - 1) 0) -> V = 21)) := ⟨K4.out h1 h22 h3, K5.out h1 h22 h3, K6.out h1 h22 h3⟩; clear K1 K2 K3 K4 K5 K6; subst h3
 go_wp2_with fail
 refine (firstIn_any 174 0 100000000 ea en ec zs w' he9 enters_srcEmission srcEmission_st HZ1.out).mono ?_; rw [<- HX4.out]; rintro e w2 ⟨rfl, rfl⟩
 by_cases h4 : X4 = 0
 case neg =>
  have hr : V = X4 := K45.out.1 h4; go_wp2; go_ret
  first | exact ⟨ret_int hr.symm, HB.out⟩ | exact ⟨ret_int rfl, HB.out⟩
 have HV2 : Hid (((∀ i, i < zs.length -> ys.getD i 0 <= zs.getD i 0 /\ zs.getD i 0 <= zs.getD (i - 1) 0) -> V = 0) /\ (¬ (∀ i, i < zs.length -> ys.getD i 0 <= zs.getD i 0 /\ zs.getD i 0 <= zs.getD (i - 1) 0) -> V = 21)) := ⟨K45.out.2.1 h4, K45.out.2.2 h4⟩; clear HX1 HX4 K45; go_wp2
 go_loop [7, 8, 36] (fun _ _ k => ∃ j : Nat, j <= en /\ k = .int .i64 j /\ Hid (∀ i, i < j -> ys.getD i 0 <= zs.getD i 0 /\ zs.getD i 0 <= zs.getD (i - 1) 0)) (fun _ _ k => en - (intOf k).toNat)
 case atStart => exact ⟨0, Nat.zero_le _, rfl, fun i hi => by omega⟩
 case round =>
  obtain ⟨j, hj, rfl, hup⟩ := hrel
  by_cases hlt : j < en
  ·obtain ⟨eb, eo, rfl, he⟩ := HZ1.out.2 (by omega); obtain ⟨fb, fo, rfl, hf⟩ := HY1.out.2 (by omega); have c1 := he j hlt; have c2 := hf j hlt; have c3 := he (j - 1) (by omega)
   have hmx : ∀ ts t W, (Builtin.max_ ts t #[.int .i64 ((j : Int) - 1), .int .i64 0]).run Tryz.prog W = .ok (.int .i64 ((j - 1 : Nat) : Int)) W := fun ts t W => by
    rw [run_max2']; congr 2; omega
   obtain ⟨q, hq⟩ : ∃ q : Nat, q = j - 1 := ⟨_, rfl⟩; rw [<- hq] at c3 hmx; have hqn : q < en := by omega
   obtain ⟨x, hx⟩ : ∃ x, x = zs.getD j 0 := ⟨_, rfl⟩; obtain ⟨y, hy⟩ : ∃ y, y = ys.getD j 0 := ⟨_, rfl⟩; obtain ⟨z, hz⟩ : ∃ z, z = zs.getD q 0 := ⟨_, rfl⟩; have HXY : Hid (x = zs.getD j 0 /\ y = ys.getD j 0 /\ z = zs.getD (j - 1) 0) := ⟨hx, hy, by rw [hz, hq]⟩; rw [<- hx] at c1; rw [<- hy] at c2; rw [<- hz] at c3; clear he hf hq hx hy hz
   by_cases d1 : x < y
   ·have hr : V = 21 := HV2.out.2 (fun h => by have := (h j (by rw [HZL.out]; exact hlt)).1; rw [<- HXY.out.1, <- HXY.out.2.1] at this; omega); go_wp2; go_ret
    first | exact ⟨ret_int hr.symm, HB.out⟩ | exact ⟨ret_int rfl, HB.out⟩
   ·by_cases d2 : z < x
    ·have hr : V = 21 := HV2.out.2 (fun h => by have := (h j (by rw [HZL.out]; exact hlt)).2; rw [<- HXY.out.1, <- HXY.out.2.2] at this; omega); go_wp2; go_ret
     first | exact ⟨ret_int hr.symm, HB.out⟩ | exact ⟨ret_int rfl, HB.out⟩
    ·have HUP2 : Hid (∀ i, i < j + 1 -> ys.getD i 0 <= zs.getD i 0 /\ zs.getD i 0 <= zs.getD (i - 1) 0) := fun i hi => by
      rcases Nat.lt_or_ge i j with q | q
      ·exact hup.out i q
      ·obtain rfl : i = j := by omega
       rw [<- HXY.out.1, <- HXY.out.2.1, <- HXY.out.2.2]; omega
     go_wp2
     go_round
     case rel => exact ⟨j + 1, by omega, by go_num, HUP2.out⟩
     case measure => simp [intOf]; omega
  ·have hr : V = 0 := HV2.out.1 (fun i hi => hup.out i (by rw [HZL.out] at hi; omega)); go_wp2; go_ret
   first | exact ⟨ret_int hr.symm, HB.out⟩ | exact ⟨ret_int rfl, HB.out⟩
def setsFrom (s : Bell.Sets) (m k : Nat) : Int := Bell.setsE m (prevP s k) (prevE s m k) (s.drop k)
theorem setsFrom_end (s : Bell.Sets) (m : Nat) : setsFrom s m s.length = 0 := by unfold setsFrom; rw [List.drop_length]; rfl
theorem setsFrom_step {s : Bell.Sets} {m k : Nat} (hk : k < s.length) : setsFrom s m k = Bell.thenE (Bell.setE m (prevP s k) (prevE s m k) (Bell.ePow s k, (s.getD k (0, [])).2)) (setsFrom s m (k + 1)) := by
 unfold setsFrom; rw [List.drop_eq_getElem_cons hk]; have e : s[k] = s.getD k (0, []) := by rw [List.getD_eq_getElem?_getD, List.getElem?_eq_getElem hk]; rfl
 rw [e]; have e1 : prevP s (k + 1) = (s.getD k (0, [])).1 := by unfold prevP Bell.ePow; rw [if_neg (by omega), Nat.add_sub_cancel]
 have e2 : prevE s m (k + 1) = (s.getD k (0, [])).2 := by unfold prevE; rw [if_neg (by omega), Nat.add_sub_cancel]
 rw [e1, e2]
 rfl
theorem rty_dir {w : World} {cs : Array Value} {nm : ByteArray} {sh : List Int} {T : Bell.Ty} {sa qa ga : Option Addr} {sn sc qn qc gn gc : Nat} (h : RTy w cs nm sh T sa sn sc qa qn qc ga gn gc) {i : Nat} (hi : i < 8) : cs[2 + i]? = some (.int .i64 (T.direct.getD i 0)) := by
 rw [h.cells]
 match i, hi with
 | 0, _ => rfl
 | 1, _ => rfl
 | 2, _ => rfl
 | 3, _ => rfl
 | 4, _ => rfl
 | 5, _ => rfl
 | 6, _ => rfl
 | 7, _ => rfl
set_option maxHeartbeats 4000000 in
set_option maxRecDepth 100000 in
theorem CheckType_any {cs : Array Value} {nm : ByteArray} {sh : List Int} {T : Bell.Ty} {sa qa ga : Option Addr} {sn sc qn qc gn gc : Nat} (w : World) (hT : RTy w cs nm sh T sa sn sc qa qn qc ga gn gc) (hd8 : T.direct.length = 8) (hnm : nm.size <= 140737488351232) (hsn : sn <= 140737488351232) (hqn : qn <= 140737488351232) (hqc : qn <= qc /\ qc <= 9223372036854775807) (hen : ∀ k, k < gn -> ((T.sets.getD k (0, [])).2).length <= 140737488351232) :
  Calls Tryz.prog 32 #[.agg cs] w fun e w' => e = .returned (.int .i64 (Bell.tyE (nameE nm) sh T)) /\ Below w.heap.size w w' := by
 have HT := lh hT; have HD8 := lh hd8; have HEN := lh hen; obtain ⟨N1, hN1⟩ : ∃ x, x = nameE nm := ⟨_, rfl⟩; obtain ⟨N2, hN2⟩ : ∃ x, x = Bell.shE sh := ⟨_, rfl⟩; obtain ⟨N3, hN3⟩ : ∃ x, x = firstInE (fun x => withinE x 0 2000) T.direct := ⟨_, rfl⟩; obtain ⟨N4, hN4⟩ : ∃ x, x = withinE T.side 0 1000 := ⟨_, rfl⟩; obtain ⟨N5, hN5⟩ : ∃ x, x = Bell.sqE T.squares := ⟨_, rfl⟩; obtain ⟨N6, hN6⟩ : ∃ x, x = cntI gn 6 := ⟨_, rfl⟩; obtain ⟨Z, hZ⟩ : ∃ x, x = firstE [N1, N2, N3, N4, N5, N6] := ⟨_, rfl⟩; obtain ⟨V, hV⟩ : ∃ x, x = Bell.tyE (nameE nm) sh T := ⟨_, rfl⟩
 have HV : Hid ((Z ≠ 0 -> V = Z) /\ (Z = 0 -> V = setsFrom T.sets T.squares.length 0)) := by
  have e : Bell.firstE [nameE nm, Bell.shE sh, Bell.eachE (fun n => Bell.inR n 0 2000) T.direct, Bell.inR T.side 0 1000, Bell.sqE T.squares, Bell.cntE T.sets.length 6] = Z := by
   rw [bfirst, beach, cntE_cnt, hT.sets.1, hZ, hN1, hN2, hN3, hN4, hN5, hN6]
   rfl
  refine ⟨fun h => ?_, fun h => ?_⟩
  ·rw [hV]; unfold Bell.tyE Bell.thenE; rw [e, if_neg h]
  ·rw [hV]; unfold Bell.tyE Bell.thenE; rw [e, if_pos h]; rfl
 rw [<- hV]; have HZ := lh hZ; have HN1 := lh hN1; have HN2 := lh hN2; have HN3 := lh hN3; have HN4 := lh hN4; have HN5 := lh hN5; have HN6 := lh hN6; clear hT hd8 hen hN1 hN2 hN3 hN4 hN5 hN6 hZ hV
 go_enter Tryz.func32, Tryz.ntmps32
 go_upto_region 1 with fail
 obtain ⟨w1, hw1⟩ : ∃ W, W = w.alloc (.cells cs 42) := ⟨_, rfl⟩; rw [<- hw1]; have T1 : Hid (Blk w1 w.heap.size 42 cs) := by show Blk _ _ _ _; rw [hw1]; exact Blk.new _ _ _
 have HB1 : Hid (Below w.heap.size w w1) := by show Below _ _ _; rw [hw1]; exact (Below.refl _ _).alloc (Nat.le_refl _) _
 obtain ⟨g, hg⟩ : ∃ g, g = w.heap.size := ⟨_, rfl⟩; rw [<- hg] at T1 ⊢; have HGs := lh hg; clear hw1 hg; have bw : ∀ d os, Below w1.heap.size w1 (grow (redrawn w1 d) os) := fun d os => below_regrown w1 d os
 have kp : ∀ d os, Below w.heap.size w (grow (redrawn w1 d) os) := fun d os => HB1.out.trans ((bw d os).mono HB1.out.size)
 have t0 := fun d os => cell_regrown ((T1.out.cell 0).trans HT.out.c0) d os
 have t1 := fun d os => cell_regrown ((T1.out.cell 1).trans HT.out.c1) d os
 have t10 := fun d os => cell_regrown ((T1.out.cell 10).trans HT.out.c10) d os
 have t11 := fun d os => cell_regrown ((T1.out.cell 11).trans HT.out.c11) d os
 have t12 := fun d os => cell_regrown ((T1.out.cell 12).trans HT.out.c12) d os
 have hdirs : ∀ d os, IntsAt (grow (redrawn w1 d) os) (some ⟨g, 2, none⟩) 8 T.direct := fun d os => ⟨HD8.out, fun _ => ⟨g, 2, rfl, fun i hi => cell_regrown ((T1.out.cell (2 + i)).trans (rty_dir HT.out hi)) d os⟩⟩
 have c1 := fun d os => Calls.regrown_of (srcName_any nm (grow (redrawn w1 d) os) hnm)
 have c2 := fun d os => Calls.regrown_of (checkShares_any sa sn sc sh (grow (redrawn w1 d) os) (HT.out.shares.keep (kp d os)) hsn)
 have c3 := fun d os => Calls.regrown_of (Calls.grow_same (firstIn_any 111 0 2000 (some ⟨g, 2, none⟩) 8 8 T.direct (grow (redrawn w1 d) os) (by omega) enters_srcDirect srcDirect_st (hdirs d os)))
 have c4 := fun d os => Calls.regrown_of (Calls.grow_same (srcFactor_st T.side (grow (redrawn w1 d) os)))
 have c5 := fun d os => Calls.regrown_of (checkSquares_any qa qn qc T.squares (grow (redrawn w1 d) os) (HT.out.squares.keep (kp d os)) hqn hqc.1 hqc.2)
 have c6 := fun d os => Calls.regrown_of (Calls.grow_same (countSets_any ga gn gc 6 (grow (redrawn w1 d) os)))
 simp only [<- HN1.out] at c1; simp only [<- HN2.out] at c2; simp only [<- HN3.out] at c3; simp only [<- HN4.out] at c4; simp only [<- HN5.out] at c5; simp only [<- HN6.out] at c6; refine wp_region_below_tail 18 (by kernel_rfl) (by kernel_rfl) ?_; simp only [List.take_succ_cons, List.take_zero, List.drop_succ_cons, List.drop_zero]
 iterate 2 (quiet_step (fail))
 quiet_step (exact c1 _ _)
 iterate 2 (quiet_step (fail))
 quiet_step (exact c2 _ _)
 iterate 2 (quiet_step (fail))
 quiet_step (exact c3 _ _)
 iterate 2 (quiet_step (fail))
 quiet_step (exact c4 _ _)
 iterate 2 (quiet_step (fail))
 quiet_step (exact c5 _ _)
 iterate 2 (quiet_step (fail))
 quiet_step (exact c6 _ _)
 refine wpQuiet_nil ?_; intro w2 hw'; obtain ⟨⟨dq, osq⟩, hw''⟩ := hw'; have hb2 := bw dq osq; rw [<- hw''] at hb2; have T2 := lh (T1.out.below hb2); have HB2 := lh (HB1.out.trans (hb2.mono HB1.out.size)); clear hw'' hb2 t0 t1 t10 t11 t12 hdirs c1 c2 c3 c4 c5 c6 bw kp T1 HB1
 go_wp2_with fail
 refine (first_any w2.heap.size 6 6 [N1, N2, N3, N4, N5, N6] _ rfl (by omega) (fun i hi => by
  match i, hi with
  | 0, _ => go_simp
  | 1, _ => go_simp
  | 2, _ => go_simp
  | 3, _ => go_simp
  | 4, _ => go_simp
  | 5, _ => go_simp)).mono ?_
 rw [<- HZ.out]; rintro e w3 ⟨rfl, rfl⟩; obtain ⟨w4, hw4⟩ : ∃ W, W = w2.alloc (.cells #[.int .i64 N1, .int .i64 N2, .int .i64 N3, .int .i64 N4, .int .i64 N5, .int .i64 N6] 37) := ⟨_, rfl⟩; rw [<- hw4]; have hb4 : Below w2.heap.size w2 w4 := by rw [hw4]; exact (Below.refl _ _).alloc (Nat.le_refl _) _
 have T4 := lh (T2.out.below hb4); have HB4 := lh (HB2.out.trans (hb4.mono HB2.out.size)); clear hw4 hb4 T2 HB2
 by_cases hz0 : Z = 0
 case neg =>
  have hr : V = Z := HV.out.1 hz0; go_wp2; go_ret
  first | exact ⟨ret_int hr.symm, HB4.out⟩ | exact ⟨ret_int rfl, HB4.out⟩
 have HV2 := lh (HV.out.2 hz0); have hall := fun x hx => firstE_zero (HZ.out.symm.trans hz0) x hx
 have hc6 := cntI_zero (HN6.out.symm.trans (hall N6 (by simp))); have hsq := hall N5 (by simp)
 have hqn1 : qn <= 8 /\ 0 < qn := by
  have h := HN5.out.symm.trans hsq; unfold Bell.sqE at h; rw [Bell.thenE_zero, Bell.firstE_zero] at h; have h2 := Bell.cntE_zero.1 (h.1 (Bell.cntE T.squares.length 8) (by simp)); rw [HT.out.squares.1] at h2; exact ⟨h2.2, h2.1⟩
 obtain ⟨hqn1, hqn2⟩ := hqn1; have hgn1 : gn <= 6 := by omega
 have hgn2 : 0 < gn := hc6.1; obtain ⟨gb, go, rfl, hsets⟩ := HT.out.sets.2 hgn2; have HSE := lh hsets; clear hall hc6 hsq HN1 HN2 HN3 HN4 HN5 HN6 HV hsets; subst hz0; clear HZ; have t11 := (T4.out.cell 11).trans HT.out.c11; obtain ⟨i0, hi, hz0, hz1, hz2⟩ := info_parts infoInt
 go_upto_region 5 with (at_make; refine wpList_make_full _ rfl _ _ 22 rfl w4.heap.size 3 i0 (.int .i64 0) 1 Tryz.underlying22 hi hz0 hz1 _ _ _ _ qn rfl rfl rfl rfl (by rw [hz2]; omega) (by unfold maxLen; omega) (Nat.le_refl _) ?_; intro w5 hown hg1)
 have hb5 : Below w4.heap.size w4 w5 := Below.grown (Below.refl _ _) hg1 (Nat.le_refl _) (fun k hk => by cases hk); rw [made_zero] at hown; have hO : OwnI w5 w4.heap.size (.slice (some ⟨w4.heap.size, 0, none⟩) qn qn) (List.replicate qn (0 : Int)) := by unfold OwnI; rw [List.length_replicate]; exact hown
 have hI5 := hO.at_; obtain ⟨w6, hw6⟩ : ∃ W, W = w5.alloc (.cells #[.int .i64 0, .slice (some ⟨w4.heap.size, 0, none⟩) qn qn] 172) := ⟨_, rfl⟩; rw [<- hw6]; have hb6 : Below w5.heap.size w5 w6 := by rw [hw6]; exact (Below.refl _ _).alloc (Nat.le_refl _) _
 have S6 : Hid (Blk w6 w5.heap.size 172 #[.int .i64 (prevP T.sets 0), .slice (some ⟨w4.heap.size, 0, none⟩) qn qn]) := by show Blk _ _ _ _; rw [hw6]; exact Blk.new _ _ _
 have HI6 : Hid (IntsAt w6 (some ⟨w4.heap.size, 0, none⟩) qn (prevE T.sets T.squares.length 0)) := by
  show IntsAt _ _ _ _
  have : prevE T.sets T.squares.length 0 = List.replicate qn (0 : Int) := by unfold prevE; rw [if_pos rfl, HT.out.squares.1]
  rw [this]; exact hI5.keep hb6
 have hb46 := hb5.trans (hb6.mono hb5.size); have T6 := lh (T4.out.below hb46); have HB6 := lh (HB4.out.trans (hb46.mono HB4.out.size))
 have hgs : Hid (w.heap.size + 1 <= w5.heap.size /\ g < w5.heap.size) := by
  have h1 := lt_of_block T4.out; have h2 := hb5.size; have h3 := HGs.out; show _ /\ _; omega
 obtain ⟨g4, hg4⟩ : ∃ x, x = w4.heap.size := ⟨_, rfl⟩; obtain ⟨gs, hgs2⟩ : ∃ x, x = w5.heap.size := ⟨_, rfl⟩; rw [<- hg4, <- hgs2] at S6 ⊢; rw [<- hg4] at HI6; rw [<- hgs2] at hgs; clear hw6 hown hg1 hO hI5 hb5 hb6 hb46 T4 HB4 t11 hg4 hgs2 hi hz0 hz1 hz2; have t12 := (T6.out.cell 12).trans HT.out.c12; go_wp2; clear t12
 go_loopw [6, 7, 39] (fun _ _ k wr => ∃ j : Nat, j <= gn /\ k = .int .i64 j /\ Hid (V = setsFrom T.sets T.squares.length j) /\ ∃ fa fc, Hid (Blk wr gs 172 #[.int .i64 (prevP T.sets j), .slice fa qn fc]) /\ Hid (IntsAt wr fa qn (prevE T.sets T.squares.length j)) /\ Hid (Below w.heap.size w wr)) (fun _ _ k _ => gn - (intOf k).toNat)
 case atStart => exact ⟨0, Nat.zero_le _, rfl, HV2.out, _, _, S6, HI6, HB6⟩
 case round =>
  obtain ⟨j, hj, rfl, hvj, fa, fc, hs, hi, hb⟩ := hrel
  by_cases hlt : j < gn
  ·obtain ⟨ea, en, ec, k1, k2, k3⟩ := HSE.out.2 j hlt; have kc : ∀ {x : Addr} {v : Value}, w.cell? x = some v -> wr.cell? x = some v := fun {x v} hc => by rw [hb.out.cell (World.block_lt_of_cell? _ _ hc)]; exact hc
   have h1 := kc k1; have h2 := kc k2; have h3 := k3.keep hb.out; have K3 := lh k3; clear k1 k2 k3 kc; have hst := setsFrom_step (m := T.squares.length) (s := T.sets) (k := j) (by rw [HSE.out.1]; exact hlt); rw [HT.out.squares.1] at hst; have hlz := HEN.out j hlt; obtain ⟨p, hp⟩ : ∃ p, p = Bell.ePow T.sets j := ⟨_, rfl⟩; obtain ⟨zs, hzs⟩ : ∃ z, z = (T.sets.getD j (0, [])).2 := ⟨_, rfl⟩; obtain ⟨p0, hp0⟩ : ∃ p, p = prevP T.sets j := ⟨_, rfl⟩; obtain ⟨ys, hys⟩ : ∃ z, z = prevE T.sets T.squares.length j := ⟨_, rfl⟩; rw [HT.out.squares.1] at hys hvj; rw [<- hp, <- hzs, <- hp0, <- hys] at hst; rw [<- hzs] at hlz; have hze : en <= 140737488351232 := by rw [<- h3.1, <- hzs]; exact hlz
   have HVJ := lh (hvj.out.trans hst); rw [<- hp] at h1; rw [<- hzs] at h3 K3; rw [<- hp0] at hs; rw [HT.out.squares.1] at hi; rw [<- hys] at hi; have H3 := lh h3; have HP := lh hp; have HZS := lh hzs; have hs0 := hs.out.cell 0; have hs1 := hs.out.cell 1; simp only [List.getElem?_toArray, List.getElem?_cons_zero, List.getElem?_cons_succ] at hs0 hs1; clear hp hzs hp0 hys h3 hst hlz hvj
   go_upto_region 8 with fail
   obtain ⟨w7, hw7⟩ : ∃ W, W = wr.alloc (.cells #[.int .i64 p, .slice ea en ec] 172) := ⟨_, rfl⟩; rw [<- hw7]; have hb7 : Below wr.heap.size wr w7 := by rw [hw7]; exact (Below.refl _ _).alloc (Nat.le_refl _) _
   have P7 : Hid (Blk w7 wr.heap.size 172 #[.int .i64 p, .slice ea en ec]) := by show Blk _ _ _ _; rw [hw7]; exact Blk.new _ _ _
   have S7 := lh (hs.out.below hb7); have I7 := lh (hi.out.keep hb7); have J7 := lh (H3.out.keep hb7); have HB7 := lh (hb.out.trans (hb7.mono hb.out.size)); obtain ⟨gp, hgp⟩ : ∃ x, x = wr.heap.size := ⟨_, rfl⟩; rw [<- hgp] at P7 ⊢; clear hw7 hb7 h1 h2 hs0 hs1 hgp; have hs0 := S7.out.cell 0; have hs1 := S7.out.cell 1; have p0' := P7.out.cell 0; have p1' := P7.out.cell 1; simp only [List.getElem?_toArray, List.getElem?_cons_zero, List.getElem?_cons_succ] at hs0 hs1 p0' p1'
   go_wp2_with fail
   obtain ⟨X, hX⟩ : ∃ x, x = Bell.setE qn p0 ys (p, zs) := ⟨_, rfl⟩; have HX := lh hX; refine (settingCheck_any p p0 ea en ec fa qn fc zs ys w7 J7.out I7.out hqn1 hze).mono ?_; rw [<- hX]; clear hX; rintro e w8 ⟨rfl, hb8⟩; have P8 := lh (P7.out.below hb8); have S8 := lh (S7.out.below hb8); have J8 := lh (J7.out.keep hb8); have HB8 := lh (HB7.out.trans (hb8.mono HB7.out.size)); clear hb8 hs0 hs1 p0' p1' P7 S7 I7 J7 HB7
   by_cases hx0 : X = 0
   case neg =>
    have hr : V = X := by rw [HVJ.out, <- HX.out, Bell.thenE, if_neg hx0]
    go_wp2
    go_ret
    first | exact ⟨ret_int hr.symm, HB8.out⟩ | exact ⟨ret_int rfl, HB8.out⟩
   have hlen : en = qn := by
    have h := (Bell.setE_zero (HX.out.symm.trans hx0)).2.2.1; rw [<- J8.out.1]; exact h
   have HLN := lh hlen; have HVN : Hid (V = setsFrom T.sets qn (j + 1)) := by show _ = _; rw [HVJ.out, <- HX.out, Bell.thenE, if_pos hx0]
   subst hx0; clear hlen HVJ HX; have p0' := P8.out.cell 0; have p1' := P8.out.cell 1; simp only [List.getElem?_toArray, List.getElem?_cons_zero, List.getElem?_cons_succ] at p0' p1'
   go_wp2_with (refine wpList_store_row rfl 172 _ _ rfl gs #[.int .i64 p, .slice ea en ec] rfl rfl 172 _ S8.out (by kernel_rfl) rfl (by simp [Value.oneCell']) ?_)
   go_roundw
   case rel =>
    have e1 : prevP T.sets (j + 1) = p := by unfold prevP; rw [if_neg (by omega), HP.out, Nat.add_sub_cancel]
    have e2 : prevE T.sets T.squares.length (j + 1) = zs := by unfold prevE; rw [if_neg (by omega), HZS.out, Nat.add_sub_cancel]
    refine ⟨j + 1, by omega, by go_num, by rw [HT.out.squares.1]; exact HVN.out, ea, ec, ?_, ?_, ?_⟩
    ·rw [e1, <- HLN.out]; exact S8.out.setRow _
    ·rw [e2, <- HLN.out]; exact K3.out.keep (HB8.out.setRow' (by have := hgs.out; omega) _)
    ·exact HB8.out.setRow' (by have := hgs.out; omega) _
   case measure => simp [intOf]; omega
  ·obtain rfl : j = gn := by omega
   have hr : V = 0 := by rw [hvj.out, <- HSE.out.1]; exact setsFrom_end _ _
   go_wp2
   go_ret
   first | exact ⟨ret_int hr.symm, hb.out⟩ | exact ⟨ret_int rfl, hb.out⟩
end Go.Proofs.YtmafmebcgmegeaaGreatDoor
