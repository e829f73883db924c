/- Texts Xt Xu of the proof. -/
import Derived.Test.YtmafmebcgmegeaaGreatDoorEx12
import Derived.Test.YtmafmebcgmegeaaGreatDoorEx18
import Derived.Test.YtmafmebcgmegeaaGreatDoorEx5
namespace Go.Proofs.YtmafmebcgmegeaaGreatDoor
open Go.RowKit Go.Sort
theorem bfirst (l : List Int) : Bell.firstE l = firstE l := by
  induction l with
  | nil => rfl
  | cons a l ih => simp only [Bell.firstE, firstE, ih]
theorem beach (lo hi : Int) (l : List Int) : Bell.eachE (fun n => Bell.inR n lo hi) l = firstInE (fun x => withinE x lo hi) l := by
  unfold Bell.eachE firstInE
  rw [bfirst]
  rfl
def cntI (n : Nat) (limit : Int) : Int := if n = 0 then 12 else atMostE n limit
theorem cntE_cnt (n k : Nat) : Bell.cntE n k = cntI n k := by
  unfold Bell.cntE cntI atMostE
  split
  · rfl
  · by_cases h : k < n
    · rw [if_pos h, if_pos (by omega)]
    · rw [if_neg h, if_neg (by omega)]
theorem countInt_any (A : Option Addr) (n c : Nat) (limit : Int) (w : World) :
    Calls Tryz.prog 172 #[.slice A n c, .int .i64 limit] w fun e w' => e = .returned (.int .i64 (cntI n limit)) ∧ w' = w := by
  by_cases h0 : n = 0
  · subst h0
    have hr : cntI 0 limit = 12 := rfl
    rw [hr]; clear hr
    go_enter Tryz.func172, Tryz.ntmps172
    go_wp2
    go_ret
    exact ⟨rfl, rfl⟩
  · have h2 : ((n : Int) == 0) = false := by simp; omega
    have hr : cntI n limit = atMostE n limit := by unfold cntI; rw [if_neg h0]
    rw [hr]
    obtain ⟨E, hE⟩ : ∃ E, E = atMostE n limit := ⟨_, rfl⟩
    rw [← hE]
    have HE := Lib.hid hE
    clear hr hE h0
    go_enter Tryz.func172, Tryz.ntmps172
    go_wp2_with fail
    refine (atMost_int A n c limit w).mono ?_
    rw [← HE.out]
    rintro e w' ⟨rfl, rfl⟩
    go_wp2
    go_ret
    exact ⟨rfl, rfl⟩
theorem countSets_any (A : Option Addr) (n c : Nat) (limit : Int) (w : World) :
    Calls Tryz.prog 114 #[.slice A n c, .int .i64 limit] w fun e w' => e = .returned (.int .i64 (cntI n limit)) ∧ w' = w := by
  by_cases h0 : n = 0
  · subst h0
    have hr : cntI 0 limit = 12 := rfl
    rw [hr]; clear hr
    go_enter Tryz.func114, Tryz.ntmps114
    go_wp2
    go_ret
    exact ⟨rfl, rfl⟩
  · have h2 : ((n : Int) == 0) = false := by simp; omega
    by_cases h : limit < (n : Int)
    · have hr : cntI n limit = 5 := by unfold cntI atMostE; rw [if_neg h0, if_pos h]
      rw [hr]
      have HM : Hid (∀ W, Calls Tryz.prog 173 #[.slice A n c, .int .i64 limit] W fun e w' => e = .returned (.int .i64 5) ∧ w' = W) := fun W => by
        clear hr h0 h2
        go_enter Tryz.func173, Tryz.ntmps173
        go_wp2
        go_ret
        exact ⟨rfl, rfl⟩
      clear hr h0 h
      go_enter Tryz.func114, Tryz.ntmps114
      go_wp2_with fail
      refine (HM.out w).mono ?_
      rintro e w' ⟨rfl, rfl⟩
      go_wp2
      go_ret
      exact ⟨rfl, rfl⟩
    · have hr : cntI n limit = 0 := by unfold cntI atMostE; rw [if_neg h0, if_neg h]
      rw [hr]
      exact countSets_ok A n c limit w (by omega) (by omega)
theorem firstIn_any (F : FuncId) (lo hi : Int) (A : Option Addr) (n c : Nat) (zs : List Int) (w : World) (hn : n ≤ 140737488351232)
    (hE : ∀ (args : Array Value) (W : World), (callFunc F args).run Tryz.prog W = .ok (.enter F args) W)
    (hF : ∀ (x : Int) (W : World), Calls Tryz.prog F #[.int .i64 x] W fun e w' => e = .returned (.int .i64 (withinE x lo hi)) ∧ w' = W)
    (hz : IntsAt w A n zs) :
    Calls Tryz.prog 110 #[.slice A n c, .func (.func F) #[] #[]] w fun e w' => e = .returned (.int .i64 (firstInE (fun x => withinE x lo hi) zs)) ∧ w' = w := by
  refine (firstIn_int F (fun x => withinE x lo hi) A n c zs w hn hE (fun x W => (hF x W).mono (fun _ _ h => ⟨h.1, h.2.symm⟩)) hz).mono ?_
  exact fun _ _ h => ⟨h.1, h.2.symm⟩
theorem firstE_p {x y : Int} (h : firstE [x, y] = 0) : x = 0 ∧ y = 0 := ⟨firstE_zero h x (by simp), firstE_zero h y (by simp)⟩
theorem cntI_zero {n : Nat} {k : Int} (h : cntI n k = 0) : 0 < n ∧ (n : Int) ≤ k := by
  unfold cntI at h
  split at h
  · exact absurd h (by decide)
  · unfold atMostE at h
    split at h
    · exact absurd h (by decide)
    · omega
theorem firstInE_rng {lo hi : Int} {l : List Int} (h : firstInE (fun x => withinE x lo hi) l = 0) : ∀ x, x ∈ l → lo ≤ x ∧ x ≤ hi := by
  rw [← beach] at h
  exact fun x hx => Bell.inR_zero.1 (Bell.eachE_zero.1 h x hx)
set_option maxHeartbeats 1000000 in
set_option maxRecDepth 100000 in
theorem checkShares_any (A : Option Addr) (n c : Nat) (l : List Int) (w : World) (hl : IntsAt w A n l) (hn9 : n ≤ 140737488351232) :
    Calls Tryz.prog 109 #[.slice A n c] w fun e w' => e = .returned (.int .i64 (Bell.shE l)) ∧ Below w.heap.size w w' := by
  obtain ⟨C, hC⟩ : ∃ C, C = cntI n 8 := ⟨_, rfl⟩
  obtain ⟨E, hE⟩ : ∃ E, E = firstInE (fun x => withinE x 0 1000) l := ⟨_, rfl⟩
  obtain ⟨Z, hZ⟩ : ∃ Z, Z = firstE [C, E] := ⟨_, rfl⟩
  have hS : Bell.shE l = if Z = 0 then (if l.sum = 1000 then 0 else 1) else Z := by
    unfold Bell.shE Bell.thenE
    rw [bfirst, beach, cntE_cnt, hl.1, hZ, hC, hE]
    rfl
  obtain ⟨V, hV⟩ : ∃ V, V = Bell.shE l := ⟨_, rfl⟩
  rw [← hV]
  have HV : Hid (V = if Z = 0 then (if l.sum = 1000 then 0 else 1) else Z) := hV.trans hS
  have HL := Lib.hid hl
  have HN := Lib.hid hl.1
  have HC := Lib.hid hC
  have HE := Lib.hid hE
  have HZ := Lib.hid hZ
  clear hl hC hE hZ hS hV
  go_enter Tryz.func109, Tryz.ntmps109
  go_wp2_with fail
  refine (countInt_any A n c 8 w).mono ?_
  rw [← HC.out]
  rintro e w' ⟨rfl, rfl⟩
  go_wp2_with fail
  refine (firstIn_any 112 0 1000 A n c l w' hn9 enters_srcFactor srcFactor_st HL.out).mono ?_
  rw [← HE.out]
  rintro e w2 ⟨rfl, rfl⟩
  go_wp2_with fail
  obtain ⟨w4, hw4⟩ : ∃ W, W = (w2.alloc (.cells #[.int .i64 C, .int .i64 E] 37)) := ⟨_, rfl⟩
  rw [← hw4]
  have ES : Hid (Blk w4 (w2.heap.size) 37 #[.int .i64 C, .int .i64 E]) := by show Blk _ _ _ _; rw [hw4]; exact Blk.new _ _ _
  have hb : Below w2.heap.size w2 w4 := by rw [hw4]; exact ((Below.refl _ _).alloc (Nat.le_refl _) _)
  obtain ⟨ge, hge⟩ : ∃ g, g = w2.heap.size := ⟨_, rfl⟩
  have HGw4 : Hid (ge = w2.heap.size) := hge
  rw [← hge] at ES
  try rw [← hge]
  clear hw4 hge
  clear HGw4
  refine (first2 _ _ C E _ (ES.out.cell 0) (ES.out.cell 1)).mono ?_
  rw [← HZ.out]
  rintro e w3 ⟨rfl, rfl⟩
  clear ES
  by_cases h0 : Z = 0
  case neg =>
    have hr : V = Z := by rw [HV.out, if_neg h0]
    have HB := Lib.hid hb
    clear hb
    go_wp2
    go_ret
    first | exact ⟨ret_int hr.symm, HB.out⟩ | exact ⟨ret_int rfl, HB.out⟩
  have hz := firstE_p (HZ.out.symm.trans h0)
  have hcn := cntI_zero (HC.out.symm.trans hz.1)
  have hrg := firstInE_rng (HE.out.symm.trans hz.2)
  have HRG := Lib.hid hrg
  have n1 : 0 < n := hcn.1
  have n2 : n ≤ 8 := by omega
  have HV2 : Hid (V = if l.sum = 1000 then 0 else 1) := by show _ = _; rw [HV.out, if_pos h0]
  obtain ⟨b, off, rfl, hc⟩ := HL.out.2 n1
  have HC4 : Hid (∀ i, i < n → w4.cell? ⟨b, off + i, none⟩ = some (.int .i64 (l.getD i 0))) := fun i hi => by
    rw [hb.cell (p := ⟨b, off + i, none⟩) (World.block_lt_of_cell? _ _ (hc i hi))]; exact hc i hi
  have HB := Lib.hid hb
  subst h0
  clear hb hz hcn hrg hc HC HE HZ HL HV
  go_wp2
  go_loop [4, 6, 18] (fun s _ k => ∃ j : Nat, j ≤ n ∧ k = .int .i64 j ∧ s = .int .i64 (1000 - sumL (l.take j))) (fun _ _ k => n - (intOf k).toNat)
  case atStart => exact ⟨0, Nat.zero_le _, rfl, rfl⟩
  case round =>
    obtain ⟨j, hj, rfl, rfl⟩ := hrel
    have hv : ∀ i, i < l.length → 0 ≤ l.getD i 0 ∧ l.getD i 0 ≤ 100000000000000 := fun i hi => by have := HRG.out _ (Bell.getD_mem hi); omega
    by_cases hlt : j < n
    · have h0 := HC4.out j hlt
      have b1 := sumL_bd l hv j (by rw [HN.out]; omega)
      have b2 := sumL_bd l hv (j + 1) (by rw [HN.out]; omega)
      have HS := Lib.hid (sumL_succ l j (by rw [HN.out]; exact hlt))
      have b4 := HRG.out _ (Bell.getD_mem (show j < l.length by rw [HN.out]; exact hlt))
      rw [HS.out] at b2
      obtain ⟨x, hx⟩ : ∃ x, x = l.getD j 0 := ⟨_, rfl⟩
      obtain ⟨s, hs⟩ : ∃ s, s = sumL (l.take j) := ⟨_, rfl⟩
      rw [← hx] at h0 b2 b4 HS
      rw [← hs] at b1 b2 HS ⊢
      obtain ⟨b1, b1'⟩ := b1
      obtain ⟨b4, b4'⟩ := b4
      obtain ⟨b2, b2'⟩ := b2
      clear hx hs hv
      go_wp2
      go_round
      case rel => exact ⟨j + 1, by omega, by go_num, by rw [HS.out]; go_num⟩
      case measure => simp [intOf]; omega
    · have ht : l.take j = l := by rw [List.take_of_length_le (by rw [HN.out]; omega)]
      rw [ht]
      have hsum := sumL_sum l
      have hbd := sumL_bd l hv l.length (Nat.le_refl _)
      rw [List.take_length] at hbd
      obtain ⟨s, hs⟩ : ∃ s, s = sumL l := ⟨_, rfl⟩
      rw [← hs] at hsum ⊢
      have HV3 : Hid (V = if s = 1000 then 0 else 1) := by show _ = _; rw [HV2.out, hsum]
      clear hv hsum hs hbd ht
      by_cases h1 : s = 1000
      · have h2 : 1000 - s = 0 := by omega
        rw [h2]
        have hr : V = 0 := by rw [HV3.out, if_pos h1]
        clear h2
        go_wp2
        go_ret
        first | exact ⟨ret_int hr.symm, HB.out⟩ | exact ⟨ret_int rfl, HB.out⟩
      · have h2 : ¬ 1000 - s = 0 := by omega
        have h3 : ((1000 - s) != 0) = true := by simp; omega
        have hr : V = 1 := by rw [HV3.out, if_neg h1]
        go_wp2
        go_ret
        first | exact ⟨ret_int hr.symm, HB.out⟩ | exact ⟨ret_int rfl, HB.out⟩
end Go.Proofs.YtmafmebcgmegeaaGreatDoor

namespace Go.Proofs.YtmafmebcgmegeaaGreatDoor
open Go.RowKit Go.Sort
theorem asc_iff (a : Int) (l : List Int) : Bell.asc a l = true ↔ ∀ i, i < l.length → (a :: l).getD i 0 < (a :: l).getD (i + 1) 0 := by
  induction l generalizing a with
  | nil => simp [Bell.asc]
  | cons b l ih =>
    simp only [Bell.asc, Bool.and_eq_true, decide_eq_true_eq]
    rw [ih]
    constructor
    · rintro ⟨h1, h2⟩ i hi
      cases i with
      | zero => exact h1
      | succ i => exact h2 i (by simpa using hi)
    · intro h
      exact ⟨h 0 (by simp), fun i hi => h (i + 1) (by simpa using hi)⟩
theorem sqOrd {l : List Int} (hl : 0 < l.length) : (l.headD 0 = 0 ∧ Bell.asc (l.headD 0) l.tail = true) ↔ (l.getD 0 0 = 0 ∧ ∀ i, i + 1 < l.length → l.getD i 0 < l.getD (i + 1) 0) := by
  cases l with
  | nil => simp at hl
  | cons a l =>
    show (a = 0 ∧ Bell.asc a l = true) ↔ (a = 0 ∧ _)
    rw [asc_iff]
    exact ⟨fun h => ⟨h.1, fun i hi => h.2 i (by simpa using hi)⟩, fun h => ⟨h.1, fun i hi => h.2 i (by simpa using hi)⟩⟩
set_option maxHeartbeats 1000000 in
set_option maxRecDepth 100000 in
theorem checkSquares_any (A : Option Addr) (n c : Nat) (l : List Int) (w : World) (hl : IntsAt w A n l) (hn9 : n ≤ 140737488351232) (hcap : n ≤ c) (hc2 : c ≤ 9223372036854775807) :
    Calls Tryz.prog 113 #[.slice A n c] w fun e w' => e = .returned (.int .i64 (Bell.sqE l)) ∧ Below w.heap.size w w' := by
  obtain ⟨C, hC⟩ : ∃ C, C = cntI n 8 := ⟨_, rfl⟩
  obtain ⟨E, hE⟩ : ∃ E, E = firstInE (fun x => withinE x 0 100000000000) l := ⟨_, rfl⟩
  obtain ⟨Z, hZ⟩ : ∃ Z, Z = firstE [C, E] := ⟨_, rfl⟩
  have hS : Bell.sqE l = if Z = 0 then (if l.headD 0 = 0 ∧ Bell.asc (l.headD 0) l.tail then 0 else 11) else Z := by
    unfold Bell.sqE Bell.thenE
    rw [bfirst, beach, cntE_cnt, hl.1, hZ, hC, hE]
    rfl
  obtain ⟨V, hV⟩ : ∃ V, V = Bell.sqE l := ⟨_, rfl⟩
  rw [← hV]
  have HV : Hid (V = if Z = 0 then (if l.headD 0 = 0 ∧ Bell.asc (l.headD 0) l.tail then 0 else 11) else Z) := hV.trans hS
  have HL := Lib.hid hl
  have HN := Lib.hid hl.1
  have HC := Lib.hid hC
  have HE := Lib.hid hE
  have HZ := Lib.hid hZ
  clear hl hC hE hZ hS hV
  go_enter Tryz.func113, Tryz.ntmps113
  go_wp2_with fail
  refine (countInt_any A n c 8 w).mono ?_
  rw [← HC.out]
  rintro e w' ⟨rfl, rfl⟩
  go_wp2_with fail
  refine (firstIn_any 89 0 100000000000 A n c l w' hn9 enters_srcSquare srcSquare_st HL.out).mono ?_
  rw [← HE.out]
  rintro e w2 ⟨rfl, rfl⟩
  go_wp2_with fail
  obtain ⟨w4, hw4⟩ : ∃ W, W = (w2.alloc (.cells #[.int .i64 C, .int .i64 E] 37)) := ⟨_, rfl⟩
  rw [← hw4]
  have ES : Hid (Blk w4 (w2.heap.size) 37 #[.int .i64 C, .int .i64 E]) := by show Blk _ _ _ _; rw [hw4]; exact Blk.new _ _ _
  have hb : Below w2.heap.size w2 w4 := by rw [hw4]; exact ((Below.refl _ _).alloc (Nat.le_refl _) _)
  obtain ⟨ge, hge⟩ : ∃ g, g = w2.heap.size := ⟨_, rfl⟩
  have HGw4 : Hid (ge = w2.heap.size) := hge
  rw [← hge] at ES
  try rw [← hge]
  clear hw4 hge
  clear HGw4
  refine (first2 _ _ C E _ (ES.out.cell 0) (ES.out.cell 1)).mono ?_
  rw [← HZ.out]
  rintro e w3 ⟨rfl, rfl⟩
  clear ES
  by_cases h0 : Z = 0
  case neg =>
    have hr : V = Z := by rw [HV.out, if_neg h0]
    have HB := Lib.hid hb
    clear hb
    go_wp2
    go_ret
    first | exact ⟨ret_int hr.symm, HB.out⟩ | exact ⟨ret_int rfl, HB.out⟩
  have hz := firstE_p (HZ.out.symm.trans h0)
  have hcn := cntI_zero (HC.out.symm.trans hz.1)
  have n1 : 0 < n := hcn.1
  have n2 : n ≤ 8 := by omega
  have HV2 : Hid (((l.getD 0 0 = 0 ∧ ∀ i, i + 1 < l.length → l.getD i 0 < l.getD (i + 1) 0) → V = 0) ∧ (¬ (l.getD 0 0 = 0 ∧ ∀ i, i + 1 < l.length → l.getD i 0 < l.getD (i + 1) 0) → V = 11)) := by
    refine ⟨fun h => ?_, fun h => ?_⟩
    · rw [HV.out, if_pos h0, if_pos ((sqOrd (by rw [HN.out]; exact n1)).2 h)]
    · rw [HV.out, if_pos h0, if_neg (fun h2 => h ((sqOrd (by rw [HN.out]; exact n1)).1 h2))]
  obtain ⟨b, off, rfl, hc⟩ := HL.out.2 n1
  have HC4 : Hid (∀ i, i < n → w4.cell? ⟨b, off + i, none⟩ = some (.int .i64 (l.getD i 0))) := fun i hi => by
    rw [hb.cell (p := ⟨b, off + i, none⟩) (World.block_lt_of_cell? _ _ (hc i hi))]; exact hc i hi
  have HB := Lib.hid hb
  subst h0
  clear hb hz hcn hc HC HE HZ HL HV
  obtain ⟨m, rfl⟩ : ∃ m, n = m + 1 := ⟨n - 1, by omega⟩
  have hsl : ∀ W, (Instr.slice 22 (.slice (some ⟨b, off, none⟩) (m + 1) c) (some (.int .i64 1)) none none).run Tryz.prog W = .ok (.slice (some ⟨b, if c = 1 then off else off + 1, none⟩) m (c - 1)) W := fun W => by
    rw [run_slice_l W _ _ _ _ (by kernel_rfl) .i64 _ (by omega) (by omega), show Tryz.prog.elem 22 = 3 by kernel_rfl, show (Go.sizeOf 3).run Tryz.prog W = .ok 1 W by kernel_rfl]
    simp only [Result.andThen, sliced, Int.toNat_one, Option.map_some, Addr.add, Nat.mul_one]
    by_cases h1 : c = 1
    · subst h1; simp
    · simp [h1]
  obtain ⟨of2, hof⟩ : ∃ o, o = (if c = 1 then off else off + 1) := ⟨_, rfl⟩
  have HOF : Hid (0 < m → of2 = off + 1) := fun h => by rw [hof, if_neg (by omega)]
  rw [← hof] at hsl
  clear hof
  have h0 := HC4.out 0 (by omega)
  rw [Nat.add_zero] at h0
  obtain ⟨x0, hx0⟩ : ∃ x, x = l.getD 0 0 := ⟨_, rfl⟩
  rw [← hx0] at h0
  have HX0 := Lib.hid hx0
  clear hx0
  by_cases hz0 : x0 = 0
  case neg =>
    have hr : V = 11 := HV2.out.2 (fun h => hz0 (HX0.out.trans h.1))
    have h1 : (x0 != 0) = true := by simp [hz0]
    go_wp2
    go_ret
    first | exact ⟨ret_int hr.symm, HB.out⟩ | exact ⟨ret_int rfl, HB.out⟩
  subst hz0
  go_wp2
  clear h0
  go_loop [4, 5, 22] (fun _ _ k => ∃ j : Nat, j ≤ m ∧ k = .int .i64 j ∧ Hid (∀ i, i < j → l.getD i 0 < l.getD (i + 1) 0)) (fun _ _ k => m - (intOf k).toNat)
  case atStart => exact ⟨0, Nat.zero_le _, rfl, fun i hi => by omega⟩
  case round =>
    obtain ⟨j, hj, rfl, hup⟩ := hrel
    by_cases hlt : j < m
    · have h0 := HC4.out j (by omega)
      have h1 := HC4.out (j + 1) (by omega)
      have ho := HOF.out (by omega)
      rw [show off + (j + 1) = of2 + j by omega] at h1
      obtain ⟨x, hx⟩ : ∃ x, x = l.getD j 0 := ⟨_, rfl⟩
      obtain ⟨y, hy⟩ : ∃ y, y = l.getD (j + 1) 0 := ⟨_, rfl⟩
      rw [← hx] at h0
      rw [← hy] at h1
      have HXY : Hid (x = l.getD j 0 ∧ y = l.getD (j + 1) 0) := ⟨hx, hy⟩
      clear hx hy ho
      by_cases hxy : x < y
      · have HUP2 : Hid (∀ i, i < j + 1 → l.getD i 0 < l.getD (i + 1) 0) := fun i hi => by
          rcases Nat.lt_or_ge i j with q | q
          · exact hup.out i q
          · obtain rfl : i = j := by omega
            rw [← HXY.out.1, ← HXY.out.2]; exact hxy
        go_wp2
        go_round
        case rel => exact ⟨j + 1, by omega, by go_num, HUP2.out⟩
        case measure => simp [intOf]; omega
      · have hr : V = 11 := HV2.out.2 (fun h => hxy (by rw [HXY.out.1, HXY.out.2]; exact h.2 j (by rw [HN.out]; omega)))
        go_wp2
        go_ret
        first | exact ⟨ret_int hr.symm, HB.out⟩ | exact ⟨ret_int rfl, HB.out⟩
    · obtain rfl : j = m := by omega
      have hr : V = 0 := HV2.out.1 ⟨HX0.out.symm, fun i hi => hup.out i (by rw [HN.out] at hi; omega)⟩
      go_wp2
      go_ret
      first | exact ⟨ret_int hr.symm, HB.out⟩ | exact ⟨ret_int rfl, HB.out⟩
/-- The rule of energies, index by index. -/
theorem rule_iff {prev l : List Int} : Bell.ruleOk (l.headD 0) prev l = true ↔ ∀ i, i < l.length → prev.getD i 0 ≤ l.getD i 0 ∧ l.getD i 0 ≤ l.getD (i - 1) 0 := by
  constructor
  · intro h i hi
    obtain ⟨r1, _, r3⟩ := Bell.ruleOk_at h
    exact ⟨r1 i hi, r3 (i - 1) i (by omega) hi⟩
  · intro h
    have hd : ∀ i j, i ≤ j → j < l.length → l.getD j 0 ≤ l.getD i 0 := by
      intro i j
      induction j with
      | zero => intro hij _; rw [show i = 0 by omega]; exact Int.le_refl _
      | succ j ih =>
        intro hij hj
        rcases Nat.lt_or_ge i (j + 1) with q | q
        · have h1 := ih (by omega) (by omega)
          have h2 := (h (j + 1) hj).2
          rw [Nat.add_sub_cancel] at h2
          omega
        · rw [show i = j + 1 by omega]; exact Int.le_refl _
    refine Bell.ruleOk_of (fun i hi => (h i hi).1) (fun i hi => ?_) hd
    have h1 := hd 0 i (Nat.zero_le _) hi
    cases l with
    | nil => simp at hi
    | cons a l => exact h1
set_option maxHeartbeats 2000000 in
set_option maxRecDepth 100000 in
theorem settingCheck_any (p p0 : Int) (ea : Option Addr) (en ec : Nat) (fa : Option Addr) (fn fc : Nat) (zs ys : List Int) (w : World) (hz : IntsAt w ea en zs) (hy : IntsAt w fa fn ys) (hn : fn ≤ 8) (he9 : en ≤ 140737488351232) :
    Calls Tryz.prog 115 #[.agg #[.int .i64 p, .slice ea en ec], .agg #[.int .i64 p0, .slice fa fn fc]] w fun e w' => e = .returned (.int .i64 (Bell.setE fn p0 ys (p, zs))) ∧ Below w.heap.size w w' := by
  obtain ⟨X1, hX1⟩ : ∃ x, x = withinE p 1 100 := ⟨_, rfl⟩
  obtain ⟨X4, hX4⟩ : ∃ x, x = firstInE (fun x => withinE x 0 100000000) zs := ⟨_, rfl⟩
  obtain ⟨V, hV⟩ : ∃ x, x = Bell.setE fn p0 ys (p, zs) := ⟨_, rfl⟩
  have HS : Hid (V = if X1 = 0 then (if p ≤ p0 then 11 else if en = fn then (if X4 = 0 then (if Bell.ruleOk (zs.headD 0) ys zs = true then 0 else 21) else X4) else 2) else X1) := by
    show _ = _
    rw [hV]
    unfold Bell.setE Bell.thenE
    rw [bfirst, beach, ← hX4, hz.1]
    show (if firstE [withinE p 1 100, if p ≤ p0 then 11 else 0, if en = fn then 0 else 2, X4] = 0 then _ else firstE [withinE p 1 100, if p ≤ p0 then 11 else 0, if en = fn then 0 else 2, X4]) = _
    rw [← hX1]
    simp only [firstE]
    by_cases h1 : X1 = 0
    · by_cases h2 : p ≤ p0
      · simp [h1, h2]
      · by_cases h3 : en = fn
        · by_cases h4 : X4 = 0
          · simp [h1, h2, h3, h4]
          · simp [h1, h2, h3, h4]
        · simp [h1, h2, h3]
    · simp [h1]
  have RI := rule_iff (prev := ys) (l := zs)
  have HK : Hid ((X1 ≠ 0 → V = X1) ∧ (X1 = 0 → p ≤ p0 → V = 11) ∧ (X1 = 0 → p0 < p → en ≠ fn → V = 2) ∧ (X1 = 0 → p0 < p → en = fn → X4 ≠ 0 → V = X4) ∧ (X1 = 0 → p0 < p → en = fn → X4 = 0 → (∀ i, i < zs.length → ys.getD i 0 ≤ zs.getD i 0 ∧ zs.getD i 0 ≤ zs.getD (i - 1) 0) → V = 0) ∧ (X1 = 0 → p0 < p → en = fn → X4 = 0 → ¬ (∀ i, i < zs.length → ys.getD i 0 ≤ zs.getD i 0 ∧ zs.getD i 0 ≤ zs.getD (i - 1) 0) → V = 21)) := by
    refine ⟨fun h1 => ?_, fun h1 h2 => ?_, fun h1 h2 h3 => ?_, fun h1 h2 h3 h4 => ?_, fun h1 h2 h3 h4 h5 => ?_, fun h1 h2 h3 h4 h5 => ?_⟩
    · rw [HS.out, if_neg h1]
    · rw [HS.out, if_pos h1, if_pos h2]
    · rw [HS.out, if_pos h1, if_neg (by omega), if_neg h3]
    · rw [HS.out, if_pos h1, if_neg (by omega), if_pos h3, if_neg h4]
    · rw [HS.out, if_pos h1, if_neg (by omega), if_pos h3, if_pos h4, if_pos (RI.2 h5)]
    · rw [HS.out, if_pos h1, if_neg (by omega), if_pos h3, if_pos h4, if_neg (fun h => h5 (RI.1 h))]
  clear HS RI
  rw [← hV]
  have HZ := Lib.hid hz
  have HY := Lib.hid hy
  have HZL := Lib.hid hz.1
  have HX1 := Lib.hid hX1
  have HX4 := Lib.hid hX4
  clear hz hy hX1 hX4 hV
  go_enter Tryz.func115, Tryz.ntmps115
  go_upto_region 1 with fail
  obtain ⟨w1, hw1⟩ : ∃ W, W = ((w.alloc (.cells #[.int .i64 p, .slice ea en ec] 172)).alloc (.cells #[.int .i64 p0, .slice fa fn fc] 172)) := ⟨_, rfl⟩
  rw [← hw1]
  have SS : Hid (Blk w1 (w.heap.size) 172 #[.int .i64 p, .slice ea en ec]) := by show Blk _ _ _ _; rw [hw1]; exact (Blk.new _ _ _).alloc _
  have SF : Hid (Blk w1 (w.heap.size + 1) 172 #[.int .i64 p0, .slice fa fn fc]) := by show Blk _ _ _ _; rw [hw1]; exact Blk.at_size _ _ (by simp)
  have hb : Below w.heap.size w w1 := by rw [hw1]; exact (((Below.refl _ _).alloc (Nat.le_refl _) _).alloc (by simp) _)
  obtain ⟨g, hg⟩ : ∃ g, g = w.heap.size := ⟨_, rfl⟩
  obtain ⟨gf, hgf⟩ : ∃ g, g = w.heap.size + 1 := ⟨_, rfl⟩
  have HGw1 : Hid (g = w.heap.size ∧ gf = w.heap.size + 1) := ⟨hg, hgf⟩
  rw [← hgf] at SF
  try rw [← hgf]
  rw [← hg] at SS
  try rw [← hg]
  clear hw1 hg hgf
  have HZ1 := Lib.hid (HZ.out.keep hb)
  have HY1 := Lib.hid (HY.out.keep hb)
  have HB := Lib.hid hb
  have S1 := SS.out
  have F1 := SF.out
  clear hb HZ HY HGw1 SS SF
  have sc0 := S1.cell 0; have sf0 := S1.frozen 0; have sc1 := S1.cell 1; have sf1 := S1.frozen 1
  simp only [List.getElem?_toArray, List.getElem?_cons_zero, List.getElem?_cons_succ] at sc0 sc1
  clear S1
  have fc0 := F1.cell 0; have ff0 := F1.frozen 0; have fc1 := F1.cell 1; have ff1 := F1.frozen 1
  simp only [List.getElem?_toArray, List.getElem?_cons_zero, List.getElem?_cons_succ] at fc0 fc1
  clear F1
  go_wp2_with fail
  refine (srcPower_st p w1).mono ?_
  rw [← HX1.out]
  rintro e w' ⟨rfl, rfl⟩
  obtain ⟨k1, k2, k3, k4, k5, k6⟩ := HK.out
  have K1 := Lib.hid k1; have K2 := Lib.hid k2; have K3 := Lib.hid k3; have K4 := Lib.hid k4; have K5 := Lib.hid k5; have K6 := Lib.hid k6
  clear k1 k2 k3 k4 k5 k6 HK
  by_cases h1 : X1 = 0
  case neg =>
    have hr : V = X1 := K1.out h1
    go_wp2
    go_ret
    first | exact ⟨ret_int hr.symm, HB.out⟩ | exact ⟨ret_int rfl, HB.out⟩
  by_cases h2 : p ≤ p0
  · have hr : V = 11 := K2.out h1 h2
    go_wp2
    go_ret
    first | exact ⟨ret_int hr.symm, HB.out⟩ | exact ⟨ret_int rfl, HB.out⟩
  by_cases h3 : en = fn
  case neg =>
    have hr : V = 2 := K3.out h1 (by omega) h3
    have h4 : ((en : Int) != (fn : Int)) = true := by simp; omega
    go_wp2
    go_ret
    first | exact ⟨ret_int hr.symm, HB.out⟩ | exact ⟨ret_int rfl, HB.out⟩
  have h22 : p0 < p := by omega
  have K45 : Hid ((X4 ≠ 0 → V = X4) ∧ (X4 = 0 → (∀ i, i < zs.length → ys.getD i 0 ≤ zs.getD i 0 ∧ zs.getD i 0 ≤ zs.getD (i - 1) 0) → V = 0) ∧ (X4 = 0 → ¬ (∀ i, i < zs.length → ys.getD i 0 ≤ zs.getD i 0 ∧ zs.getD i 0 ≤ zs.getD (i - 1) 0) → V = 21)) := ⟨K4.out h1 h22 h3, K5.out h1 h22 h3, K6.out h1 h22 h3⟩
  clear K1 K2 K3 K4 K5 K6
  subst h3
  go_wp2_with fail
  refine (firstIn_any 174 0 100000000 ea en ec zs w' he9 enters_srcEmission srcEmission_st HZ1.out).mono ?_
  rw [← HX4.out]
  rintro e w2 ⟨rfl, rfl⟩
  by_cases h4 : X4 = 0
  case neg =>
    have hr : V = X4 := K45.out.1 h4
    go_wp2
    go_ret
    first | exact ⟨ret_int hr.symm, HB.out⟩ | exact ⟨ret_int rfl, HB.out⟩
  have HV2 : Hid (((∀ i, i < zs.length → ys.getD i 0 ≤ zs.getD i 0 ∧ zs.getD i 0 ≤ zs.getD (i - 1) 0) → V = 0) ∧ (¬ (∀ i, i < zs.length → ys.getD i 0 ≤ zs.getD i 0 ∧ zs.getD i 0 ≤ zs.getD (i - 1) 0) → V = 21)) := ⟨K45.out.2.1 h4, K45.out.2.2 h4⟩
  clear HX1 HX4 K45
  go_wp2
  go_loop [7, 8, 36] (fun _ _ k => ∃ j : Nat, j ≤ en ∧ k = .int .i64 j ∧ Hid (∀ i, i < j → ys.getD i 0 ≤ zs.getD i 0 ∧ zs.getD i 0 ≤ zs.getD (i - 1) 0)) (fun _ _ k => en - (intOf k).toNat)
  case atStart => exact ⟨0, Nat.zero_le _, rfl, fun i hi => by omega⟩
  case round =>
    obtain ⟨j, hj, rfl, hup⟩ := hrel
    by_cases hlt : j < en
    · obtain ⟨eb, eo, rfl, he⟩ := HZ1.out.2 (by omega)
      obtain ⟨fb, fo, rfl, hf⟩ := HY1.out.2 (by omega)
      have c1 := he j hlt
      have c2 := hf j hlt
      have c3 := he (j - 1) (by omega)
      have hmx : ∀ ts t W, (Builtin.max_ ts t #[.int .i64 ((j : Int) - 1), .int .i64 0]).run Tryz.prog W = .ok (.int .i64 ((j - 1 : Nat) : Int)) W := fun ts t W => by
        rw [run_max2']; congr 2; omega
      obtain ⟨q, hq⟩ : ∃ q : Nat, q = j - 1 := ⟨_, rfl⟩
      rw [← hq] at c3 hmx
      have hqn : q < en := by omega
      obtain ⟨x, hx⟩ : ∃ x, x = zs.getD j 0 := ⟨_, rfl⟩
      obtain ⟨y, hy⟩ : ∃ y, y = ys.getD j 0 := ⟨_, rfl⟩
      obtain ⟨z, hz⟩ : ∃ z, z = zs.getD q 0 := ⟨_, rfl⟩
      have HXY : Hid (x = zs.getD j 0 ∧ y = ys.getD j 0 ∧ z = zs.getD (j - 1) 0) := ⟨hx, hy, by rw [hz, hq]⟩
      rw [← hx] at c1
      rw [← hy] at c2
      rw [← hz] at c3
      clear he hf hq hx hy hz
      by_cases d1 : x < y
      · have hr : V = 21 := HV2.out.2 (fun h => by have := (h j (by rw [HZL.out]; exact hlt)).1; rw [← HXY.out.1, ← HXY.out.2.1] at this; omega)
        go_wp2
        go_ret
        first | exact ⟨ret_int hr.symm, HB.out⟩ | exact ⟨ret_int rfl, HB.out⟩
      · by_cases d2 : z < x
        · have hr : V = 21 := HV2.out.2 (fun h => by have := (h j (by rw [HZL.out]; exact hlt)).2; rw [← HXY.out.1, ← HXY.out.2.2] at this; omega)
          go_wp2
          go_ret
          first | exact ⟨ret_int hr.symm, HB.out⟩ | exact ⟨ret_int rfl, HB.out⟩
        · have HUP2 : Hid (∀ i, i < j + 1 → ys.getD i 0 ≤ zs.getD i 0 ∧ zs.getD i 0 ≤ zs.getD (i - 1) 0) := fun i hi => by
            rcases Nat.lt_or_ge i j with q | q
            · exact hup.out i q
            · obtain rfl : i = j := by omega
              rw [← HXY.out.1, ← HXY.out.2.1, ← HXY.out.2.2]; omega
          go_wp2
          go_round
          case rel => exact ⟨j + 1, by omega, by go_num, HUP2.out⟩
          case measure => simp [intOf]; omega
    · have hr : V = 0 := HV2.out.1 (fun i hi => hup.out i (by rw [HZL.out] at hi; omega))
      go_wp2
      go_ret
      first | exact ⟨ret_int hr.symm, HB.out⟩ | exact ⟨ret_int rfl, HB.out⟩
end Go.Proofs.YtmafmebcgmegeaaGreatDoor
