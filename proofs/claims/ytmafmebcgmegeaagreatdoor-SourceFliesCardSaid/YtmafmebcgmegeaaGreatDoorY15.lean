/- Texts Ig of the proof. -/
import Derived.Test.YtmafmebcgmegeaaGreatDoorY14
namespace Go.Proofs.YtmafmebcgmegeaaGreatDoor
open Go.RowKit Go.Sort
theorem srcName_ok (s : ByteArray) (w : World) (hs : s.size ≤ 140737488351232) (hn : nameB s = true) :
    Calls Tryz.prog 108 #[.string s] w fun e w' => e = .returned (.int .i64 0) ∧ Below w.heap.size w w' := by
  have HN := Lib.hid hn
  clear hn
  go_enter Tryz.func108, Tryz.ntmps108
  go_wp2_with fail
  refine (isName_any s w hs).mono ?_
  rw [HN.out]
  rintro e w1 ⟨rfl, hb⟩
  have HB := Lib.hid hb
  clear hb
  go_wp2
  go_ret
  exact ⟨rfl, HB.out⟩
theorem countInt_ok (A : Option Addr) (n c : Nat) (limit : Int) (w : World) (h0 : 0 < n) (h1 : (n : Int) ≤ limit) :
    Calls Tryz.prog 172 #[.slice A n c, .int .i64 limit] w fun e w' => e = .returned (.int .i64 0) ∧ w' = w := by
  have h2 : ((n : Int) == 0) = false := by simp; omega
  have h3 : Hid (atMostE n limit = 0) := by show _ = _; unfold atMostE; rw [if_neg (by omega)]
  clear h0 h1
  go_enter Tryz.func172, Tryz.ntmps172
  go_wp2_with fail
  refine (atMost_int A n c limit w).mono ?_
  rw [h3.out]
  rintro e w' ⟨rfl, rfl⟩
  go_wp2
  go_ret
  exact ⟨rfl, rfl⟩
theorem atMostSets_ok (A : Option Addr) (n c : Nat) (limit : Int) (w : World) (h : (n : Int) ≤ limit) :
    Calls Tryz.prog 173 #[.slice A n c, .int .i64 limit] w fun e w' => e = .returned (.int .i64 0) ∧ w' = w := by
  have h2 : ¬ limit < (n : Int) := by omega
  clear h
  go_enter Tryz.func173, Tryz.ntmps173
  go_wp2
  go_ret
  exact ⟨rfl, rfl⟩
theorem countSets_ok (A : Option Addr) (n c : Nat) (limit : Int) (w : World) (h0 : 0 < n) (h1 : (n : Int) ≤ limit) :
    Calls Tryz.prog 114 #[.slice A n c, .int .i64 limit] w fun e w' => e = .returned (.int .i64 0) ∧ w' = w := by
  have h2 : ((n : Int) == 0) = false := by simp; omega
  have H1 := Lib.hid h1
  clear h0 h1
  go_enter Tryz.func114, Tryz.ntmps114
  go_wp2_with fail
  refine (atMostSets_ok A n c limit w H1.out).mono ?_
  rintro e w' ⟨rfl, rfl⟩
  go_wp2
  go_ret
  exact ⟨rfl, rfl⟩
theorem firstIn_ok (F : FuncId) (lo hi : Int) (A : Option Addr) (n c : Nat) (zs : List Int) (w : World) (hn : n ≤ 140737488351232)
    (hE : ∀ (args : Array Value) (W : World), (callFunc F args).run Tryz.prog W = .ok (.enter F args) W)
    (hF : ∀ (x : Int) (W : World), Calls Tryz.prog F #[.int .i64 x] W fun e w' => e = .returned (.int .i64 (withinE x lo hi)) ∧ w' = W)
    (hz : IntsAt w A n zs) (hv : ∀ x, x ∈ zs → lo ≤ x ∧ x ≤ hi) :
    Calls Tryz.prog 110 #[.slice A n c, .func (.func F) #[] #[]] w fun e w' => e = .returned (.int .i64 0) ∧ w' = w := by
  have h0 : firstInE (fun x => withinE x lo hi) zs = 0 := firstInE_miss _ _ (fun i hi' => by
    have := hv (zs.getD i 0) (Bell.getD_mem hi')
    exact withinE_in this.1 this.2)
  refine (firstIn_int F (fun x => withinE x lo hi) A n c zs w hn hE (fun x W => (hF x W).mono (fun _ _ h => ⟨h.1, h.2.symm⟩)) hz).mono ?_
  rw [h0]
  exact fun _ _ h => ⟨h.1, h.2.symm⟩
theorem sumL_sum (l : List Int) : sumL l = l.sum := by
  induction l with
  | nil => rfl
  | cons a l ih => simp [sumL, ih]
/-- What is known of shares without a fault. -/
structure GoodSh (l : List Int) : Prop where
  cnt : 0 < l.length ∧ l.length ≤ 8
  rng : ∀ x, x ∈ l → 0 ≤ x ∧ x ≤ 1000
  sum : sumL l = 1000
theorem goodSh_of {l : List Int} (h : Bell.shE l = 0) : GoodSh l := by
  unfold Bell.shE at h
  rw [Bell.thenE_zero, Bell.firstE_zero] at h
  obtain ⟨h1, h2⟩ := h
  refine ⟨Bell.cntE_zero.1 (h1 (Bell.cntE l.length 8) (by simp)), fun x hx => Bell.inR_zero.1 (Bell.eachE_zero.1 (h1 (Bell.eachE (fun n => Bell.inR n 0 1000) l) (by simp)) x hx), ?_⟩
  rw [sumL_sum]
  split at h2
  · assumption
  · omega
theorem GoodT.sh {sh : List Int} {T : Bell.Ty} (h : GoodT sh T) : GoodSh sh := by
  have h1 := h.ok
  unfold Bell.tyE at h1
  rw [Bell.thenE_zero, Bell.firstE_zero] at h1
  exact goodSh_of (h1.1 (Bell.shE sh) (by simp))
theorem GoodT.sqr {sh : List Int} {T : Bell.Ty} (h : GoodT sh T) : ∀ x, x ∈ T.squares → 0 ≤ x ∧ x ≤ 100000000000 := by
  have h1 := h.ok
  unfold Bell.tyE at h1
  rw [Bell.thenE_zero, Bell.firstE_zero] at h1
  have h2 := h1.1 (Bell.sqE T.squares) (by simp)
  unfold Bell.sqE at h2
  rw [Bell.thenE_zero, Bell.firstE_zero] at h2
  exact fun x hx => Bell.inR_zero.1 (Bell.eachE_zero.1 (h2.1 (Bell.eachE (fun n => Bell.inR n 0 100000000000) T.squares) (by simp)) x hx)
set_option maxHeartbeats 1000000 in
set_option maxRecDepth 100000 in
theorem checkShares_ok (A : Option Addr) (n c : Nat) (l : List Int) (w : World) (hl : IntsAt w A n l) (hg : GoodSh l) :
    Calls Tryz.prog 109 #[.slice A n c] w fun e w' => e = .returned (.int .i64 0) ∧ Below w.heap.size w w' := by
  have HL := Lib.hid hl
  have hn := hl.1
  have n1 : 0 < n := by have := hg.cnt; omega
  have n2 : n ≤ 8 := by have := hg.cnt; omega
  have HG := Lib.hid hg
  have HN := Lib.hid hn
  obtain ⟨b, off, rfl, hc⟩ := hl.2 n1
  have HC := Lib.hid hc
  clear hl hg hn hc
  go_enter Tryz.func109, Tryz.ntmps109
  go_wp2_with fail
  refine (countInt_ok (some ⟨b, off, none⟩) n c 8 w n1 (by omega)).mono ?_
  rintro e w' ⟨rfl, rfl⟩
  go_wp2_with fail
  refine (firstIn_ok 112 0 1000 (some ⟨b, off, none⟩) n c l w' (by omega) enters_srcFactor srcFactor_st HL.out HG.out.rng).mono ?_
  rintro e w2 ⟨rfl, rfl⟩
  go_wp2_with fail
  refine (first2 _ _ 0 0 _ (by go_simp) (by go_simp)).mono ?_
  rw [show firstE [0, 0] = 0 from rfl]
  rintro e w3 ⟨rfl, rfl⟩
  obtain ⟨w4, hw4⟩ : ∃ W, W = w2.alloc (.cells #[.int .i64 0, .int .i64 0] 37) := ⟨_, rfl⟩
  rw [← hw4]
  have hb : Below w2.heap.size w2 w4 := by rw [hw4]; exact (Below.refl _ _).alloc (Nat.le_refl _) _
  have HC4 : Hid (∀ i, i < n → w4.cell? ⟨b, off + i, none⟩ = some (.int .i64 (l.getD i 0))) := fun i hi => by
    rw [hb.cell (p := ⟨b, off + i, none⟩) (World.block_lt_of_cell? _ _ (HC.out i hi))]; exact HC.out i hi
  have HB := Lib.hid hb
  clear hw4 hb
  go_wp2
  go_loop [4, 6, 18] (fun s _ k => ∃ j : Nat, j ≤ n ∧ k = .int .i64 j ∧ s = .int .i64 (1000 - sumL (l.take j))) (fun _ _ k => n - (intOf k).toNat)
  case atStart => exact ⟨0, Nat.zero_le _, rfl, rfl⟩
  case round =>
    obtain ⟨j, hj, rfl, rfl⟩ := hrel
    have hv : ∀ i, i < l.length → 0 ≤ l.getD i 0 ∧ l.getD i 0 ≤ 100000000000000 := fun i hi => by have := HG.out.rng _ (Bell.getD_mem hi); omega
    by_cases hlt : j < n
    · have h0 := HC4.out j hlt
      have b1 := sumL_bd l hv j (by rw [HN.out]; omega)
      have b2 := sumL_mono l (fun i hi => (hv i hi).1) j (by rw [HN.out]; omega)
      have b3 := sumL_mono l (fun i hi => (hv i hi).1) (j + 1) (by rw [HN.out]; omega)
      have HS := Lib.hid (sumL_succ l j (by rw [HN.out]; exact hlt))
      have b4 := (hv j (by rw [HN.out]; exact hlt)).1
      rw [HG.out.sum] at b2 b3
      rw [HS.out] at b3
      obtain ⟨x, hx⟩ : ∃ x, x = l.getD j 0 := ⟨_, rfl⟩
      obtain ⟨s, hs⟩ : ∃ s, s = sumL (l.take j) := ⟨_, rfl⟩
      rw [← hx] at h0 b3 b4 HS
      rw [← hs] at b1 b2 b3 HS ⊢
      obtain ⟨b1, _⟩ := b1
      clear hx hs hv
      go_wp2
      go_round
      case rel => exact ⟨j + 1, by omega, by go_num, by rw [HS.out]; go_num⟩
      case measure => simp [intOf]; omega
    · have hs : Hid (1000 - sumL (l.take j) = 0) := by
        show _ = _
        rw [show l.take j = l by rw [List.take_of_length_le (by rw [HN.out]; omega)], HG.out.sum]; rfl
      rw [hs.out]
      clear hv
      go_wp2
      go_ret
      exact ⟨rfl, HB.out⟩
set_option maxHeartbeats 1000000 in
set_option maxRecDepth 100000 in
theorem checkSquares_ok (b off n c : Nat) (l : List Int) (w : World) (hl : IntsAt w (some ⟨b, off, none⟩) n l) (hg : Bell.GoodSq l) (hr : ∀ x, x ∈ l → 0 ≤ x ∧ x ≤ 100000000000) (h8 : n ≤ 8) (hcap : n ≤ c) (hc2 : c ≤ 9223372036854775807) :
    Calls Tryz.prog 113 #[.slice (some ⟨b, off, none⟩) n c] w fun e w' => e = .returned (.int .i64 0) ∧ Below w.heap.size w w' := by
  have HL := Lib.hid hl
  have hn := hl.1
  have n1 : 0 < n := by have := hg.some; omega
  have HG := Lib.hid hg
  have HN := Lib.hid hn
  have HR := Lib.hid hr
  have hc : ∀ i, i < n → w.cell? ⟨b, off + i, none⟩ = some (.int .i64 (l.getD i 0)) := fun i hi => by
    obtain ⟨b', off', he, hc⟩ := hl.2 n1
    have he := Option.some.inj he
    injection he with e1 e2
    subst e1; subst e2
    exact hc i hi
  have HC := Lib.hid hc
  clear hl hg hn hc hr
  obtain ⟨m, rfl⟩ : ∃ m, n = m + 1 := ⟨n - 1, by omega⟩
  have hsl : ∀ W, (Instr.slice 22 (.slice (some ⟨b, off, none⟩) (m + 1) c) (some (.int .i64 1)) none none).run Tryz.prog W = .ok (.slice (some ⟨b, if c = 1 then off else off + 1, none⟩) m (c - 1)) W := fun W => by
    rw [run_slice_l W _ _ _ _ (by kernel_rfl) .i64 _ (by omega) (by omega), show Tryz.prog.elem 22 = 3 by kernel_rfl, show (Go.sizeOf 3).run Tryz.prog W = .ok 1 W by kernel_rfl]
    simp only [Result.andThen, sliced, Int.toNat_one, Option.map_some, Addr.add, Nat.mul_one]
    by_cases h1 : c = 1
    · subst h1; simp
    · simp [h1]
  obtain ⟨of2, hof⟩ : ∃ o, o = (if c = 1 then off else off + 1) := ⟨_, rfl⟩
  have HOF : Hid (0 < m → of2 = off + 1) := fun h => by rw [hof, if_neg (by omega)]
  rw [← hof] at hsl
  clear hof
  go_enter Tryz.func113, Tryz.ntmps113
  go_wp2_with fail
  refine (countInt_ok (some ⟨b, off, none⟩) (m + 1) c 8 w (by omega) (by omega)).mono ?_
  rintro e w' ⟨rfl, rfl⟩
  go_wp2_with fail
  refine (firstIn_ok 89 0 100000000000 (some ⟨b, off, none⟩) (m + 1) c l w' (by omega) enters_srcSquare srcSquare_st HL.out HR.out).mono ?_
  rintro e w2 ⟨rfl, rfl⟩
  go_wp2_with fail
  refine (first2 _ _ 0 0 _ (by go_simp) (by go_simp)).mono ?_
  rw [show firstE [0, 0] = 0 from rfl]
  rintro e w3 ⟨rfl, rfl⟩
  obtain ⟨w4, hw4⟩ : ∃ W, W = w2.alloc (.cells #[.int .i64 0, .int .i64 0] 37) := ⟨_, rfl⟩
  rw [← hw4]
  have hb : Below w2.heap.size w2 w4 := by rw [hw4]; exact (Below.refl _ _).alloc (Nat.le_refl _) _
  have HC4 : Hid (∀ i, i < m + 1 → w4.cell? ⟨b, off + i, none⟩ = some (.int .i64 (l.getD i 0))) := fun i hi => by
    rw [hb.cell (p := ⟨b, off + i, none⟩) (World.block_lt_of_cell? _ _ (HC.out i hi))]; exact HC.out i hi
  have HB := Lib.hid hb
  clear hw4 hb
  have h0 := HC4.out 0 (by omega)
  rw [HG.out.zero, Nat.add_zero] at h0
  go_wp2
  clear h0
  go_loop [4, 5, 22] (fun _ _ k => ∃ j : Nat, j ≤ m ∧ k = .int .i64 j) (fun _ _ k => m - (intOf k).toNat)
  case atStart => exact ⟨0, Nat.zero_le _, rfl⟩
  case round =>
    obtain ⟨j, hj, rfl⟩ := hrel
    by_cases hlt : j < m
    · have h0 := HC4.out j (by omega)
      have h1 := HC4.out (j + 1) (by omega)
      have ho := HOF.out (by omega)
      rw [show off + (j + 1) = of2 + j by omega] at h1
      have hup := HG.out.up j (j + 1) (by omega) (by rw [HN.out]; omega)
      obtain ⟨x, hx⟩ : ∃ x, x = l.getD j 0 := ⟨_, rfl⟩
      obtain ⟨y, hy⟩ : ∃ y, y = l.getD (j + 1) 0 := ⟨_, rfl⟩
      rw [← hx] at h0 hup
      rw [← hy] at h1 hup
      clear hx hy ho
      go_wp2
      go_round
      case rel => exact ⟨j + 1, by omega, by go_num⟩
      case measure => simp [intOf]; omega
    · obtain rfl : j = m := by omega
      go_wp2
      go_ret
      exact ⟨rfl, HB.out⟩
end Go.Proofs.YtmafmebcgmegeaaGreatDoor
