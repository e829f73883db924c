/- Texts Io Ip Iq of the proof. -/
import Derived.Test.YtmafmebcgmegeaaGreatDoorW21
import Derived.BigQuiet
namespace Go.Proofs.YtmafmebcgmegeaaGreatDoor
open Go.RowKit Go.Sort
/-- What the reference's When answers, by a letter. -/
theorem refWhen_let (b : Bool) (x : Int) (w : World) :
    Calls Tryz.prog 105 #[.bool b, .int .i64 x] w fun e w' => ∃ a : Int, e = .returned (.int .i64 a) ∧ Hid (a = if b then x else 0) ∧ w' = w :=
  (refWhen_any b x w).mono fun _ _ h => ⟨_, h.1, rfl, h.2.symm⟩
theorem when_off {b : Bool} {x a : Int} (hx : x ≠ 0) (h : a = if b then x else 0) (h0 : a = 0) : b = false := by
  cases b
  · rfl
  · exact absurd (h.symm.trans h0) (by simpa using hx)
theorem firstE3_zero {a b c : Int} (h : firstE [a, b, c] = 0) : a = 0 ∧ b = 0 ∧ c = 0 := by
  by_cases h1 : a = 0 <;> by_cases h2 : b = 0 <;> by_cases h3 : c = 0 <;> simp_all [firstE]
theorem firstE4_zero {a b c d : Int} (h : firstE [a, b, c, d] = 0) : a = 0 ∧ b = 0 ∧ c = 0 ∧ d = 0 := by
  by_cases h1 : a = 0 <;> by_cases h2 : b = 0 <;> by_cases h3 : c = 0 <;> by_cases h4 : d = 0 <;> simp_all [firstE]
theorem refPower_st (x : Int) (w : World) : Calls Tryz.prog 22 #[.int .i64 x] w fun e w' => e = .returned (.int .i64 (withinE x 1 100)) ∧ w' = w := by
  go_enter Tryz.func22, Tryz.ntmps22
  go_wp2_with fail
  refine (refCheckRange_st _ _ _ _).mono ?_
  rintro e w' ⟨rfl, rfl⟩
  go_wp2
  go_ret
  exact ⟨rfl, rfl⟩
set_option maxHeartbeats 400000 in
set_option maxRecDepth 100000 in
theorem refPlace_any (x y z : Int) (w : World) :
    Calls Tryz.prog 26 #[.agg #[.int .i64 x, .int .i64 y, .int .i64 z]] w fun e w' => e = .returned (.int .i64 (placeE x y z)) ∧ Below w.heap.size w w' := by
  go_enter Tryz.func26, Tryz.ntmps26
  go_wp2_with fail
  refine wp_region_still_tail 9 (by kernel_rfl) (by kernel_rfl) ?_
  simp only [List.take_succ_cons, List.take_zero, List.drop_succ_cons, List.drop_zero]
  change wpStill _ _ (World.drew _) _ _ _
  repeat still_step
  still_call (refCheckRange_st _ _ _ _)
  repeat still_step
  still_call (refCheckRange_st _ _ _ _)
  repeat still_step
  still_call (refCheckRange_st _ _ _ _)
  repeat still_step
  refine wpStill_nil ?_
  change wpList _ _ _ _ _ (World.drew _)
  go_wp2_with fail
  refine (refFirst3 _ _ (withinE x (-100000) 100000) (withinE y (-100000) 100000) (withinE z 0 20000) _ (by go_simp) (by go_simp) (by go_simp)).mono ?_
  rintro e w1 ⟨rfl, rfl⟩
  go_wp2
  go_ret
  exact ⟨rfl, (((Below.refl _ _).alloc (Nat.le_refl _) _).drew).alloc (by simp) _⟩
theorem refName_any (s : ByteArray) (w : World) (hs : s.size ≤ 140737488351232) :
    Calls Tryz.prog 100 #[.string s] w fun e w' => ∃ a : Int, e = .returned (.int .i64 a) ∧ Hid (a = 0 → nameB s = true) ∧ w' = w := by
  have HN := Lib.hid (fun W => refIsName_any s W hs)
  cases hv : nameB s
  · rw [hv] at HN
    clear hv
    go_enter Tryz.func100, Tryz.ntmps100
    go_wp2_with fail
    refine (HN.out w).mono ?_
    rintro e w' ⟨rfl, rfl⟩
    go_wp2_with fail
    refine (refWhen_let _ _ _).mono ?_
    rintro e w' ⟨a, rfl, ha, rfl⟩
    go_wp2
    go_ret
    exact ⟨a, rfl, (fun h => by have := ha.out; simp at this; omega), rfl⟩
  · rw [hv] at HN
    clear hv
    go_enter Tryz.func100, Tryz.ntmps100
    go_wp2_with fail
    refine (HN.out w).mono ?_
    rintro e w' ⟨rfl, rfl⟩
    go_wp2_with fail
    refine (refWhen_let _ _ _).mono ?_
    rintro e w' ⟨a, rfl, ha, rfl⟩
    go_wp2
    go_ret
    exact ⟨a, rfl, (fun _ => by simp), rfl⟩
set_option maxHeartbeats 400000 in
set_option maxRecDepth 100000 in
theorem refRanges_any (A : Option Addr) (n c : Nat) (zs : List Int) (lo hi : Int) (w : World) (hn : n ≤ 140737488351232) (hz : IntsAt w A n zs) :
    Calls Tryz.prog 102 #[.slice A n c, .int .i64 lo, .int .i64 hi] w fun e w' => e = .returned (.int .i64 (firstInE (fun x => withinE x lo hi) zs)) ∧ w' = w := by
  obtain ⟨hl, hc⟩ := hz
  have HL := Lib.hid hl
  have HC := Lib.hid hc
  clear hl hc
  go_enter Tryz.func102, Tryz.ntmps102
  go_wp2
  go_loop [7, 8] (fun i _ => ∃ k : Nat, k ≤ n ∧ i = .int .i64 k ∧ Hid (∀ i, i < k → withinE (zs.getD i 0) lo hi = 0)) (fun i _ => n - (intOf i).toNat)
  case atStart => exact ⟨0, Nat.zero_le _, rfl, fun i hi => by omega⟩
  case round =>
    obtain ⟨k, hk, rfl, hz⟩ := hrel
    by_cases hlt : k < n
    · obtain ⟨b, off, rfl, hcc⟩ := HC.out (by omega)
      obtain ⟨x, hx⟩ : ∃ x, x = zs.getD k 0 := ⟨_, rfl⟩
      have h0 := hcc k hlt
      clear hcc
      rw [← hx] at h0
      have HX := Lib.hid hx
      clear hx
      go_wp2_with fail
      refine (refCheckRange_st x lo hi _).mono ?_
      rintro e w' ⟨rfl, rfl⟩
      obtain ⟨y, hy⟩ : ∃ y, y = withinE x lo hi := ⟨_, rfl⟩
      rw [← hy]
      have HY := Lib.hid hy
      clear hy
      by_cases he : y = 0
      · have h1 : (y != 0) = false := by simp [he]
        have HE := Lib.hid he
        clear he
        go_wp2
        go_round
        case rel =>
          refine ⟨k + 1, by omega, by go_num, fun i hi => ?_⟩
          by_cases hik : i < k
          · exact hz.out i hik
          · obtain rfl : i = k := by omega
            rw [← HX.out, ← HY.out]; exact HE.out
        case measure => simp [intOf]; omega
      · have h1 : (y != 0) = true := by simp [he]
        have HE := Lib.hid he
        clear he
        go_wp2
        go_ret
        exact ⟨ret_int (by rw [firstInE_hit (fun x => withinE x lo hi) zs k (by rw [HL.out]; exact hlt) hz.out (by rw [← HX.out, ← HY.out]; exact HE.out), ← HX.out]; exact HY.out), rfl⟩
    · go_wp2
      go_ret
      exact ⟨ret_int (firstInE_miss (fun x => withinE x lo hi) zs (fun i hi => hz.out i (by rw [HL.out] at hi; omega))).symm, rfl⟩
theorem firstIn_rng {lo hi : Int} {zs : List Int} (h : firstInE (fun x => withinE x lo hi) zs = 0) : ∀ x, x ∈ zs → lo ≤ x ∧ x ≤ hi := fun x hx => by
  obtain ⟨i, hi', rfl⟩ := List.getElem_of_mem hx
  have := firstInE_zero h i hi'
  rw [List.getD_eq_getElem?_getD, List.getElem?_eq_getElem hi', Option.getD_some] at this
  exact withinE_zero this
set_option maxHeartbeats 1000000 in
set_option maxRecDepth 100000 in
theorem refShares_any (A : Option Addr) (n c : Nat) (l : List Int) (w : World) (hl : IntsAt w A n l) (hn9 : n ≤ 9) :
    Calls Tryz.prog 101 #[.slice A n c] w fun e w' => ∃ E : Int, e = .returned (.int .i64 E) ∧ Hid (E = 0 → GoodSh l) ∧ Below w.heap.size w w' := by
  have HL := Lib.hid hl
  have HN := Lib.hid hl.1
  clear hl
  obtain ⟨R, hR⟩ : ∃ R, R = firstInE (fun x => withinE x 0 1000) l := ⟨_, rfl⟩
  have HR := Lib.hid hR
  clear hR
  go_enter Tryz.func101, Tryz.ntmps101
  go_wp2_with fail
  refine (refWhen_let _ _ _).mono ?_
  rintro e w1 ⟨a, rfl, ha, rfl⟩
  go_wp2_with fail
  refine (refWhen_let _ _ _).mono ?_
  rintro e w2 ⟨b, rfl, hb, rfl⟩
  go_wp2_with fail
  refine (refRanges_any A n c l 0 1000 w2 (by omega) HL.out).mono ?_
  rw [← HR.out]
  rintro e w3 ⟨rfl, rfl⟩
  go_wp2_with fail
  refine (refFirst3 _ _ a b R _ (by go_simp) (by go_simp) (by go_simp)).mono ?_
  obtain ⟨E, hE⟩ : ∃ E, E = firstE [a, b, R] := ⟨_, rfl⟩
  rw [← hE]
  have HE := Lib.hid hE
  clear hE
  rintro e w4 ⟨rfl, rfl⟩
  obtain ⟨w5, hw5⟩ : ∃ W, W = w3.alloc (.cells #[.int .i64 a, .int .i64 b, .int .i64 R] 3) := ⟨_, rfl⟩
  rw [← hw5]
  have hbl : Below w3.heap.size w3 w5 := by rw [hw5]; exact (Below.refl _ _).alloc (Nat.le_refl _) _
  have H5 := Lib.hid (HL.out.keep hbl)
  have HB := Lib.hid hbl
  clear hw5 hbl
  by_cases he : E = 0
  · have h1 : (E != 0) = false := by simp [he]
    obtain ⟨z1, z2, z3⟩ := firstE3_zero (HE.out.symm.trans he)
    have y1 := when_off (by omega) ha.out z1
    have y2 := when_off (by omega) hb.out z2
    have n0 : 0 < n := by
      have : ¬ (n : Int) = 0 := by simpa using y1
      omega
    have n8 : n ≤ 8 := by have := of_decide_eq_false y2; omega
    have HG := Lib.hid (firstIn_rng (HR.out.symm.trans z3))
    obtain ⟨bb, off, rfl, hc⟩ := H5.out.2 n0
    have HC := Lib.hid hc
    clear hc he z1 z2 z3 y1 y2 ha hb HE HR HL
    go_wp2
    go_loop [4, 5] (fun s k => ∃ j : Nat, j ≤ n ∧ k = .int .i64 j ∧ s = .int .i64 (sumL (l.take j))) (fun _ k => n - (intOf k).toNat)
    case atStart => exact ⟨0, Nat.zero_le _, rfl, rfl⟩
    case round =>
      obtain ⟨j, hj, rfl, rfl⟩ := hrel
      have hv : ∀ i, i < l.length → 0 ≤ l.getD i 0 ∧ l.getD i 0 ≤ 100000000000000 := fun i hi => by have := HG.out _ (Bell.getD_mem hi); omega
      by_cases hlt : j < n
      · have h0 := HC.out j hlt
        have b1 := sumL_bd l hv j (by rw [HN.out]; omega)
        have HS := Lib.hid (sumL_succ l j (by rw [HN.out]; exact hlt))
        have b4 := hv j (by rw [HN.out]; exact hlt)
        obtain ⟨x, hx⟩ : ∃ x, x = l.getD j 0 := ⟨_, rfl⟩
        obtain ⟨s, hs⟩ : ∃ s, s = sumL (l.take j) := ⟨_, rfl⟩
        rw [← hx] at h0 b4 HS
        rw [← hs] at b1 HS ⊢
        obtain ⟨b1, b2⟩ := b1
        have b5 : s ≤ 1000000000000000 := by omega
        clear hx hs hv b2
        go_wp2
        go_round
        case rel => exact ⟨j + 1, by omega, by go_num, by rw [HS.out]⟩
        case measure => simp [intOf]; omega
      · obtain ⟨s, hs⟩ : ∃ s, s = sumL (l.take j) := ⟨_, rfl⟩
        have HS : Hid (s = sumL l) := by
          show _ = _
          rw [hs, List.take_of_length_le (by rw [HN.out]; omega)]
        rw [← hs]
        clear hs hv
        go_wp2_with fail
        refine (refWhen_let _ _ _).mono ?_
        rintro e w6 ⟨d, rfl, hd, rfl⟩
        go_wp2
        go_ret
        exact ⟨d, rfl, fun h0 => ⟨by rw [HN.out]; exact ⟨n0, n8⟩, HG.out, by
          have := when_off (by omega) hd.out h0
          rw [← HS.out]; simpa using this⟩, HB.out⟩
  · have h1 : (E != 0) = true := by simp [he]
    go_wp2
    go_ret
    exact ⟨E, rfl, fun h => absurd h he, HB.out⟩
theorem lt_steps (l : List Int) (h : ∀ i, i + 1 < l.length → l.getD i 0 < l.getD (i + 1) 0) (i k : Nat) (hik : i < k) (hk : k < l.length) : l.getD i 0 < l.getD k 0 := by
  induction k with
  | zero => omega
  | succ k ih =>
    have h1 := h k hk
    by_cases e : i = k
    · rw [e]; exact h1
    · have := ih (by omega) (by omega); omega
set_option maxHeartbeats 1000000 in
set_option maxRecDepth 100000 in
theorem refSquares_any (A : Option Addr) (n c : Nat) (l : List Int) (w : World) (hl : IntsAt w A n l) (hn9 : n ≤ 9) :
    Calls Tryz.prog 104 #[.slice A n c] w fun e w' => ∃ E : Int, e = .returned (.int .i64 E) ∧ Hid (E = 0 → Bell.GoodSq l ∧ l.length ≤ 8 ∧ ∀ x, x ∈ l → 0 ≤ x ∧ x ≤ 100000000000) ∧ Below w.heap.size w w' := by
  have HL := Lib.hid hl
  have HN := Lib.hid hl.1
  clear hl
  obtain ⟨R, hR⟩ : ∃ R, R = firstInE (fun x => withinE x 0 100000000000) l := ⟨_, rfl⟩
  have HR := Lib.hid hR
  clear hR
  go_enter Tryz.func104, Tryz.ntmps104
  go_wp2_with fail
  refine (refWhen_let _ _ _).mono ?_
  rintro e w1 ⟨a, rfl, ha, rfl⟩
  go_wp2_with fail
  refine (refWhen_let _ _ _).mono ?_
  rintro e w2 ⟨b, rfl, hb, rfl⟩
  go_wp2_with fail
  refine (refRanges_any A n c l 0 100000000000 w2 (by omega) HL.out).mono ?_
  rw [← HR.out]
  rintro e w3 ⟨rfl, rfl⟩
  go_wp2_with fail
  refine (refFirst3 _ _ a b R _ (by go_simp) (by go_simp) (by go_simp)).mono ?_
  obtain ⟨E, hE⟩ : ∃ E, E = firstE [a, b, R] := ⟨_, rfl⟩
  rw [← hE]
  have HE := Lib.hid hE
  clear hE
  rintro e w4 ⟨rfl, rfl⟩
  obtain ⟨w5, hw5⟩ : ∃ W, W = w3.alloc (.cells #[.int .i64 a, .int .i64 b, .int .i64 R] 3) := ⟨_, rfl⟩
  rw [← hw5]
  have hbl : Below w3.heap.size w3 w5 := by rw [hw5]; exact (Below.refl _ _).alloc (Nat.le_refl _) _
  have H5 := Lib.hid (HL.out.keep hbl)
  have HB := Lib.hid hbl
  clear hw5 hbl
  by_cases he : E = 0
  · have h1 : (E != 0) = false := by simp [he]
    obtain ⟨z1, z2, z3⟩ := firstE3_zero (HE.out.symm.trans he)
    have y1 := when_off (by omega) ha.out z1
    have y2 := when_off (by omega) hb.out z2
    have n0 : 0 < n := by
      have : ¬ (n : Int) = 0 := by simpa using y1
      omega
    have n8 : n ≤ 8 := by have := of_decide_eq_false y2; omega
    have HG := Lib.hid (firstIn_rng (HR.out.symm.trans z3))
    obtain ⟨bb, off, rfl, hc⟩ := H5.out.2 n0
    have HC := Lib.hid hc
    clear hc he z1 z2 z3 y1 y2 ha hb HE HR HL
    go_wp2
    go_loopw [2, 4] (fun _ k wr => ∃ j : Nat, j ≤ n ∧ k = .int .i64 j ∧ Hid (0 < j → l.getD 0 0 = 0) ∧ Hid (∀ i, i + 1 < j → l.getD i 0 < l.getD (i + 1) 0) ∧ ∃ q, wr = w5.drewN q) (fun _ k _ => n - (intOf k).toNat)
    case atStart => exact ⟨0, Nat.zero_le _, rfl, fun h => absurd h (by omega), (fun i hi => by omega), 0, rfl⟩
    case round =>
      obtain ⟨j, hj, rfl, hz, hu, q, rfl⟩ := hrel
      by_cases hlt : j < n
      · have h0 := HC.out j hlt
        obtain ⟨x, hx⟩ : ∃ x, x = l.getD j 0 := ⟨_, rfl⟩
        rw [← hx] at h0
        have HX := Lib.hid hx
        clear hx
        rcases Nat.eq_zero_or_pos j with rfl | hp
        · rw [Nat.add_zero] at h0
          have pl : (0 : Int) < (n : Int) := by omega
          by_cases hx0 : x = 0
          · have t1 : (x != 0) = false := by simp [hx0]
            have HX0 := Lib.hid hx0
            clear hx0
            go_wp2
            go_quiet (fail)
            go_wp2
            go_roundw
            case rel => exact ⟨1, by omega, rfl, (fun _ => by rw [← HX.out]; exact HX0.out), (fun i hi => by omega), _, rfl⟩
            case measure => simp [intOf]; omega
          · have t1 : (x != 0) = true := by simp [hx0]
            clear hx0
            go_wp2
            go_quiet (fail)
            go_wp2
            go_ret
            exact ⟨11, rfl, (fun h => absurd h (by omega)), below_drewN' (below_drewN' HB.out _) _⟩
        · have g0 : ((j : Int) == 0) = false := by simp; omega
          have g1 : decide (0 < j) = true := decide_eq_true (by omega)
          obtain ⟨p, hpj⟩ : ∃ p, p + 1 = j := ⟨j - 1, by omega⟩
          have h1 := HC.out p (by omega)
          obtain ⟨y, hy⟩ : ∃ y, y = l.getD p 0 := ⟨_, rfl⟩
          rw [← hy] at h1
          have HY := Lib.hid hy
          have hmx : ∀ ts t W, (Builtin.max_ ts t #[.int .i64 0, .int .i64 ((j : Int) - 1)]).run Tryz.prog W = .ok (.int .i64 (p : Int)) W := fun ts t W => by
            rw [run_max2']; congr 2; omega
          have pl : (p : Int) < (n : Int) := by omega
          have pl2 : (j : Int) < (n : Int) := by omega
          have wj : IntKind.i64.wrap ((j : Int) - 1) = (j : Int) - 1 := IntWalk.i64_in _ (by omega)
          have HPJ := Lib.hid hpj
          clear hy hp hpj
          by_cases hxy : x ≤ y
          · have t1 : decide (x ≤ y) = true := decide_eq_true hxy
            clear hxy
            go_wp2
            go_quiet (fail)
            go_wp2
            go_ret
            exact ⟨11, rfl, (fun h => absurd h (by omega)), below_drewN' (below_drewN' HB.out _) _⟩
          · have t1 : decide (x ≤ y) = false := decide_eq_false hxy
            have HXY := Lib.hid hxy
            clear hxy
            go_wp2
            go_quiet (fail)
            go_wp2
            go_roundw
            case rel =>
              have hpj := HPJ.out
              refine ⟨j + 1, by omega, by go_num, (fun _ => hz.out (by omega)), (fun i hi => ?_), _, rfl⟩
              by_cases hip : i + 1 < j
              · exact hu.out i hip
              · obtain rfl : i = p := by omega
                rw [hpj]
                have := HXY.out
                rw [← HX.out, ← HY.out]; omega
            case measure => simp [intOf]; omega
      · obtain rfl : j = n := by omega
        go_wp2
        go_ret
        exact ⟨0, rfl, (fun _ => ⟨⟨by rw [HN.out]; exact n0, hz.out n0, fun i k hik hk => lt_steps l (fun i hi => hu.out i (by rw [← HN.out]; exact hi)) i k hik hk⟩, by rw [HN.out]; exact n8, HG.out⟩), below_drewN' HB.out _⟩
  · have h1 : (E != 0) = true := by simp [he]
    go_wp2
    go_ret
    exact ⟨E, rfl, fun h => absurd h he, HB.out⟩
end Go.Proofs.YtmafmebcgmegeaaGreatDoor

namespace Go.Proofs.YtmafmebcgmegeaaGreatDoor
open Go.RowKit Go.Sort
/-- A slice of points in memory, empty perhaps. -/
def TrAt (w : World) (A : Option Addr) (n : Nat) (l : List Bell.Fx) : Prop := l.length = n ∧ (0 < n → ∃ b off, A = some ⟨b, off, none⟩ ∧ FixesAt w b off n l)
theorem TrAt.keep {w w' : World} {A : Option Addr} {n : Nat} {l : List Bell.Fx} (h : TrAt w A n l) (hb : Below w.heap.size w w') : TrAt w' A n l :=
  ⟨h.1, fun h0 => by obtain ⟨b, off, e, hf⟩ := h.2 h0; exact ⟨b, off, e, hf.keep hb⟩⟩
theorem refWhen_as {b : Bool} {x a : Int} (w : World) (ha : a = if b then x else 0) :
    Calls Tryz.prog 105 #[.bool b, .int .i64 x] w fun e w' => e = .returned (.int .i64 a) ∧ w' = w :=
  (refWhen_any b x w).mono fun _ _ h => ⟨by rw [h.1, ha], h.2.symm⟩
theorem placeE_zero {x y z : Int} (h : placeE x y z = 0) : (-100000 ≤ x ∧ x ≤ 100000) ∧ (-100000 ≤ y ∧ y ≤ 100000) ∧ 0 ≤ z ∧ z ≤ 20000 := by
  unfold placeE at h
  obtain ⟨h1, h2, h3⟩ := firstE3_zero h
  exact ⟨withinE_zero h1, withinE_zero h2, withinE_zero h3⟩
end Go.Proofs.YtmafmebcgmegeaaGreatDoor

namespace Go.Proofs.YtmafmebcgmegeaaGreatDoor
open Go.RowKit Go.Sort
/-- Settings in memory, none perhaps. -/
def SetsO (w : World) (A : Option Addr) (n : Nat) (s : Bell.Sets) : Prop := s.length = n ∧ (0 < n → ∃ b off, A = some ⟨b, off, none⟩ ∧ SetsAt w b off n s)
theorem SetsO.keep {w w' : World} {A : Option Addr} {n : Nat} {s : Bell.Sets} (h : SetsO w A n s) (hb : Below w.heap.size w w') : SetsO w' A n s :=
  ⟨h.1, fun h0 => by obtain ⟨b, off, e, hf⟩ := h.2 h0; exact ⟨b, off, e, hf.keep hb⟩⟩
/-- A type of the reference in memory, valid or not. -/
structure RTy (w : World) (cs : Array Value) (nm : ByteArray) (sh : List Int) (T : Bell.Ty) (sa : Option Addr) (sn sc : Nat) (qa : Option Addr) (qn qc : Nat) (ga : Option Addr) (gn gc : Nat) : Prop where
  cells : cs = tyV nm sa sn sc T qa qn qc ga gn gc
  shares : IntsAt w sa sn sh
  squares : IntsAt w qa qn T.squares
  sets : SetsO w ga gn T.sets
theorem RTy.keep {w w' : World} {cs : Array Value} {nm : ByteArray} {sh : List Int} {T : Bell.Ty} {sa : Option Addr} {sn sc : Nat} {qa : Option Addr} {qn qc : Nat} {ga : Option Addr} {gn gc : Nat} (h : RTy w cs nm sh T sa sn sc qa qn qc ga gn gc) (hb : Below w.heap.size w w') : RTy w' cs nm sh T sa sn sc qa qn qc ga gn gc :=
  ⟨h.cells, h.shares.keep hb, h.squares.keep hb, h.sets.keep hb⟩
theorem RTy.c0 {w : World} {cs : Array Value} {nm : ByteArray} {sh : List Int} {T : Bell.Ty} {sa : Option Addr} {sn sc : Nat} {qa : Option Addr} {qn qc : Nat} {ga : Option Addr} {gn gc : Nat} (h : RTy w cs nm sh T sa sn sc qa qn qc ga gn gc) : cs[0]? = some (.string nm) := by rw [h.cells]; rfl
theorem RTy.c1 {w : World} {cs : Array Value} {nm : ByteArray} {sh : List Int} {T : Bell.Ty} {sa : Option Addr} {sn sc : Nat} {qa : Option Addr} {qn qc : Nat} {ga : Option Addr} {gn gc : Nat} (h : RTy w cs nm sh T sa sn sc qa qn qc ga gn gc) : cs[1]? = some (.slice sa sn sc) := by rw [h.cells]; rfl
theorem RTy.c10 {w : World} {cs : Array Value} {nm : ByteArray} {sh : List Int} {T : Bell.Ty} {sa : Option Addr} {sn sc : Nat} {qa : Option Addr} {qn qc : Nat} {ga : Option Addr} {gn gc : Nat} (h : RTy w cs nm sh T sa sn sc qa qn qc ga gn gc) : cs[10]? = some (.int .i64 T.side) := by rw [h.cells]; rfl
theorem RTy.c11 {w : World} {cs : Array Value} {nm : ByteArray} {sh : List Int} {T : Bell.Ty} {sa : Option Addr} {sn sc : Nat} {qa : Option Addr} {qn qc : Nat} {ga : Option Addr} {gn gc : Nat} (h : RTy w cs nm sh T sa sn sc qa qn qc ga gn gc) : cs[11]? = some (.slice qa qn qc) := by rw [h.cells]; rfl
theorem RTy.c12 {w : World} {cs : Array Value} {nm : ByteArray} {sh : List Int} {T : Bell.Ty} {sa : Option Addr} {sn sc : Nat} {qa : Option Addr} {qn qc : Nat} {ga : Option Addr} {gn gc : Nat} (h : RTy w cs nm sh T sa sn sc qa qn qc ga gn gc) : cs[12]? = some (.slice ga gn gc) := by rw [h.cells]; rfl
/-- What Short finds. -/
structure ShortT (nm : ByteArray) (sn qn gn : Nat) (s : Bell.Sets) : Prop where
  name : nm.size ≤ 40
  shares : sn ≤ 9
  squares : qn ≤ 9
  sets : gn ≤ 7
  each : ∀ k, k < gn → ((s.getD k (0, [])).2).length ≤ 9
def ShortPost (nm : ByteArray) (sn qn gn : Nat) (s : Bell.Sets) (e : Ending) : Prop := ∃ b : Bool, e = .returned (.bool b) ∧ (b = true → ShortT nm sn qn gn s)
theorem shortPost_no {nm : ByteArray} {sn qn gn : Nat} {s : Bell.Sets} : ShortPost nm sn qn gn s (.returned (.bool false)) := ⟨false, rfl, fun h => by cases h⟩
set_option maxHeartbeats 4000000 in
set_option maxRecDepth 100000 in
theorem refShortTy_any {nm : ByteArray} {sh : List Int} {T : Bell.Ty} {sa : Option Addr} {sn sc : Nat} {qa : Option Addr} {qn qc : Nat} {ga : Option Addr} {gn gc : Nat} {cs : Array Value} (w : World) (hT : RTy w cs nm sh T sa sn sc qa qn qc ga gn gc) (hm : gn ≤ 140737488351232) :
    Calls Tryz.prog 13 #[.agg cs] w fun e w' => ShortPost nm sn qn gn T.sets e ∧ Below w.heap.size w w' := by
  have HS := Lib.hid hT.sets
  have q0 := hT.c0
  have q1 := hT.c1
  have q11 := hT.c11
  have q12 := hT.c12
  clear hT
  go_enter Tryz.func13, Tryz.ntmps13
  go_upto_region 1 with fail
  obtain ⟨w1, hw1⟩ : ∃ W, W = w.alloc (.cells cs 26) := ⟨_, rfl⟩
  rw [← hw1]
  have T1 : Hid (Blk w1 w.heap.size 26 cs) := by show Blk _ _ _ _; rw [hw1]; exact Blk.new _ _ _
  have HB1 : Hid (Below w.heap.size w w1) := by show Below _ _ _; rw [hw1]; exact (Below.refl _ _).alloc (Nat.le_refl _) _
  have HS1 := Lib.hid (HS.out.keep HB1.out)
  obtain ⟨g, hg⟩ : ∃ g, g = w.heap.size := ⟨_, rfl⟩
  rw [← hg] at T1 ⊢
  clear hw1 hg HS
  have t0 := (T1.out.cell 0).trans q0
  have t1 := (T1.out.cell 1).trans q1
  have t11 := (T1.out.cell 11).trans q11
  have t12 := (T1.out.cell 12).trans q12
  clear q0 q1 q11 q12
  go_wp2
  go_loop [2, 3] (fun _ k => ∃ j : Nat, j ≤ gn ∧ k = .int .i64 j ∧ Hid (∀ i, i < j → ((T.sets.getD i (0, [])).2).length ≤ 9)) (fun _ k => gn - (intOf k).toNat)
  case atStart => exact ⟨0, Nat.zero_le _, rfl, fun i hi => by omega⟩
  case round =>
    obtain ⟨j, hj, rfl, hz⟩ := hrel
    by_cases hlt : j < gn
    · obtain ⟨bb, off, rfl, hl⟩ := HS1.out.2 (by omega)
      obtain ⟨ea, en, ec, k1, k2, k3⟩ := hl.2 j hlt
      have HE := Lib.hid k3.1
      clear k1 k3 hl
      by_cases h9 : 9 < en
      · have d1 : decide ((9 : Int) < (en : Int)) = true := decide_eq_true (by omega)
        clear h9
        go_wp2
        go_ret
        exact ⟨shortPost_no, HB1.out⟩
      · have d1 : decide ((9 : Int) < (en : Int)) = false := decide_eq_false (by omega)
        have H9 := Lib.hid h9
        clear h9
        go_wp2
        go_round
        case rel =>
          refine ⟨j + 1, by omega, by go_num, fun i hi => ?_⟩
          by_cases hij : i < j
          · exact hz.out i hij
          · obtain rfl : i = j := by omega
            have := H9.out
            rw [HE.out]; omega
        case measure => simp [intOf]; omega
    · obtain rfl : j = gn := by omega
      clear hlt
      by_cases n1 : (nm.size : Int) ≤ 40
      rotate_left
      · have dn1 : decide ((nm.size : Int) ≤ 40) = false := decide_eq_false n1
        go_wp2
        go_ret
        exact ⟨shortPost_no, HB1.out⟩
      have dn1 : decide ((nm.size : Int) ≤ 40) = true := decide_eq_true n1
      by_cases n2 : (sn : Int) ≤ 9
      rotate_left
      · have dn2 : decide ((sn : Int) ≤ 9) = false := decide_eq_false n2
        go_wp2
        go_ret
        exact ⟨shortPost_no, HB1.out⟩
      have dn2 : decide ((sn : Int) ≤ 9) = true := decide_eq_true n2
      by_cases n3 : (qn : Int) ≤ 9
      rotate_left
      · have dn3 : decide ((qn : Int) ≤ 9) = false := decide_eq_false n3
        go_wp2
        go_ret
        exact ⟨shortPost_no, HB1.out⟩
      have dn3 : decide ((qn : Int) ≤ 9) = true := decide_eq_true n3
      by_cases n4 : (j : Int) ≤ 7
      rotate_left
      · have dn4 : decide ((j : Int) ≤ 7) = false := decide_eq_false n4
        go_wp2
        go_ret
        exact ⟨shortPost_no, HB1.out⟩
      have dn4 : decide ((j : Int) ≤ 7) = true := decide_eq_true n4
      go_wp2
      go_ret
      exact ⟨⟨true, rfl, fun _ => ⟨by omega, by omega, by omega, by omega, hz.out⟩⟩, HB1.out⟩
end Go.Proofs.YtmafmebcgmegeaaGreatDoor
