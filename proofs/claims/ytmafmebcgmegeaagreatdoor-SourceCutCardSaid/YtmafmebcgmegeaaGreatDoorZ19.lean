/- Texts Ip Iq of the proof. -/
import Derived.BigQuiet
import Derived.Test.YtmafmebcgmegeaaGreatDoorZ18
namespace Go.Proofs.YtmafmebcgmegeaaGreatDoor
open Go.RowKit Go.Sort
/-- A slice of points in memory, empty perhaps. -/
def TrAt (w : World) (A : Option Addr) (n : Nat) (l : List Bell.Fx) : Prop := l.length = n ∧ (0 < n → ∃ b off, A = some ⟨b, off, none⟩ ∧ FixesAt w b off n l)
theorem TrAt.keep {w w' : World} {A : Option Addr} {n : Nat} {l : List Bell.Fx} (h : TrAt w A n l) (hb : Below w.heap.size w w') : TrAt w' A n l :=
  ⟨h.1, fun h0 => by obtain ⟨b, off, e, hf⟩ := h.2 h0; exact ⟨b, off, e, hf.keep hb⟩⟩
theorem refWhen_as {b : Bool} {x a : Int} (w : World) (ha : a = if b then x else 0) :
    Calls Tryz.prog 105 #[.bool b, .int .i64 x] w fun e w' => e = .returned (.int .i64 a) ∧ w' = w :=
  (refWhen_any b x w).mono fun _ _ h => ⟨by rw [h.1, ha], h.2.symm⟩
theorem placeE_zero {x y z : Int} (h : placeE x y z = 0) : (-100000 ≤ x ∧ x ≤ 100000) ∧ (-100000 ≤ y ∧ y ≤ 100000) ∧ 0 ≤ z ∧ z ≤ 20000 := by
  unfold placeE at h
  obtain ⟨h1, h2, h3⟩ := firstE3_zero h
  exact ⟨withinE_zero h1, withinE_zero h2, withinE_zero h3⟩
theorem goodFx_of {P : Bell.Fx} (h1 : withinE P.t 0 100000000 = 0) (h2 : placeE P.x P.y P.z = 0) (h3 : withinE P.p 1 100 = 0) : Bell.GoodFx P := by
  obtain ⟨a1, a2, a3, a4⟩ := placeE_zero h2
  have b := withinE_zero h1
  have c := withinE_zero h3
  exact ⟨b.1, b.2, a1.1, a1.2, a2.1, a2.2, a3, a4, c.1, c.2⟩
theorem ticks_steps (l : List Bell.Fx) (h : ∀ i, i + 1 < l.length → (Bell.fxAt l i).t < (Bell.fxAt l (i + 1)).t) : Bell.Ticks l := by
  intro i k hik hk
  induction k with
  | zero => omega
  | succ k ih =>
    have h1 := h k hk
    by_cases e : i = k
    · rw [e]; exact h1
    · have := ih (by omega) (by omega); omega
set_option maxHeartbeats 4000000 in
set_option maxRecDepth 100000 in
theorem refTrack_any (A : Option Addr) (n c : Nat) (l : List Bell.Fx) (w : World) (hl : TrAt w A n l) (hn9 : n ≤ 17) :
    Calls Tryz.prog 39 #[.slice A n c] w fun e w' => ∃ E : Int, e = .returned (.int .i64 E) ∧ Hid (E = 0 → Bell.GoodTr l) ∧ Below w.heap.size w w' := by
  have HL := Lib.hid hl
  have HN := Lib.hid hl.1
  clear hl
  go_enter Tryz.func39, Tryz.ntmps39
  go_wp2_with fail
  refine (refWhen_let _ _ _).mono ?_
  rintro e w1 ⟨a, rfl, ha, rfl⟩
  go_wp2_with fail
  refine (refWhen_let _ _ _).mono ?_
  rintro e w2 ⟨b, rfl, hb, rfl⟩
  go_wp2_with fail
  refine (refFirst2 _ _ a b _ (by go_simp) (by go_simp)).mono ?_
  obtain ⟨E, hE⟩ : ∃ E, E = firstE [a, b] := ⟨_, rfl⟩
  rw [← hE]
  have HE := Lib.hid hE
  clear hE
  rintro e w4 ⟨rfl, rfl⟩
  obtain ⟨w5, hw5⟩ : ∃ W, W = w2.alloc (.cells #[.int .i64 a, .int .i64 b] 3) := ⟨_, rfl⟩
  rw [← hw5]
  have hbl : Below w2.heap.size w2 w5 := by rw [hw5]; exact (Below.refl _ _).alloc (Nat.le_refl _) _
  have H5 := Lib.hid (HL.out.keep hbl)
  have HB := Lib.hid hbl
  clear hw5 hbl
  by_cases he : E = 0
  · have h1 : (E != 0) = false := by simp [he]
    obtain ⟨z1, z2⟩ := firstE2_zero (HE.out.symm.trans he)
    have y1 := when_off (by omega) ha.out z1
    have y2 := when_off (by omega) hb.out z2
    have n1 : 2 ≤ n := by have := of_decide_eq_false y1; omega
    have n2 : n ≤ 16 := by have := of_decide_eq_false y2; omega
    obtain ⟨bb, off, rfl, hc⟩ := H5.out.2 (by omega)
    have HC := Lib.hid hc
    clear hc he z1 z2 y1 y2 ha hb HE HL
    go_wp2
    go_loopw [2, 4, 5] (fun _ k _ wr => ∃ j : Nat, j ≤ n ∧ k = .int .i64 j ∧ Hid (∀ i, i < j → Bell.GoodFx (Bell.fxAt l i)) ∧ Hid (∀ i, i + 1 < j → (Bell.fxAt l i).t < (Bell.fxAt l (i + 1)).t) ∧ Hid (Below w5.heap.size w5 wr)) (fun _ k _ _ => n - (intOf k).toNat)
    case atStart => exact ⟨0, Nat.zero_le _, rfl, (fun i hi => by omega), (fun i hi => by omega), Below.refl _ _⟩
    case round =>
      obtain ⟨j, hj, rfl, hz, hu, hb⟩ := hrel
      by_cases hlt : j < n
      · obtain ⟨h0, h1', h2, h3, h4⟩ := (HC.out.keep hb.out).2 j hlt
        obtain ⟨P, hP⟩ : ∃ P, P = Bell.fxAt l j := ⟨_, rfl⟩
        rw [← hP] at h0 h1' h2 h3 h4
        have HP := Lib.hid hP
        have a0 := fun d os => cell_regrown h0 d os
        have a1 := fun d os => cell_regrown h1' d os
        have a2 := fun d os => cell_regrown h2 d os
        have a3 := fun d os => cell_regrown h3 d os
        have a4 := fun d os => cell_regrown h4 d os
        have pl : (j : Int) < (n : Int) := by omega
        have ct := fun d os => Calls.regrown_of (Calls.grow_same (refTick_st P.t (grow (redrawn wr d) os)))
        have cp := fun d os => Calls.regrown_of (Calls.grow_same (refPower_st P.p (grow (redrawn wr d) os)))
        have cl := fun d os => Calls.regrown_of (refPlace_any P.x P.y P.z (grow (redrawn wr d) os))
        clear hP h0 h1' h2 h3 h4
        rcases Nat.eq_zero_or_pos j with rfl | hp
        · simp only [Nat.zero_mul, Nat.add_zero] at a0 a1 a2 a3 a4
          obtain ⟨f, hf⟩ : ∃ f : Int, f = if false = true then 11 else 0 := ⟨_, rfl⟩
          have cw := fun d os => Calls.regrown_of (Calls.grow_same (refWhen_as (grow (redrawn wr d) os) hf))
          clear hf
          go_wp2
          refine wp_region_below_tail 36 (by kernel_rfl) (by kernel_rfl) ?_
          simp only [List.take_succ_cons, List.take_zero, List.drop_succ_cons, List.drop_zero]
          iterate 5 (go_big_quiet_step (fail))
          go_big_quiet_step (exact ct _ _)
          clear ct
          iterate 5 (go_big_quiet_step (fail))
          go_big_quiet_step (exact cl _ _)
          clear cl a1 a2 a3
          iterate 5 (go_big_quiet_step (fail))
          go_big_quiet_step (exact cp _ _)
          clear cp a4
          iterate 17 (go_big_quiet_step (fail))
          go_big_quiet_step (exact cw _ _)
          refine wpQuiet_nil ?_
          intro w6 hw'
          obtain ⟨⟨dq, osq⟩, hw''⟩ := hw'
          have HB6 := Lib.hid (hb.out.trans ((below_regrown wr dq osq).mono hb.out.size))
          rw [← hw''] at HB6
          clear hw'' a0 cw pl
          go_wp2_with fail
          refine (refFirst4 _ _ (withinE P.t 0 100000000) (placeE P.x P.y P.z) (withinE P.p 1 100) f _ (by go_simp) (by go_simp) (by go_simp) (by go_simp)).mono ?_
          obtain ⟨F, hF⟩ : ∃ F, F = firstE [withinE P.t 0 100000000, placeE P.x P.y P.z, withinE P.p 1 100, f] := ⟨_, rfl⟩
          rw [← hF]
          have HF := Lib.hid hF
          clear hF
          rintro e w7 ⟨rfl, rfl⟩
          obtain ⟨w8, hw8⟩ : ∃ W, W = w6.alloc (.cells #[.int .i64 (withinE P.t 0 100000000), .int .i64 (placeE P.x P.y P.z), .int .i64 (withinE P.p 1 100), .int .i64 f] 3) := ⟨_, rfl⟩
          rw [← hw8]
          have HB8 : Hid (Below w5.heap.size w5 w8) := by show Below _ _ _; rw [hw8]; exact HB6.out.alloc HB6.out.size _
          clear hw8 HB6
          by_cases hf : F = 0
          · have h1 : (F != 0) = false := by simp [hf]
            have HF0 := Lib.hid hf
            clear hf
            go_wp2
            go_roundw
            case rel =>
              obtain ⟨z1, z2, z3, z4⟩ := firstE4_zero (HF.out.symm.trans HF0.out)
              refine ⟨1, by omega, by go_num, fun i hi => ?_, fun i hi => ?_, HB8⟩
              · by_cases hij : i < 0
                · exact hz.out i hij
                · obtain rfl : i = 0 := by omega
                  rw [← HP.out]; exact goodFx_of z1 z2 z3
              · by_cases hij : i + 1 < 0
                · exact hu.out i hij
                · omega
            case measure => simp [intOf]; omega
          · have h1 : (F != 0) = true := by simp [hf]
            go_wp2
            go_ret
            exact ⟨F, rfl, (fun h => absurd h hf), HB.out.trans (HB8.out.mono HB.out.size)⟩
        · have g0 : decide (0 < j) = true := decide_eq_true hp
          have g1 : decide ((0 : Int) < (j : Int)) = true := decide_eq_true (by omega)
          obtain ⟨p, hpj⟩ : ∃ p, p + 1 = j := ⟨j - 1, by omega⟩
          have hh := ((HC.out.keep hb.out).2 p (by omega)).1
          obtain ⟨Q, hQ⟩ : ∃ Q, Q = Bell.fxAt l p := ⟨_, rfl⟩
          rw [← hQ] at hh
          have HQ := Lib.hid hQ
          have ap := fun d os => cell_regrown hh d os
          have hmx : ∀ ts t W, (Builtin.max_ ts t #[.int .i64 0, .int .i64 ((j : Int) - 1)]).run Tryz.prog W = .ok (.int .i64 (p : Int)) W := fun ts t W => by
            rw [run_max2']; congr 2; omega
          have pl2 : (p : Int) < (n : Int) := by omega
          have wj : IntKind.i64.wrap ((j : Int) - 1) = (j : Int) - 1 := IntWalk.i64_in _ (by omega)
          have HPJ := Lib.hid hpj
          obtain ⟨B, hB⟩ : ∃ B, decide (P.t ≤ Q.t) = B := ⟨_, rfl⟩
          have HXY := Lib.hid hB
          obtain ⟨f, hf⟩ : ∃ f : Int, f = if B then 11 else 0 := ⟨_, rfl⟩
          have HFf := Lib.hid hf
          have cw := fun d os => Calls.regrown_of (Calls.grow_same (refWhen_as (grow (redrawn wr d) os) hf))
          have t1 := hB
          clear hp hpj hQ hh hB hf
          go_wp2
          refine wp_region_below_tail 36 (by kernel_rfl) (by kernel_rfl) ?_
          simp only [List.take_succ_cons, List.take_zero, List.drop_succ_cons, List.drop_zero]
          iterate 5 (go_big_quiet_step (fail))
          go_big_quiet_step (exact ct _ _)
          clear ct
          iterate 5 (go_big_quiet_step (fail))
          go_big_quiet_step (exact cl _ _)
          clear cl a1 a2 a3
          iterate 5 (go_big_quiet_step (fail))
          go_big_quiet_step (exact cp _ _)
          clear cp a4
          iterate 17 (go_big_quiet_step (fail))
          go_big_quiet_step (exact cw _ _)
          refine wpQuiet_nil ?_
          intro w6 hw'
          obtain ⟨⟨dq, osq⟩, hw''⟩ := hw'
          have HB6 := Lib.hid (hb.out.trans ((below_regrown wr dq osq).mono hb.out.size))
          rw [← hw''] at HB6
          clear hw'' a0 cw ap pl pl2 wj hmx g0 g1 t1
          go_wp2_with fail
          refine (refFirst4 _ _ (withinE P.t 0 100000000) (placeE P.x P.y P.z) (withinE P.p 1 100) f _ (by go_simp) (by go_simp) (by go_simp) (by go_simp)).mono ?_
          obtain ⟨F, hF⟩ : ∃ F, F = firstE [withinE P.t 0 100000000, placeE P.x P.y P.z, withinE P.p 1 100, f] := ⟨_, rfl⟩
          rw [← hF]
          have HF := Lib.hid hF
          clear hF
          rintro e w7 ⟨rfl, rfl⟩
          obtain ⟨w8, hw8⟩ : ∃ W, W = w6.alloc (.cells #[.int .i64 (withinE P.t 0 100000000), .int .i64 (placeE P.x P.y P.z), .int .i64 (withinE P.p 1 100), .int .i64 f] 3) := ⟨_, rfl⟩
          rw [← hw8]
          have HB8 : Hid (Below w5.heap.size w5 w8) := by show Below _ _ _; rw [hw8]; exact HB6.out.alloc HB6.out.size _
          clear hw8 HB6
          by_cases hf : F = 0
          · have h1 : (F != 0) = false := by simp [hf]
            have HF0 := Lib.hid hf
            clear hf
            go_wp2
            go_roundw
            case rel =>
              obtain ⟨z1, z2, z3, z4⟩ := firstE4_zero (HF.out.symm.trans HF0.out)
              refine ⟨j + 1, by omega, by go_num, fun i hi => ?_, fun i hi => ?_, HB8⟩
              · by_cases hij : i < j
                · exact hz.out i hij
                · obtain rfl : i = j := by omega
                  rw [← HP.out]; exact goodFx_of z1 z2 z3
              · by_cases hij : i + 1 < j
                · exact hu.out i hij
                · obtain rfl : i = p := by have := HPJ.out; omega
                  have h5 := when_off (by omega) HFf.out z4
                  have h6 := HXY.out
                  rw [h5] at h6
                  have h7 := of_decide_eq_false h6
                  rw [HPJ.out, ← HP.out, ← HQ.out]; omega
            case measure => simp [intOf]; omega
          · have h1 : (F != 0) = true := by simp [hf]
            go_wp2
            go_ret
            exact ⟨F, rfl, (fun h => absurd h hf), HB.out.trans (HB8.out.mono HB.out.size)⟩
      · obtain rfl : j = n := by omega
        obtain ⟨m, hm⟩ : ∃ m, m + 1 = j := ⟨j - 1, by omega⟩
        have HM := Lib.hid hm
        have hA := ((HC.out.keep hb.out).2 0 (by omega)).1
        have hZ := ((HC.out.keep hb.out).2 m (by omega)).1
        have gA := (hz.out 0 (by omega)).t0
        have gA2 := (hz.out 0 (by omega)).t1
        have gZ := (hz.out m (by omega)).t0
        have gZ2 := (hz.out m (by omega)).t1
        obtain ⟨P, hP⟩ : ∃ P, P = Bell.fxAt l 0 := ⟨_, rfl⟩
        obtain ⟨Z, hZZ⟩ : ∃ Z, Z = Bell.fxAt l m := ⟨_, rfl⟩
        rw [← hP] at hA gA gA2
        rw [← hZZ] at hZ gZ gZ2
        have HP := Lib.hid hP
        have HZ := Lib.hid hZZ
        simp only [Nat.zero_mul, Nat.add_zero] at hA
        have a0 := fun d os => cell_regrown hA d os
        have a1 := fun d os => cell_regrown hZ d os
        have w1 : IntKind.i64.wrap ((j : Int) - 1) = (m : Int) := by rw [IntWalk.i64_in _ (by omega)]; omega
        have pl : (m : Int) < (j : Int) := by omega
        have pl2 : (0 : Int) < (j : Int) := by omega
        obtain ⟨f, hf⟩ : ∃ f : Int, f = if decide (1000 < Z.t - P.t) = true then 14 else 0 := ⟨_, rfl⟩
        have HFf := Lib.hid hf
        have cw := fun d os => Calls.regrown_of (Calls.grow_same (refWhen_as (grow (redrawn wr d) os) hf))
        clear hm hA hZ hP hZZ hf
        go_wp2
        refine wp_region_below_tail 14 (by kernel_rfl) (by kernel_rfl) ?_
        simp only [List.take_succ_cons, List.take_zero, List.drop_succ_cons, List.drop_zero]
        iterate 13 (go_big_quiet_step (fail))
        go_big_quiet_step (exact cw _ _)
        refine wpQuiet_nil ?_
        intro w6 hw'
        obtain ⟨⟨dq, osq⟩, hw''⟩ := hw'
        have HB6 := Lib.hid (hb.out.trans ((below_regrown wr dq osq).mono hb.out.size))
        rw [← hw''] at HB6
        clear hw'' a0 a1 cw
        go_wp2
        go_ret
        refine ⟨f, rfl, (fun h0 => ?_), HB.out.trans (HB6.out.mono HB.out.size)⟩
        have h5 := when_off (by omega) HFf.out h0
        have h7 := of_decide_eq_false h5
        have hl := HN.out
        have hmj := HM.out
        refine ⟨by omega, by omega, ticks_steps l (fun i hi => hu.out i (by omega)), fun i hi => hz.out i (by omega), ?_⟩
        rw [hl, show j - 1 = m by omega, ← HZ.out, ← HP.out]
        omega
  · have h1 : (E != 0) = true := by simp [he]
    go_wp2
    go_ret
    exact ⟨E, rfl, fun h => absurd h he, HB.out⟩
end Go.Proofs.YtmafmebcgmegeaaGreatDoor

namespace Go.Proofs.YtmafmebcgmegeaaGreatDoor
open Go.RowKit Go.Sort
/-- Settings in memory, none perhaps. -/
def SetsO (w : World) (A : Option Addr) (n : Nat) (s : Bell.Sets) : Prop := s.length = n ∧ (0 < n → ∃ b off, A = some ⟨b, off, none⟩ ∧ SetsAt w b off n s)
theorem SetsO.keep {w w' : World} {A : Option Addr} {n : Nat} {s : Bell.Sets} (h : SetsO w A n s) (hb : Below w.heap.size w w') : SetsO w' A n s :=
  ⟨h.1, fun h0 => by obtain ⟨b, off, e, hf⟩ := h.2 h0; exact ⟨b, off, e, hf.keep hb⟩⟩
/-- A type of the reference in memory, valid or not. -/
structure RTy (w : World) (cs : Array Value) (nm : ByteArray) (sh : List Int) (T : Bell.Ty) (sa : Option Addr) (sn sc : Nat) (qa : Option Addr) (qn qc : Nat) (ga : Option Addr) (gn gc : Nat) : Prop where
  cells : cs = tyV nm sa sn sc T qa qn qc ga gn gc
  shares : IntsAt w sa sn sh
  squares : IntsAt w qa qn T.squares
  sets : SetsO w ga gn T.sets
theorem RTy.keep {w w' : World} {cs : Array Value} {nm : ByteArray} {sh : List Int} {T : Bell.Ty} {sa : Option Addr} {sn sc : Nat} {qa : Option Addr} {qn qc : Nat} {ga : Option Addr} {gn gc : Nat} (h : RTy w cs nm sh T sa sn sc qa qn qc ga gn gc) (hb : Below w.heap.size w w') : RTy w' cs nm sh T sa sn sc qa qn qc ga gn gc :=
  ⟨h.cells, h.shares.keep hb, h.squares.keep hb, h.sets.keep hb⟩
theorem RTy.c0 {w : World} {cs : Array Value} {nm : ByteArray} {sh : List Int} {T : Bell.Ty} {sa : Option Addr} {sn sc : Nat} {qa : Option Addr} {qn qc : Nat} {ga : Option Addr} {gn gc : Nat} (h : RTy w cs nm sh T sa sn sc qa qn qc ga gn gc) : cs[0]? = some (.string nm) := by rw [h.cells]; rfl
theorem RTy.c1 {w : World} {cs : Array Value} {nm : ByteArray} {sh : List Int} {T : Bell.Ty} {sa : Option Addr} {sn sc : Nat} {qa : Option Addr} {qn qc : Nat} {ga : Option Addr} {gn gc : Nat} (h : RTy w cs nm sh T sa sn sc qa qn qc ga gn gc) : cs[1]? = some (.slice sa sn sc) := by rw [h.cells]; rfl
theorem RTy.c10 {w : World} {cs : Array Value} {nm : ByteArray} {sh : List Int} {T : Bell.Ty} {sa : Option Addr} {sn sc : Nat} {qa : Option Addr} {qn qc : Nat} {ga : Option Addr} {gn gc : Nat} (h : RTy w cs nm sh T sa sn sc qa qn qc ga gn gc) : cs[10]? = some (.int .i64 T.side) := by rw [h.cells]; rfl
theorem RTy.c11 {w : World} {cs : Array Value} {nm : ByteArray} {sh : List Int} {T : Bell.Ty} {sa : Option Addr} {sn sc : Nat} {qa : Option Addr} {qn qc : Nat} {ga : Option Addr} {gn gc : Nat} (h : RTy w cs nm sh T sa sn sc qa qn qc ga gn gc) : cs[11]? = some (.slice qa qn qc) := by rw [h.cells]; rfl
theorem RTy.c12 {w : World} {cs : Array Value} {nm : ByteArray} {sh : List Int} {T : Bell.Ty} {sa : Option Addr} {sn sc : Nat} {qa : Option Addr} {qn qc : Nat} {ga : Option Addr} {gn gc : Nat} (h : RTy w cs nm sh T sa sn sc qa qn qc ga gn gc) : cs[12]? = some (.slice ga gn gc) := by rw [h.cells]; rfl
/-- What Short finds. -/
structure ShortT (nm : ByteArray) (sn qn gn : Nat) (s : Bell.Sets) : Prop where
  name : nm.size ≤ 40
  shares : sn ≤ 9
  squares : qn ≤ 9
  sets : gn ≤ 7
  each : ∀ k, k < gn → ((s.getD k (0, [])).2).length ≤ 9
def ShortPost (nm : ByteArray) (sn qn gn : Nat) (s : Bell.Sets) (e : Ending) : Prop := ∃ b : Bool, e = .returned (.bool b) ∧ (b = true → ShortT nm sn qn gn s)
theorem shortPost_no {nm : ByteArray} {sn qn gn : Nat} {s : Bell.Sets} : ShortPost nm sn qn gn s (.returned (.bool false)) := ⟨false, rfl, fun h => by cases h⟩
set_option maxHeartbeats 4000000 in
set_option maxRecDepth 100000 in
theorem refShortTy_any {nm : ByteArray} {sh : List Int} {T : Bell.Ty} {sa : Option Addr} {sn sc : Nat} {qa : Option Addr} {qn qc : Nat} {ga : Option Addr} {gn gc : Nat} {cs : Array Value} (w : World) (hT : RTy w cs nm sh T sa sn sc qa qn qc ga gn gc) (hm : gn ≤ 140737488351232) :
    Calls Tryz.prog 13 #[.agg cs] w fun e w' => ShortPost nm sn qn gn T.sets e ∧ Below w.heap.size w w' := by
  have HS := Lib.hid hT.sets
  have q0 := hT.c0
  have q1 := hT.c1
  have q11 := hT.c11
  have q12 := hT.c12
  clear hT
  go_enter Tryz.func13, Tryz.ntmps13
  go_upto_region 1 with fail
  obtain ⟨w1, hw1⟩ : ∃ W, W = w.alloc (.cells cs 26) := ⟨_, rfl⟩
  rw [← hw1]
  have T1 : Hid (Blk w1 w.heap.size 26 cs) := by show Blk _ _ _ _; rw [hw1]; exact Blk.new _ _ _
  have HB1 : Hid (Below w.heap.size w w1) := by show Below _ _ _; rw [hw1]; exact (Below.refl _ _).alloc (Nat.le_refl _) _
  have HS1 := Lib.hid (HS.out.keep HB1.out)
  obtain ⟨g, hg⟩ : ∃ g, g = w.heap.size := ⟨_, rfl⟩
  rw [← hg] at T1 ⊢
  clear hw1 hg HS
  have t0 := (T1.out.cell 0).trans q0
  have t1 := (T1.out.cell 1).trans q1
  have t11 := (T1.out.cell 11).trans q11
  have t12 := (T1.out.cell 12).trans q12
  clear q0 q1 q11 q12
  go_wp2
  go_loop [2, 3] (fun _ k => ∃ j : Nat, j ≤ gn ∧ k = .int .i64 j ∧ Hid (∀ i, i < j → ((T.sets.getD i (0, [])).2).length ≤ 9)) (fun _ k => gn - (intOf k).toNat)
  case atStart => exact ⟨0, Nat.zero_le _, rfl, fun i hi => by omega⟩
  case round =>
    obtain ⟨j, hj, rfl, hz⟩ := hrel
    by_cases hlt : j < gn
    · obtain ⟨bb, off, rfl, hl⟩ := HS1.out.2 (by omega)
      obtain ⟨ea, en, ec, k1, k2, k3⟩ := hl.2 j hlt
      have HE := Lib.hid k3.1
      clear k1 k3 hl
      by_cases h9 : 9 < en
      · have d1 : decide ((9 : Int) < (en : Int)) = true := decide_eq_true (by omega)
        clear h9
        go_wp2
        go_ret
        exact ⟨shortPost_no, HB1.out⟩
      · have d1 : decide ((9 : Int) < (en : Int)) = false := decide_eq_false (by omega)
        have H9 := Lib.hid h9
        clear h9
        go_wp2
        go_round
        case rel =>
          refine ⟨j + 1, by omega, by go_num, fun i hi => ?_⟩
          by_cases hij : i < j
          · exact hz.out i hij
          · obtain rfl : i = j := by omega
            have := H9.out
            rw [HE.out]; omega
        case measure => simp [intOf]; omega
    · obtain rfl : j = gn := by omega
      clear hlt
      by_cases n1 : (nm.size : Int) ≤ 40
      rotate_left
      · have dn1 : decide ((nm.size : Int) ≤ 40) = false := decide_eq_false n1
        go_wp2
        go_ret
        exact ⟨shortPost_no, HB1.out⟩
      have dn1 : decide ((nm.size : Int) ≤ 40) = true := decide_eq_true n1
      by_cases n2 : (sn : Int) ≤ 9
      rotate_left
      · have dn2 : decide ((sn : Int) ≤ 9) = false := decide_eq_false n2
        go_wp2
        go_ret
        exact ⟨shortPost_no, HB1.out⟩
      have dn2 : decide ((sn : Int) ≤ 9) = true := decide_eq_true n2
      by_cases n3 : (qn : Int) ≤ 9
      rotate_left
      · have dn3 : decide ((qn : Int) ≤ 9) = false := decide_eq_false n3
        go_wp2
        go_ret
        exact ⟨shortPost_no, HB1.out⟩
      have dn3 : decide ((qn : Int) ≤ 9) = true := decide_eq_true n3
      by_cases n4 : (j : Int) ≤ 7
      rotate_left
      · have dn4 : decide ((j : Int) ≤ 7) = false := decide_eq_false n4
        go_wp2
        go_ret
        exact ⟨shortPost_no, HB1.out⟩
      have dn4 : decide ((j : Int) ≤ 7) = true := decide_eq_true n4
      go_wp2
      go_ret
      exact ⟨⟨true, rfl, fun _ => ⟨by omega, by omega, by omega, by omega, hz.out⟩⟩, HB1.out⟩
end Go.Proofs.YtmafmebcgmegeaaGreatDoor
