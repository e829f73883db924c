/- Texts Q3 Q9 QC QD of the proof. -/
import Derived.Test.YtmafmebcgmegeaaGreatDoorWt16
import Derived.Test.YtmafmebcgmegeaaGreatDoorWt4
import Derived.Test.YtmafmebcgmegeaaGreatDoorWt12
namespace Go.Proofs.YtmafmebcgmegeaaGreatDoor
open Go.RowKit Go.Sort
/-- The first fault of what has an index below `n`. -/
def firstR (f : Nat → Int) (n : Nat) : Int := firstE ((List.range n).map f)
theorem firstR_hit {f : Nat → Int} {n k : Nat} (hk : k < n) (h : ∀ i, i < k → f i = 0) (h1 : f k ≠ 0) : firstR f n = f k := by
  have e : ∀ i, i < n → ((List.range n).map f).getD i 0 = f i := fun i hi => by simp [hi]
  unfold firstR
  rw [firstE_hit _ k (by simpa using hk) (fun i hi => by rw [e i (by omega)]; exact h i hi) (by rw [e k hk]; exact h1), e k hk]
theorem firstR_miss {f : Nat → Int} {n : Nat} (h : ∀ i, i < n → f i = 0) : firstR f n = 0 := by
  unfold firstR
  refine firstE_miss _ fun i hi => ?_
  have hi' : i < n := by simpa using hi
  simp [hi', h i hi']
theorem firstR_zero {f : Nat → Int} {n : Nat} (h : firstR f n = 0) : ∀ i, i < n → f i = 0 := fun i hi => firstE_zero h (f i) (List.mem_map.2 ⟨i, List.mem_range.2 hi, rfl⟩)
def andE (a b : Int) : Int := if a = 0 then b else a
theorem andE_0 {a b : Int} (h : a = 0) : andE a b = b := by rw [andE, if_pos h]
theorem andE_n {a b : Int} (h : a ≠ 0) : andE a b = a := by rw [andE, if_neg h]
theorem andE_zero {a b : Int} (h : andE a b = 0) : a = 0 ∧ b = 0 := by
  by_cases h1 : a = 0
  · rw [andE_0 h1] at h; exact ⟨h1, h⟩
  · rw [andE_n h1] at h; exact absurd h h1
theorem lengthE_zero2 {n : Nat} {k : Nat} (h : lengthE n (k : Int) = 0) : 2 ≤ n ∧ n ≤ k := by
  unfold lengthE atMostE at h
  split at h
  · cases h
  · split at h
    · cases h
    · omega
/-- A slice of points of the plane. -/
def PtsAt (w : World) (A : Option Addr) (n : Nat) (l : List Bell.Pt) : Prop :=
  l.length = n ∧ (0 < n → ∃ b o, A = some ⟨b, o, none⟩ ∧ ∀ i, i < n → w.cell? ⟨b, o + i * 2, none⟩ = some (.int .i64 (Bell.ptAt l i).x) ∧ w.cell? ⟨b, o + i * 2 + 1, none⟩ = some (.int .i64 (Bell.ptAt l i).y))
theorem PtsAt.keep {w w' : World} {A : Option Addr} {n : Nat} {l : List Bell.Pt} (h : PtsAt w A n l) (hb : Below w.heap.size w w') : PtsAt w' A n l :=
  ⟨h.1, fun hn => by
    obtain ⟨b, o, e, hc⟩ := h.2 hn
    have k : ∀ {j : Nat} {v : Value}, w.cell? ⟨b, j, none⟩ = some v → w'.cell? ⟨b, j, none⟩ = some v := fun {j v} hc => by
      rw [hb.cell (p := ⟨b, j, none⟩) (World.block_lt_of_cell? _ _ hc)]; exact hc
    exact ⟨b, o, e, fun i hi => ⟨k (hc i hi).1, k (hc i hi).2⟩⟩⟩
/-- A slice of steps of a procedure. -/
def SpsAt (w : World) (A : Option Addr) (n : Nat) (l : List Bell.Sp) : Prop :=
  l.length = n ∧ (0 < n → ∃ b o, A = some ⟨b, o, none⟩ ∧ ∀ i, i < n → w.cell? ⟨b, o + i * 3, none⟩ = some (.int .i64 (Bell.spAt l i).d) ∧ w.cell? ⟨b, o + i * 3 + 1, none⟩ = some (.int .i64 (Bell.spAt l i).h) ∧ w.cell? ⟨b, o + i * 3 + 2, none⟩ = some (.int .i64 (Bell.spAt l i).p))
theorem SpsAt.keep {w w' : World} {A : Option Addr} {n : Nat} {l : List Bell.Sp} (h : SpsAt w A n l) (hb : Below w.heap.size w w') : SpsAt w' A n l :=
  ⟨h.1, fun hn => by
    obtain ⟨b, o, e, hc⟩ := h.2 hn
    have k : ∀ {j : Nat} {v : Value}, w.cell? ⟨b, j, none⟩ = some v → w'.cell? ⟨b, j, none⟩ = some v := fun {j v} hc => by
      rw [hb.cell (p := ⟨b, j, none⟩) (World.block_lt_of_cell? _ _ hc)]; exact hc
    exact ⟨b, o, e, fun i hi => ⟨k (hc i hi).1, k (hc i hi).2.1, k (hc i hi).2.2⟩⟩⟩
def ptAtE (l : List Bell.Pt) (i : Nat) : Int := andE (firstE [withinE (Bell.ptAt l i).x (-100000) 100000, withinE (Bell.ptAt l i).y (-100000) 100000]) (if 0 < i ∧ (Bell.ptAt l i).x = (Bell.ptAt l (i - 1)).x ∧ (Bell.ptAt l i).y = (Bell.ptAt l (i - 1)).y then 9 else 0)
/-- The fault of a path. -/
def pathE (l : List Bell.Pt) : Int := andE (lengthE l.length 16) (firstR (ptAtE l) l.length)
def spAtE (l : List Bell.Sp) (i : Nat) : Int := andE (stepE (Bell.spAt l i)) (if (i = 0 ∧ (Bell.spAt l i).d ≠ 0) ∨ (0 < i ∧ (Bell.spAt l i).d ≤ (Bell.spAt l (i - 1)).d) then 11 else 0)
/-- The fault of a procedure. -/
def procE (l : List Bell.Sp) : Int := andE (lengthE l.length 8) (firstR (spAtE l) l.length)
end Go.Proofs.YtmafmebcgmegeaaGreatDoor

namespace Go.Proofs.YtmafmebcgmegeaaGreatDoor
open Go.RowKit Go.Sort
def fxAtE (l : List Bell.Fx) (i : Nat) : Int := andE (fixE (Bell.fxAt l i).t (Bell.fxAt l i).x (Bell.fxAt l i).y (Bell.fxAt l i).z (Bell.fxAt l i).p) (if 0 < i ∧ (Bell.fxAt l i).t ≤ (Bell.fxAt l (i - 1)).t then 11 else 0)
def lastE (l : List Bell.Fx) : Int := if 1000 < (Bell.fxAt l (l.length - 1)).t - (Bell.fxAt l 0).t then 14 else 0
/-- The fault of a track. -/
def trackE (l : List Bell.Fx) : Int := andE (lengthE l.length 16) (andE (firstR (fxAtE l) l.length) (lastE l))
theorem firstE3_z {x y z : Int} (h : firstE [x, y, z] = 0) : x = 0 ∧ y = 0 ∧ z = 0 := ⟨firstE_zero h x (by simp), firstE_zero h y (by simp), firstE_zero h z (by simp)⟩
theorem goodFx_fix {P : Bell.Fx} (h : fixE P.t P.x P.y P.z P.p = 0) : Bell.GoodFx P := by
  obtain ⟨h1, h2, h3⟩ := firstE3_z h
  obtain ⟨h4, h5, h6⟩ := firstE3_z h2
  have a := withinE_zero h1; have b := withinE_zero h4; have c := withinE_zero h5; have d := withinE_zero h6; have e := withinE_zero h3
  exact ⟨a.1, a.2, b.1, b.2, c.1, c.2, d.1, d.2, e.1, e.2⟩
theorem ticks_of {l : List Bell.Fx} (h : ∀ i, i + 1 < l.length → (Bell.fxAt l i).t < (Bell.fxAt l (i + 1)).t) : Bell.Ticks l := by
  intro i j hij hj
  induction j with
  | zero => omega
  | succ j ih =>
    have h1 := h j hj
    rcases Nat.lt_or_ge i j with h2 | h2
    · have := ih h2 (by omega); omega
    · obtain rfl : i = j := by omega
      exact h1
theorem goodTr_of {l : List Bell.Fx} (h : trackE l = 0) : Bell.GoodTr l := by
  obtain ⟨h1, h2⟩ := andE_zero h
  obtain ⟨h2, h3⟩ := andE_zero h2
  obtain ⟨a, b⟩ := lengthE_zero2 (k := 16) h1
  have hz := firstR_zero h2
  refine ⟨a, b, ticks_of fun i hi => ?_, fun i hi => goodFx_fix (andE_zero (hz i hi)).1, ?_⟩
  · have h4 := (andE_zero (hz (i + 1) hi)).2
    rw [Nat.add_sub_cancel] at h4
    split at h4
    · cases h4
    · omega
  · unfold lastE at h3
    split at h3
    · cases h3
    · omega
set_option maxHeartbeats 1000000 in
set_option maxRecDepth 100000 in
theorem checkLasting_any (b off n c : Nat) (l : List Bell.Fx) (w : World) (hl : FixesAt w b off n l) (hn0 : 0 < n) (hm : n ≤ 16) (hg : ∀ i, i < l.length → 0 ≤ (Bell.fxAt l i).t ∧ (Bell.fxAt l i).t ≤ 100000000) :
    Calls Tryz.prog 123 #[.slice (some ⟨b, off, none⟩) n c] w fun e w' => e = .returned (.int .i64 (lastE l)) ∧ Below w.heap.size w w' := by
  have hn := hl.1
  obtain ⟨m, rfl⟩ : ∃ m, n = m + 1 := ⟨n - 1, by omega⟩
  have gm := hg m (by omega)
  have g0 := hg 0 (by omega)
  have cL := fun d os => Calls.regrown_of (last_any b off m c l (grow (redrawn w d) os) (hl.keep (below_regrown w d os)) (by omega))
  have a0 := fun d os => cell_regrown (hl.2 0 (by omega)).1 d os
  obtain ⟨V, hV⟩ : ∃ V, V = lastE l := ⟨_, rfl⟩
  have HV : Hid (V = if 1000 < (Bell.fxAt l m).t - (Bell.fxAt l 0).t then 14 else 0) := by show _ = _; rw [hV]; unfold lastE; rw [hn, Nat.add_sub_cancel]
  rw [← hV]
  obtain ⟨A, hA⟩ : ∃ A, A = Bell.fxAt l 0 := ⟨_, rfl⟩
  obtain ⟨B, hB⟩ : ∃ B, B = Bell.fxAt l m := ⟨_, rfl⟩
  rw [← hA] at g0 a0 HV
  rw [← hB] at gm cL HV
  obtain ⟨b1, b2⟩ := gm
  obtain ⟨a1, a2⟩ := g0
  have bw := fun d os => below_regrown w d os
  have w1 : IntKind.i64.wrap (B.t - A.t) = B.t - A.t := IntWalk.i64_in _ (by omega)
  simp only [Nat.zero_mul, Nat.add_zero] at a0
  clear hl hg hn hA hB b1 b2 a1 a2 hV
  have hfl := fix_tick B.t B.x B.y B.z B.p
  simp only [fxV] at cL
  by_cases hd0 : 1000 < B.t - A.t
  · have hd : decide (1000 < B.t - A.t) = true := decide_eq_true hd0
    have hr : Hid (V = 14) := by show _ = _; rw [HV.out, if_pos hd0]
    go_enter Tryz.func123, Tryz.ntmps123
    go_upto_region 1 with fail
    refine wp_region_quiet_below (by kernel_rfl) (by kernel_rfl) ?_
    quiet_step (fail)
    quiet_step (exact cL _ _)
    repeat (quiet_step (fail))
    refine wpQuiet_nil ?_
    intro _ hw'
    obtain ⟨⟨dq, osq⟩, hw''⟩ := hw'
    subst hw''
    have HB := Lib.hid (bw dq osq)
    clear bw a0 cL
    go_wp2
    go_ret
    exact ⟨ret_int hr.out.symm, HB.out⟩
  · have hd : decide (1000 < B.t - A.t) = false := decide_eq_false hd0
    have hr : Hid (V = 0) := by show _ = _; rw [HV.out, if_neg hd0]
    go_enter Tryz.func123, Tryz.ntmps123
    go_upto_region 1 with fail
    refine wp_region_quiet_below (by kernel_rfl) (by kernel_rfl) ?_
    quiet_step (fail)
    quiet_step (exact cL _ _)
    repeat (quiet_step (fail))
    refine wpQuiet_nil ?_
    intro _ hw'
    obtain ⟨⟨dq, osq⟩, hw''⟩ := hw'
    subst hw''
    have HB := Lib.hid (bw dq osq)
    clear bw a0 cL
    go_wp2
    go_ret
    exact ⟨ret_int hr.out.symm, HB.out⟩
set_option maxHeartbeats 1000000 in
set_option maxRecDepth 100000 in
theorem CheckTrack_any (A : Option Addr) (n c : Nat) (l : List Bell.Fx) (w : World) (hl : TrAt w A n l) (hn : n ≤ 140737488351232) :
    Calls Tryz.prog 45 #[.slice A n c] w fun e w' => e = .returned (.int .i64 (trackE l)) ∧ Below w.heap.size w w' := by
  have HL := Lib.hid hl
  have HN := Lib.hid hl.1
  obtain ⟨V, hV⟩ : ∃ V, V = trackE l := ⟨_, rfl⟩
  have HV : Hid (V = andE (lengthE n 16) (andE (firstR (fxAtE l) n) (lastE l))) := by show _ = _; rw [hV, ← hl.1]; rfl
  rw [← hV]
  clear hl hV
  go_enter Tryz.func45, Tryz.ntmps45
  go_wp2_with fail
  refine (length_fix A n c 16 w).mono ?_
  rintro e w' ⟨rfl, rfl⟩
  obtain ⟨E, hE⟩ : ∃ E, E = lengthE n 16 := ⟨_, rfl⟩
  rw [← hE] at HV ⊢
  by_cases h0 : E = 0
  case neg =>
    have hr : V = E := by rw [HV.out, andE_n h0]
    clear hE
    go_wp2
    go_ret
    exact ⟨ret_int hr.symm, Below.refl _ _⟩
  replace HV : Hid (V = andE (firstR (fxAtE l) n) (lastE l)) := by show _ = _; rw [HV.out, andE_0 h0]
  have hn16 := lengthE_zero2 (k := 16) (hE.symm.trans h0)
  obtain ⟨hn2, hn16⟩ := hn16
  subst h0
  clear hE
  go_wp2
  go_loopw [4, 5, 6, 14] (fun _ _ _ k wr => ∃ j : Nat, j ≤ n ∧ k = .int .i64 j ∧ Hid (∀ i, i < j → fxAtE l i = 0) ∧ Hid (Below w'.heap.size w' wr)) (fun _ _ _ k _ => n - (intOf k).toNat)
  case atStart => exact ⟨0, Nat.zero_le _, rfl, (fun i hi => by omega), Below.refl _ _⟩
  case round =>
    obtain ⟨j, hj, rfl, hz, hb⟩ := hrel
    have HLr := Lib.hid (HL.out.keep hb.out)
    obtain ⟨b, o, rfl, hc⟩ := HLr.out.2 (by omega)
    by_cases hlt : j < n
    · obtain ⟨c0, c1, c2, c3, c4⟩ := hc.2 j hlt
      have HJ : Hid (fxAtE l j = andE (fixE (Bell.fxAt l j).t (Bell.fxAt l j).x (Bell.fxAt l j).y (Bell.fxAt l j).z (Bell.fxAt l j).p) (if 0 < j ∧ (Bell.fxAt l j).t ≤ (Bell.fxAt l (j - 1)).t then 11 else 0)) := rfl
      obtain ⟨P, hP⟩ : ∃ P, P = Bell.fxAt l j := ⟨_, rfl⟩
      rw [← hP] at c0 c1 c2 c3 c4 HJ
      clear hc hP
      have HB := hb
      clear hb
      go_wp2_with fail
      obtain ⟨wa, hwa⟩ : ∃ W, W = (wr.alloc (.cells #[.int .i64 P.t, .int .i64 P.x, .int .i64 P.y, .int .i64 P.z, .int .i64 P.p] 152)) := ⟨_, rfl⟩
      rw [← hwa]
      have B : Hid (Blk wa (wr.heap.size) 152 #[.int .i64 P.t, .int .i64 P.x, .int .i64 P.y, .int .i64 P.z, .int .i64 P.p]) := by show Blk _ _ _ _; rw [hwa]; exact Blk.new _ _ _
      have hba : Below wr.heap.size wr wa := by rw [hwa]; exact ((Below.refl _ _).alloc (Nat.le_refl _) _)
      obtain ⟨gp, hgp⟩ : ∃ g, g = wr.heap.size := ⟨_, rfl⟩
      have HGwa : Hid (gp = wr.heap.size) := hgp
      rw [← hgp] at B
      try rw [← hgp]
      clear hwa hgp
      replace HB := Lib.hid (HB.out.trans (hba.mono HB.out.size))
      clear hba
      clear c0 c1 c2 c3 c4
      refine (fixCheck_any P wa).mono ?_
      rintro e wb ⟨rfl, hbb⟩
      replace HB := Lib.hid (HB.out.trans (hbb.mono HB.out.size))
      replace B := Lib.hid (B.out.below hbb)
      clear hbb
      obtain ⟨F, hF⟩ : ∃ F, F = fixE P.t P.x P.y P.z P.p := ⟨_, rfl⟩
      rw [← hF] at HJ ⊢
      clear hF
      by_cases hF0 : F = 0
      case neg =>
        have hr : Hid (V = F) := by
          show _ = _
          have h1 : fxAtE l j = F := by rw [HJ.out, andE_n hF0]
          have h2 : firstR (fxAtE l) n = F := by rw [firstR_hit hlt hz.out (by rw [h1]; exact hF0), h1]
          rw [HV.out, h2, andE_n hF0]
        go_wp2
        go_ret
        exact ⟨ret_int hr.out.symm, HB.out⟩
      subst hF0
      have HLc := Lib.hid (HL.out.keep HB.out)
      have p0 := B.out.cell 0
      simp only [List.getElem?_toArray, List.getElem?_cons_zero] at p0
      obtain ⟨d, hd⟩ : ∃ d, d = P.t := ⟨_, rfl⟩
      rw [← hd] at p0 HJ
      clear hd B
      rcases Nat.eq_zero_or_pos j with hj0 | hj0
      · subst hj0
        have hr : Hid (fxAtE l 0 = 0) := by show _ = _; rw [HJ.out, andE_0 rfl, if_neg (by omega)]
        go_wp2
        go_region
        go_wp2
        go_roundw
        case rel => exact ⟨1, by omega, by go_num, (fun i hi => by obtain rfl : i = 0 := (by omega); exact hr.out), HB.out.drew⟩
        case measure => simp [intOf]; omega
      · obtain ⟨q, rfl⟩ : ∃ q, j = q + 1 := ⟨j - 1, by omega⟩
        rw [Nat.add_sub_cancel] at HJ
        obtain ⟨b', o', e', hc⟩ := HLc.out.2 (by omega)
        cases e'
        obtain ⟨d1, _, _, _, _⟩ := hc.2 q (by omega)
        obtain ⟨u, hu⟩ : ∃ u, u = (Bell.fxAt l q).t := ⟨_, rfl⟩
        rw [← hu] at d1 HJ
        clear hc hu
        by_cases heq : d ≤ u
        · have hbq : decide (d ≤ u) = true := decide_eq_true heq
          have h11 : fxAtE l (q + 1) = 11 := by rw [HJ.out, andE_0 rfl, if_pos ⟨by omega, heq⟩]
          have hr : Hid (V = 11) := by
            show _ = _
            have h2 : firstR (fxAtE l) n = 11 := by rw [firstR_hit hlt hz.out (by rw [h11]; decide), h11]
            rw [HV.out, h2, andE_n (by decide)]
          clear heq h11
          go_wp2
          go_region
          go_wp2
          go_ret
          exact ⟨ret_int hr.out.symm, HB.out.drew⟩
        · have hbq : decide (d ≤ u) = false := decide_eq_false heq
          have hr : Hid (fxAtE l (q + 1) = 0) := by show _ = _; rw [HJ.out, andE_0 rfl, if_neg (by omega)]
          clear heq
          go_wp2
          go_region
          go_wp2
          go_roundw
          case rel =>
            exact ⟨q + 1 + 1, by omega, by go_num, (fun i hi => by
              rcases Nat.lt_or_ge i (q + 1) with h | h
              · exact hz.out i h
              · obtain rfl : i = q + 1 := (by omega)
                exact hr.out), HB.out.drew⟩
          case measure => simp [intOf]; omega
    · obtain rfl : j = n := by omega
      have hr : Hid (V = lastE l) := by
        show _ = _
        rw [HV.out, andE_0 (firstR_miss fun i hi => hz.out i hi)]
      have hT : ∀ i, i < l.length → 0 ≤ (Bell.fxAt l i).t ∧ (Bell.fxAt l i).t ≤ 100000000 := fun i hi => by
        have := goodFx_fix (andE_zero (hz.out i (by rw [← HN.out]; exact hi))).1
        exact ⟨this.t0, this.t1⟩
      have HCK := Lib.hid (checkLasting_any b o j c l wr hc (by omega) hn16 hT)
      rw [← hr.out] at HCK
      clear hT hc
      go_wp2_with fail
      refine HCK.out.mono ?_
      rintro e w2 ⟨rfl, hb2⟩
      have HB2 := Lib.hid (hb.out.trans (hb2.mono hb.out.size))
      clear hb2
      go_wp2
      go_ret
      exact ⟨rfl, HB2.out⟩
end Go.Proofs.YtmafmebcgmegeaaGreatDoor

namespace Go.Proofs.YtmafmebcgmegeaaGreatDoor
open Go.RowKit Go.Sort
/-- The names that a set holds. -/
def NamesIn (w : World) (b : Nat) (ns : List ByteArray) : Prop := MapIs w b (ns.map fun s => (s, Value.bool true))
def addN (ns : List ByteArray) (s : ByteArray) : List ByteArray := if s ∈ ns then ns else ns ++ [s]
def twiceE (ns : List ByteArray) (s : ByteArray) : Int := if s ∈ ns then 9 else 0
theorem names_get {ns : List ByteArray} {s : ByteArray} : mapGet (ns.map fun s => (s, Value.bool true)) s = if s ∈ ns then some (.bool true) else none := by
  induction ns with
  | nil => rfl
  | cons x ns ih =>
    unfold mapGet at *
    by_cases h : x = s
    · subst h; simp
    · have h' : ¬ s = x := fun e => h e.symm
      simp only [List.map_cons, List.find?_cons, h, decide_false, ih, List.mem_cons, h', false_or]
/-- One block, a map, may change; all else stays. -/
structure OnlyMap (b : Nat) (w w' : World) : Prop where
  os : w'.os = w.os
  tape : w'.tape = w.tape
  output : w'.output = w.output
  size : w.heap.size ≤ w'.heap.size
  block : ∀ k, k < w.heap.size → k ≠ b → w'.heap[k]? = w.heap[k]?
theorem OnlyMap.refl (b : Nat) (w : World) : OnlyMap b w w := ⟨rfl, rfl, rfl, Nat.le_refl _, fun _ _ _ => rfl⟩
theorem OnlyMap.trans {b : Nat} {u v w : World} (h : OnlyMap b u v) (k : OnlyMap b v w) : OnlyMap b u w :=
  ⟨k.os.trans h.os, k.tape.trans h.tape, k.output.trans h.output, Nat.le_trans h.size k.size, fun i hi hb => (k.block i (Nat.lt_of_lt_of_le hi h.size) hb).trans (h.block i hi hb)⟩
theorem OnlyMap.of {b : Nat} {w w' : World} (h : Below w.heap.size w w') : OnlyMap b w w' := ⟨h.os, h.tape, h.output, h.size, fun k hk _ => h.block k hk⟩
theorem OnlyMap.put (b : Nat) (w : World) (s : ByteArray) (v : Value) : OnlyMap b w (World.mapPut w b s v) :=
  ⟨(mapPut_rest s v).1, (mapPut_rest s v).2.1, (mapPut_rest s v).2.2, Nat.le_of_eq (mapPut_size s v).symm, fun _ _ h => mapPut_far s v h⟩
theorem OnlyMap.below {b B : Nat} {w w' : World} (h : OnlyMap b w w') (hB : B ≤ w.heap.size) (hb : B ≤ b) : Below B w w' := ⟨h.os, h.tape, h.output, h.size, fun k hk => h.block k (by omega) (by omega)⟩
theorem OnlyMap.blk {b g : Nat} {w w' : World} {t : TypeId} {cs : Array Value} (h : OnlyMap b w w') (hg : Blk w g t cs) (hne : g ≠ b) : Blk w' g t cs := (h.block g (lt_of_block hg) hne).trans hg
theorem OnlyMap.map {b m : Nat} {w w' : World} {es : List (ByteArray × Value)} (h : OnlyMap b w w') (hm : MapIs w m es) (hne : m ≠ b) : MapIs w' m es := by
  have hl := hm.lt
  obtain ⟨arr, clock, h1, h2⟩ := hm
  exact ⟨arr, clock, (h.block m hl hne).trans h1, h2⟩
theorem OnlyMap.cell {b g i : Nat} {w w' : World} {v : Value} (h : OnlyMap b w w') (hc : w.cell? ⟨g, i, none⟩ = some v) (hne : g ≠ b) : w'.cell? ⟨g, i, none⟩ = some v :=
  (cell_same (p := ⟨g, i, none⟩) (h.block g (World.block_lt_of_cell? _ _ hc) hne)).trans hc
theorem OnlyMap.tr {b n : Nat} {A : Option Addr} {l : List Bell.Fx} {w w' : World} (h : OnlyMap b w w') (ht : TrAt w A n l) (hne : ∀ a, A = some a → a.block ≠ b) : TrAt w' A n l := by
  refine ⟨ht.1, fun hn => ?_⟩
  obtain ⟨g, o, rfl, hf⟩ := ht.2 hn
  refine ⟨g, o, rfl, fixes_keepB hf (h.block g ?_ (hne _ rfl))⟩
  exact World.block_lt_of_cell? _ _ (hf.2 0 hn).1
theorem map_ne {w : World} {g m i : Nat} {v : Value} {es : List (ByteArray × Value)} (hc : w.cell? ⟨g, i, none⟩ = some v) (hm : MapIs w m es) : g ≠ m := fun e => by
  subst e
  obtain ⟨arr, clock, h1, _⟩ := hm
  simp [World.cell?, h1] at hc
theorem mapB_under : Tryz.prog.underlying 290 = some (.map 9 4) := by kernel_rfl
theorem str_under : Tryz.prog.underlying 9 = some .string := by kernel_rfl
theorem bool_zero (w : World) : (zeroValue 4).run Tryz.prog w = .ok (.bool false) w := by kernel_rfl
set_option maxRecDepth 100000 in
theorem once_flight (s : ByteArray) (gm sm : Nat) (ns : List ByteArray) (w : World) (hc : w.cell? ⟨gm, 0, none⟩ = some (.map (some sm))) (hm : NamesIn w sm ns) :
    Calls Tryz.prog 218 #[.string s, .pointer (some ⟨gm, 0, none⟩)] w fun e w' => e = .returned (.int .i64 (twiceE ns s)) ∧ NamesIn w' sm (addN ns s) ∧ OnlyMap sm w w' := by
  have hne := map_ne hc hm
  by_cases hs : s ∈ ns
  · have hg : mapGet (ns.map fun s => (s, Value.bool true)) s = some (.bool true) := by rw [names_get, if_pos hs]
    have hlk := lookup_has mapB_under str_under hm hg false
    have hup := update_same mapB_under str_under hm hg
    simp only [Bool.false_eq_true, if_false] at hlk
    have hr : Hid (twiceE ns s = 9 ∧ addN ns s = ns) := by show _ ∧ _; unfold twiceE addN; rw [if_pos hs, if_pos hs]; exact ⟨rfl, rfl⟩
    have HM := Lib.hid hm
    clear hs hg hm
    go_enter Tryz.func218, Tryz.ntmps218
    go_wp2_with fail
    refine (that_any false 9 _).mono ?_
    rintro e w2 ⟨rfl, rfl⟩
    go_wp2
    go_ret
    exact ⟨ret_int (by rw [hr.out.1]), by rw [hr.out.2]; exact HM.out, OnlyMap.refl _ _⟩
  · have hg : mapGet (ns.map fun s => (s, Value.bool true)) s = none := by rw [names_get, if_neg hs]
    have hlk := lookup_lacks mapB_under str_under hm (bool_zero w) hg false
    have hup := update_new mapB_under str_under hm hg (.bool true)
    simp only [Bool.false_eq_true, if_false] at hlk
    have hr : Hid (twiceE ns s = 0 ∧ addN ns s = ns ++ [s]) := by show _ ∧ _; unfold twiceE addN; rw [if_neg hs, if_neg hs]; exact ⟨rfl, rfl⟩
    have HM : Hid (NamesIn (World.mapPut w sm s (.bool true)) sm (ns ++ [s])) := by
      show MapIs _ _ _
      rw [List.map_append]
      exact hm.put s _
    have HO : Hid (OnlyMap sm w (World.mapPut w sm s (.bool true))) := OnlyMap.put _ _ _ _
    obtain ⟨w1, hw1⟩ : ∃ X, X = World.mapPut w sm s (.bool true) := ⟨_, rfl⟩
    rw [← hw1] at hup HM HO
    clear hs hg hm hw1
    go_enter Tryz.func218, Tryz.ntmps218
    go_wp2_with fail
    refine (that_any true 9 _).mono ?_
    rintro e w2 ⟨rfl, rfl⟩
    go_wp2
    go_ret
    exact ⟨ret_int (by rw [hr.out.1]), by rw [hr.out.2]; exact HM.out, HO.out⟩
end Go.Proofs.YtmafmebcgmegeaaGreatDoor

namespace Go.Proofs.YtmafmebcgmegeaaGreatDoor
open Go.RowKit Go.Sort
noncomputable def nameE (s : ByteArray) : Int := if nameB s = true then 0 else 8
theorem srcName_any (s : ByteArray) (w : World) (hs : s.size ≤ 140737488351232) :
    Calls Tryz.prog 108 #[.string s] w fun e w' => e = .returned (.int .i64 (nameE s)) ∧ Below w.heap.size w w' := by
  cases hB : nameB s with
  | true =>
    have hr : nameE s = 0 := by unfold nameE; rw [if_pos hB]
    rw [hr]
    exact srcName_ok s w hs hB
  | false =>
    have hr : nameE s = 8 := by unfold nameE; rw [if_neg (by rw [hB]; decide)]
    rw [hr]
    have HN := Lib.hid hB
    clear hB hr
    go_enter Tryz.func108, Tryz.ntmps108
    go_wp2_with fail
    refine (isName_any s w hs).mono ?_
    rw [HN.out]
    rintro e w1 ⟨rfl, hb⟩
    have HB := Lib.hid hb
    clear hb
    go_wp2
    go_ret
    exact ⟨rfl, HB.out⟩
theorem OnlyMap.tr2 {b n : Nat} {A : Option Addr} {l : List Bell.Fx} {w w' : World} {es : List (ByteArray × Value)} (h : OnlyMap b w w') (ht : TrAt w A n l) (hm : MapIs w b es) : TrAt w' A n l := by
  refine ⟨ht.1, fun hn => ?_⟩
  obtain ⟨g, o, rfl, hf⟩ := ht.2 hn
  exact ⟨g, o, rfl, fixes_keepB hf (h.block g (World.block_lt_of_cell? _ _ (hf.2 0 hn).1) (map_ne (hf.2 0 hn).1 hm))⟩
def OnceS (sm : Nat) (ns : List ByteArray) (W W' : World) : Prop := OnlyMap sm W W' ∧ NamesIn W' sm ns
theorem base_of {sm : Nat} {ns : List ByteArray} {w W : World} (h : Ext w W ∨ AfterS w (OnceS sm ns) W) : OnlyMap sm w W := by
  rcases h with h | ⟨W1, W2, h1, h2, h3⟩
  · exact OnlyMap.of h
  · exact ((OnlyMap.of h1).trans h2.1).trans (OnlyMap.of h3)
theorem AfterS.names {sm : Nat} {ns : List ByteArray} {w W : World} (h : AfterS w (OnceS sm ns) W) : NamesIn W sm ns := by
  obtain ⟨W1, W2, h1, h2, h3⟩ := h
  exact MapIs.keep h2.2 h3
theorem pure_at {vs : List Value} {S : World → World → Prop} {n : Nat} : ∀ j, j < n → ∀ v W W', (GR.at (vs.map GR.eq) j).r v W → S W W' → (GR.at (vs.map GR.eq) j).r v W' := by
  intro j _ v W W' h _
  unfold GR.at at *
  rw [List.getD_eq_getElem?_getD, List.getElem?_map] at *
  cases hj : vs[j]? with
  | none => trivial
  | some u => rw [hj] at h; exact h
theorem typeM_under : Tryz.prog.underlying 219 = some (.map 9 42) := by kernel_rfl
def knownE (ok : Bool) : Int := if ok then 0 else 10
/-- The fault of a flight behind others. -/
noncomputable def flE (ns : List ByteArray) (ok : Bool) (nm : ByteArray) (tr : List Bell.Fx) : Int := firstE [nameE nm, twiceE ns nm, knownE ok, trackE tr]
theorem enters_once (args : Array Value) (W : World) : (callFunc 218 args).run Tryz.prog W = .ok (.enter 218 args) W := by kernel_rfl
attribute [local go_sem] enters_once in
set_option maxHeartbeats 1000000 in
set_option maxRecDepth 100000 in
theorem listed1_any (nm ty : ByteArray) (tr : List Bell.Fx) (A : Option Addr) (n c : Nat) (gm sm gk mb : Nat) (ns : List ByteArray) (vs : Array Value) (ok : Bool) (w : World) (hgm : w.cell? ⟨gm, 0, none⟩ = some (.map (some sm))) (hns : NamesIn w sm ns) (hgk : w.cell? ⟨gk, 0, none⟩ = some (.map (some mb)))
    (hlk : ∀ W, W.heap[mb]? = w.heap[mb]? → (Instr.lookup 219 (.map (some mb)) (.string ty) true).run Tryz.prog W = .ok (.tuple #[.agg vs, .bool ok]) W) (hmb : mb < w.heap.size) (hvs : vs.size = 13) (hvo : vs.all (·.oneCell') = true)
    (htr : TrAt w A n tr) (hn : n ≤ 140737488351232) (hsz : nm.size ≤ 140737488351232) :
    Calls Tryz.prog 192 #[.agg #[.string nm, .string ty, .slice A n c], .func (.func 218) #[] #[.pointer (some ⟨gm, 0, none⟩)], .pointer (some ⟨gk, 0, none⟩)] w
      fun e w' => e = .returned (.int .i64 (flE ns ok nm tr)) ∧ NamesIn w' sm (addN ns nm) ∧ OnlyMap sm w w' := by
  have HGM := Lib.hid hgm
  have HNS0 := Lib.hid hns
  have HTR0 := Lib.hid htr
  have HLK := Lib.hid hlk
  obtain ⟨V, hV⟩ : ∃ V, V = flE ns ok nm tr := ⟨_, rfl⟩
  have HV := Lib.hid hV
  rw [← hV]
  have hkl := World.block_lt_of_cell? _ _ hgk
  simp only at hkl
  clear hgm hns htr hlk hV
  go_enter Tryz.func192, Tryz.ntmps192
  go_upto_region 1 with fail
  obtain ⟨w1, hw1⟩ : ∃ W, W = (w.alloc (.cells #[.string nm, .string ty, .slice A n c] 168)) := ⟨_, rfl⟩
  rw [← hw1]
  have B3 : Hid (Blk w1 (w.heap.size) 168 #[.string nm, .string ty, .slice A n c]) := by show Blk _ _ _ _; rw [hw1]; exact Blk.new _ _ _
  have hb1 : Below w.heap.size w w1 := by rw [hw1]; exact ((Below.refl _ _).alloc (Nat.le_refl _) _)
  obtain ⟨g3, hg3⟩ : ∃ g, g = w.heap.size := ⟨_, rfl⟩
  have HGw1 : Hid (g3 = w.heap.size) := hg3
  rw [← hg3] at B3
  try rw [← hg3]
  clear hw1 hg3
  have HK : Hid (w1.cell? ⟨gk, 0, none⟩ = some (.map (some mb))) := (hb1.cell (p := ⟨gk, 0, none⟩) hkl).trans hgk
  have hgm : Hid (w1.cell? ⟨gm, 0, none⟩ = some (.map (some sm))) := (hb1.cell (p := ⟨gm, 0, none⟩) (World.block_lt_of_cell? _ _ HGM.out)).trans HGM.out
  have HNS : Hid (NamesIn w1 sm ns) := MapIs.keep HNS0.out hb1
  have HTR : Hid (TrAt w1 A n tr) := HTR0.out.keep hb1
  have hlk := HLK.out w1 (hb1.block mb hmb)
  have HOM : Hid (OnlyMap sm w w1) := OnlyMap.of hb1
  clear hb1 hgk hkl HGM HNS0 HTR0 HLK hmb
  have k0 := HK.out
  have BB := B3.out
  have zc0 := BB.cell 0; have zf0 := BB.frozen 0; have zc1 := BB.cell 1; have zf1 := BB.frozen 1; have zc2 := BB.cell 2; have zf2 := BB.frozen 2
  simp only [List.getElem?_toArray, List.getElem?_cons_zero, List.getElem?_cons_succ] at zc0 zc1 zc2
  clear BB
  go_upto_region 2 with (refine wpList_store_row rfl 42 _ _ rfl _ vs rfl rfl 42 _ (Blk.new _ _ _) (by rw [hvs]; kernel_rfl) (by rw [hvs]; rfl) hvo ?_)
  generalize hw2 : World.setRow (World.alloc w1 _) w1.heap.size vs = w2
  have hb2 : Below w1.heap.size w1 w2 := by rw [← hw2]; exact ((Below.refl _ _).alloc (Nat.le_refl _) _).setRow' (Nat.le_refl _) _
  obtain ⟨g6, hg6⟩ : ∃ g, g = w1.heap.size := ⟨_, rfl⟩
  rw [← hg6]
  clear hw2 hg6 zc0 zc1 zc2 zf0 zf1 zf2 k0 hlk
  replace hgm : Hid (w2.cell? ⟨gm, 0, none⟩ = some (.map (some sm))) := (hb2.cell (p := ⟨gm, 0, none⟩) (World.block_lt_of_cell? _ _ hgm.out)).trans hgm.out
  replace HNS : Hid (NamesIn w2 sm ns) := MapIs.keep HNS.out hb2
  replace HTR : Hid (TrAt w2 A n tr) := HTR.out.keep hb2
  replace HOM : Hid (OnlyMap sm w w2) := HOM.out.trans (OnlyMap.of hb2)
  replace B3 := Lib.hid (B3.out.below hb2)
  clear hb2 HK
  have hne3 : g3 ≠ sm := map_ne ((B3.out.cell 0).trans rfl) HNS.out
  refine wp_region_once 12 6 (by omega) (OnceS sm (addN ns nm)) (by kernel_rfl) (by kernel_rfl) (List.map GR.eq [.pointer (some ⟨g3, 0, none⟩), .string nm, .int .i64 (nameE nm), .func (.func 218) #[] #[.pointer (some ⟨gm, 0, none⟩)], .pointer (some ⟨g3, 0, none⟩), .string nm, .int .i64 (twiceE ns nm), .bool ok, .int .i64 (knownE ok), .pointer (some ⟨g3, 2, none⟩), .slice A n c, .int .i64 (trackE tr)]) 29 rfl (by kernel_rfl) pure_at ?_ ?_
  · refine ⟨?_, ?_, ?_, ?_, ?_, ?_, ?_, ?_, ?_, ?_, ?_, ?_, trivial⟩
    · intro a W hk hB hd ho
      have e3 : a.tmps[3]?.getD undef = .pointer (some ⟨g3, 0, none⟩) := ho 3 (by kernel_rfl)
      exact os_same (by decide) (v := .pointer (some ⟨g3, 0, none⟩)) (by go_simp) rfl
    · intro a W hk hB hd ho
      have e15 : a.tmps[15]?.getD undef = .pointer (some ⟨g3, 0, none⟩) := hd 0 15 (by kernel_rfl) (by kernel_rfl)
      have OM := base_of hB
      have C3 := OM.blk B3.out hne3
      have c0 := C3.cell 0
      simp only [List.getElem?_toArray, List.getElem?_cons_zero] at c0
      exact os_same (by decide) (v := .string nm) (by go_simp) rfl
    · intro a W hk hB hd ho
      have e16 : a.tmps[16]?.getD undef = .string nm := hd 1 16 (by kernel_rfl) (by kernel_rfl)
      refine os_call (by decide) (f := 108) (args := #[.string nm]) (by go_simp) ?_
      refine (srcName_any nm W hsz).mono ?_
      rintro e w' ⟨rfl, hb⟩
      exact ⟨_, rfl, hb, rfl⟩
    · intro a W hk hB hd ho
      have e1 : a.tmps[1]?.getD undef = .func (.func 218) #[] #[.pointer (some ⟨gm, 0, none⟩)] := ho 1 (by kernel_rfl)
      exact os_same (by decide) (v := .func (.func 218) #[] #[.pointer (some ⟨gm, 0, none⟩)]) (by go_simp) rfl
    · intro a W hk hB hd ho
      have e3 : a.tmps[3]?.getD undef = .pointer (some ⟨g3, 0, none⟩) := ho 3 (by kernel_rfl)
      exact os_same (by decide) (v := .pointer (some ⟨g3, 0, none⟩)) (by go_simp) rfl
    · intro a W hk hB hd ho
      have e19 : a.tmps[19]?.getD undef = .pointer (some ⟨g3, 0, none⟩) := hd 4 19 (by kernel_rfl) (by kernel_rfl)
      have OM := base_of hB
      have C3 := OM.blk B3.out hne3
      have c0 := C3.cell 0
      simp only [List.getElem?_toArray, List.getElem?_cons_zero] at c0
      exact os_same (by decide) (v := .string nm) (by go_simp) rfl
    · intro a W hk hB hd ho
      have e18 : a.tmps[18]?.getD undef = .func (.func 218) #[] #[.pointer (some ⟨gm, 0, none⟩)] := hd 3 18 (by kernel_rfl) (by kernel_rfl)
      have e20 : a.tmps[20]?.getD undef = .string nm := hd 5 20 (by kernel_rfl) (by kernel_rfl)
      have hE0 := hk rfl
      refine os_once (f := 218) (args := #[.string nm, .pointer (some ⟨gm, 0, none⟩)]) (by go_simp) ?_
      refine (once_flight nm gm sm ns W ((hE0.cell (p := ⟨gm, 0, none⟩) (World.block_lt_of_cell? _ _ hgm.out)).trans hgm.out) (MapIs.keep HNS.out hE0)).mono ?_
      rintro e w' ⟨rfl, h1, h2⟩
      exact ⟨_, rfl, ⟨h2, h1⟩, rfl⟩
    · intro a W hk hB hd ho
      have e7 : a.tmps[7]?.getD undef = .bool ok := ho 7 (by kernel_rfl)
      exact os_same (by decide) (v := .bool ok) (by go_simp) rfl
    · intro a W hk hB hd ho
      have e22 : a.tmps[22]?.getD undef = .bool ok := hd 7 22 (by kernel_rfl) (by kernel_rfl)
      refine os_call (by decide) (f := 193) (args := #[.bool ok, .int .i64 10]) (by go_simp) ?_
      refine (that_any ok 10 W).mono ?_
      rintro e w' ⟨rfl, rfl⟩
      exact ⟨_, rfl, Below.refl _ _, rfl⟩
    · intro a W hk hB hd ho
      have e3 : a.tmps[3]?.getD undef = .pointer (some ⟨g3, 0, none⟩) := ho 3 (by kernel_rfl)
      exact os_same (by decide) (v := .pointer (some ⟨g3, 2, none⟩)) (by go_simp) rfl
    · intro a W hk hB hd ho
      have e24 : a.tmps[24]?.getD undef = .pointer (some ⟨g3, 2, none⟩) := hd 9 24 (by kernel_rfl) (by kernel_rfl)
      have OM := base_of hB
      have C3 := OM.blk B3.out hne3
      have c2 := C3.cell 2
      simp only [List.getElem?_toArray, List.getElem?_cons_zero, List.getElem?_cons_succ] at c2
      exact os_same (by decide) (v := .slice A n c) (by go_simp) rfl
    · intro a W hk hB hd ho
      have e25 : a.tmps[25]?.getD undef = .slice A n c := hd 10 25 (by kernel_rfl) (by kernel_rfl)
      have OM := base_of hB
      refine os_call (by decide) (f := 45) (args := #[.slice A n c]) (by go_simp) ?_
      refine (CheckTrack_any A n c tr W (OM.tr2 HTR.out HNS.out) hn).mono ?_
      rintro e w' ⟨rfl, hb⟩
      exact ⟨_, rfl, hb, rfl⟩
  intro vv w3 hA hR
  have y0 : vv 0 = .pointer (some ⟨g3, 0, none⟩) := hR 0 (by omega)
  have y1 : vv 1 = .string nm := hR 1 (by omega)
  have y2 : vv 2 = .int .i64 (nameE nm) := hR 2 (by omega)
  have y3 : vv 3 = .func (.func 218) #[] #[.pointer (some ⟨gm, 0, none⟩)] := hR 3 (by omega)
  have y4 : vv 4 = .pointer (some ⟨g3, 0, none⟩) := hR 4 (by omega)
  have y5 : vv 5 = .string nm := hR 5 (by omega)
  have y6 : vv 6 = .int .i64 (twiceE ns nm) := hR 6 (by omega)
  have y7 : vv 7 = .bool ok := hR 7 (by omega)
  have y8 : vv 8 = .int .i64 (knownE ok) := hR 8 (by omega)
  have y9 : vv 9 = .pointer (some ⟨g3, 2, none⟩) := hR 9 (by omega)
  have y10 : vv 10 = .slice A n c := hR 10 (by omega)
  have y11 : vv 11 = .int .i64 (trackE tr) := hR 11 (by omega)
  simp only [List.range, List.range.loop, List.foldl_cons, List.foldl_nil, y0, y1, y2, y3, y4, y5, y6, y7, y8, y9, y10, y11, List.drop_succ_cons, List.drop_zero]
  simp only [dstAt, List.getElem?_toArray, List.getElem?_cons_zero, List.getElem?_cons_succ, Option.bind_some, Act.put, List.setIfInBounds_toArray, List.set_cons_zero, List.set_cons_succ]
  clear y0 y1 y2 y3 y4 y5 y6 y7 y8 y9 y10 y11 hR
  have HN3 := Lib.hid hA.names
  have HO3 : Hid (OnlyMap sm w w3) := HOM.out.trans (base_of (.inr hA))
  clear hA hgm HNS HTR HOM B3
  go_wp2_with fail
  obtain ⟨w4, hw4⟩ : ∃ W, W = (w3.alloc (.cells #[.int .i64 (nameE nm), .int .i64 (twiceE ns nm), .int .i64 (knownE ok), .int .i64 (trackE tr)] 37)) := ⟨_, rfl⟩
  rw [← hw4]
  have ES : Hid (Blk w4 (w3.heap.size) 37 #[.int .i64 (nameE nm), .int .i64 (twiceE ns nm), .int .i64 (knownE ok), .int .i64 (trackE tr)]) := by show Blk _ _ _ _; rw [hw4]; exact Blk.new _ _ _
  have hb4 : Below w3.heap.size w3 w4 := by rw [hw4]; exact ((Below.refl _ _).alloc (Nat.le_refl _) _)
  obtain ⟨ge, hge⟩ : ∃ g, g = w3.heap.size := ⟨_, rfl⟩
  have HGw4 : Hid (ge = w3.heap.size) := hge
  rw [← hge] at ES
  try rw [← hge]
  clear hw4 hge
  refine (first4 _ _ (nameE nm) (twiceE ns nm) (knownE ok) (trackE tr) _ (ES.out.cell 0) (ES.out.cell 1) (ES.out.cell 2) (ES.out.cell 3)).mono ?_
  rintro e w5 ⟨rfl, rfl⟩
  have HN4 : Hid (NamesIn w4 sm (addN ns nm)) := MapIs.keep HN3.out hb4
  have HO4 : Hid (OnlyMap sm w w4) := HO3.out.trans (OnlyMap.of hb4)
  clear ES hb4 HN3 HO3
  go_wp2
  go_ret
  exact ⟨ret_int (by rw [HV.out]; rfl), HN4.out, HO4.out⟩
end Go.Proofs.YtmafmebcgmegeaaGreatDoor
