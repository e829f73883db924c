/- Texts Q9 QC of the proof. -/
import Derived.Test.YtmafmebcgmegeaaGreatDoorY22
import Derived.Test.YtmafmebcgmegeaaGreatDoorY21
import Derived.Test.YtmafmebcgmegeaaGreatDoorY4
namespace Go.Proofs.YtmafmebcgmegeaaGreatDoor
open Go.RowKit Go.Sort
def fxAtE (l : List Bell.Fx) (i : Nat) : Int := andE (fixE (Bell.fxAt l i).t (Bell.fxAt l i).x (Bell.fxAt l i).y (Bell.fxAt l i).z (Bell.fxAt l i).p) (if 0 < i ∧ (Bell.fxAt l i).t ≤ (Bell.fxAt l (i - 1)).t then 11 else 0)
def lastE (l : List Bell.Fx) : Int := if 1000 < (Bell.fxAt l (l.length - 1)).t - (Bell.fxAt l 0).t then 14 else 0
/-- The fault of a track. -/
def trackE (l : List Bell.Fx) : Int := andE (lengthE l.length 16) (andE (firstR (fxAtE l) l.length) (lastE l))
theorem firstE3_z {x y z : Int} (h : firstE [x, y, z] = 0) : x = 0 ∧ y = 0 ∧ z = 0 := ⟨firstE_zero h x (by simp), firstE_zero h y (by simp), firstE_zero h z (by simp)⟩
theorem goodFx_fix {P : Bell.Fx} (h : fixE P.t P.x P.y P.z P.p = 0) : Bell.GoodFx P := by
  obtain ⟨h1, h2, h3⟩ := firstE3_z h
  obtain ⟨h4, h5, h6⟩ := firstE3_z h2
  have a := withinE_zero h1; have b := withinE_zero h4; have c := withinE_zero h5; have d := withinE_zero h6; have e := withinE_zero h3
  exact ⟨a.1, a.2, b.1, b.2, c.1, c.2, d.1, d.2, e.1, e.2⟩
theorem ticks_of {l : List Bell.Fx} (h : ∀ i, i + 1 < l.length → (Bell.fxAt l i).t < (Bell.fxAt l (i + 1)).t) : Bell.Ticks l := by
  intro i j hij hj
  induction j with
  | zero => omega
  | succ j ih =>
    have h1 := h j hj
    rcases Nat.lt_or_ge i j with h2 | h2
    · have := ih h2 (by omega); omega
    · obtain rfl : i = j := by omega
      exact h1
theorem goodTr_of {l : List Bell.Fx} (h : trackE l = 0) : Bell.GoodTr l := by
  obtain ⟨h1, h2⟩ := andE_zero h
  obtain ⟨h2, h3⟩ := andE_zero h2
  obtain ⟨a, b⟩ := lengthE_zero2 (k := 16) h1
  have hz := firstR_zero h2
  refine ⟨a, b, ticks_of fun i hi => ?_, fun i hi => goodFx_fix (andE_zero (hz i hi)).1, ?_⟩
  · have h4 := (andE_zero (hz (i + 1) hi)).2
    rw [Nat.add_sub_cancel] at h4
    split at h4
    · cases h4
    · omega
  · unfold lastE at h3
    split at h3
    · cases h3
    · omega
set_option maxHeartbeats 1000000 in
set_option maxRecDepth 100000 in
theorem checkLasting_any (b off n c : Nat) (l : List Bell.Fx) (w : World) (hl : FixesAt w b off n l) (hn0 : 0 < n) (hm : n ≤ 16) (hg : ∀ i, i < l.length → 0 ≤ (Bell.fxAt l i).t ∧ (Bell.fxAt l i).t ≤ 100000000) :
    Calls Tryz.prog 123 #[.slice (some ⟨b, off, none⟩) n c] w fun e w' => e = .returned (.int .i64 (lastE l)) ∧ Below w.heap.size w w' := by
  have hn := hl.1
  obtain ⟨m, rfl⟩ : ∃ m, n = m + 1 := ⟨n - 1, by omega⟩
  have gm := hg m (by omega)
  have g0 := hg 0 (by omega)
  have cL := fun d os => Calls.regrown_of (last_any b off m c l (grow (redrawn w d) os) (hl.keep (below_regrown w d os)) (by omega))
  have a0 := fun d os => cell_regrown (hl.2 0 (by omega)).1 d os
  obtain ⟨V, hV⟩ : ∃ V, V = lastE l := ⟨_, rfl⟩
  have HV : Hid (V = if 1000 < (Bell.fxAt l m).t - (Bell.fxAt l 0).t then 14 else 0) := by show _ = _; rw [hV]; unfold lastE; rw [hn, Nat.add_sub_cancel]
  rw [← hV]
  obtain ⟨A, hA⟩ : ∃ A, A = Bell.fxAt l 0 := ⟨_, rfl⟩
  obtain ⟨B, hB⟩ : ∃ B, B = Bell.fxAt l m := ⟨_, rfl⟩
  rw [← hA] at g0 a0 HV
  rw [← hB] at gm cL HV
  obtain ⟨b1, b2⟩ := gm
  obtain ⟨a1, a2⟩ := g0
  have bw := fun d os => below_regrown w d os
  have w1 : IntKind.i64.wrap (B.t - A.t) = B.t - A.t := IntWalk.i64_in _ (by omega)
  simp only [Nat.zero_mul, Nat.add_zero] at a0
  clear hl hg hn hA hB b1 b2 a1 a2 hV
  have hfl := fix_tick B.t B.x B.y B.z B.p
  simp only [fxV] at cL
  by_cases hd0 : 1000 < B.t - A.t
  · have hd : decide (1000 < B.t - A.t) = true := decide_eq_true hd0
    have hr : Hid (V = 14) := by show _ = _; rw [HV.out, if_pos hd0]
    go_enter Tryz.func123, Tryz.ntmps123
    go_upto_region 1 with fail
    refine wp_region_quiet_below (by kernel_rfl) (by kernel_rfl) ?_
    quiet_step (fail)
    quiet_step (exact cL _ _)
    repeat (quiet_step (fail))
    refine wpQuiet_nil ?_
    intro _ hw'
    obtain ⟨⟨dq, osq⟩, hw''⟩ := hw'
    subst hw''
    have HB := Lib.hid (bw dq osq)
    clear bw a0 cL
    go_wp2
    go_ret
    exact ⟨ret_int hr.out.symm, HB.out⟩
  · have hd : decide (1000 < B.t - A.t) = false := decide_eq_false hd0
    have hr : Hid (V = 0) := by show _ = _; rw [HV.out, if_neg hd0]
    go_enter Tryz.func123, Tryz.ntmps123
    go_upto_region 1 with fail
    refine wp_region_quiet_below (by kernel_rfl) (by kernel_rfl) ?_
    quiet_step (fail)
    quiet_step (exact cL _ _)
    repeat (quiet_step (fail))
    refine wpQuiet_nil ?_
    intro _ hw'
    obtain ⟨⟨dq, osq⟩, hw''⟩ := hw'
    subst hw''
    have HB := Lib.hid (bw dq osq)
    clear bw a0 cL
    go_wp2
    go_ret
    exact ⟨ret_int hr.out.symm, HB.out⟩
set_option maxHeartbeats 1000000 in
set_option maxRecDepth 100000 in
theorem CheckTrack_any (A : Option Addr) (n c : Nat) (l : List Bell.Fx) (w : World) (hl : TrAt w A n l) (hn : n ≤ 140737488351232) :
    Calls Tryz.prog 45 #[.slice A n c] w fun e w' => e = .returned (.int .i64 (trackE l)) ∧ Below w.heap.size w w' := by
  have HL := Lib.hid hl
  have HN := Lib.hid hl.1
  obtain ⟨V, hV⟩ : ∃ V, V = trackE l := ⟨_, rfl⟩
  have HV : Hid (V = andE (lengthE n 16) (andE (firstR (fxAtE l) n) (lastE l))) := by show _ = _; rw [hV, ← hl.1]; rfl
  rw [← hV]
  clear hl hV
  go_enter Tryz.func45, Tryz.ntmps45
  go_wp2_with fail
  refine (length_fix A n c 16 w).mono ?_
  rintro e w' ⟨rfl, rfl⟩
  obtain ⟨E, hE⟩ : ∃ E, E = lengthE n 16 := ⟨_, rfl⟩
  rw [← hE] at HV ⊢
  by_cases h0 : E = 0
  case neg =>
    have hr : V = E := by rw [HV.out, andE_n h0]
    clear hE
    go_wp2
    go_ret
    exact ⟨ret_int hr.symm, Below.refl _ _⟩
  replace HV : Hid (V = andE (firstR (fxAtE l) n) (lastE l)) := by show _ = _; rw [HV.out, andE_0 h0]
  have hn16 := lengthE_zero2 (k := 16) (hE.symm.trans h0)
  obtain ⟨hn2, hn16⟩ := hn16
  subst h0
  clear hE
  go_wp2
  go_loopw [4, 5, 6, 14] (fun _ _ _ k wr => ∃ j : Nat, j ≤ n ∧ k = .int .i64 j ∧ Hid (∀ i, i < j → fxAtE l i = 0) ∧ Hid (Below w'.heap.size w' wr)) (fun _ _ _ k _ => n - (intOf k).toNat)
  case atStart => exact ⟨0, Nat.zero_le _, rfl, (fun i hi => by omega), Below.refl _ _⟩
  case round =>
    obtain ⟨j, hj, rfl, hz, hb⟩ := hrel
    have HLr := Lib.hid (HL.out.keep hb.out)
    obtain ⟨b, o, rfl, hc⟩ := HLr.out.2 (by omega)
    by_cases hlt : j < n
    · obtain ⟨c0, c1, c2, c3, c4⟩ := hc.2 j hlt
      have HJ : Hid (fxAtE l j = andE (fixE (Bell.fxAt l j).t (Bell.fxAt l j).x (Bell.fxAt l j).y (Bell.fxAt l j).z (Bell.fxAt l j).p) (if 0 < j ∧ (Bell.fxAt l j).t ≤ (Bell.fxAt l (j - 1)).t then 11 else 0)) := rfl
      obtain ⟨P, hP⟩ : ∃ P, P = Bell.fxAt l j := ⟨_, rfl⟩
      rw [← hP] at c0 c1 c2 c3 c4 HJ
      clear hc hP
      have HB := hb
      clear hb
      go_wp2_with fail
      obtain ⟨wa, hwa⟩ : ∃ W, W = (wr.alloc (.cells #[.int .i64 P.t, .int .i64 P.x, .int .i64 P.y, .int .i64 P.z, .int .i64 P.p] 152)) := ⟨_, rfl⟩
      rw [← hwa]
      have B : Hid (Blk wa (wr.heap.size) 152 #[.int .i64 P.t, .int .i64 P.x, .int .i64 P.y, .int .i64 P.z, .int .i64 P.p]) := by show Blk _ _ _ _; rw [hwa]; exact Blk.new _ _ _
      have hba : Below wr.heap.size wr wa := by rw [hwa]; exact ((Below.refl _ _).alloc (Nat.le_refl _) _)
      obtain ⟨gp, hgp⟩ : ∃ g, g = wr.heap.size := ⟨_, rfl⟩
      have HGwa : Hid (gp = wr.heap.size) := hgp
      rw [← hgp] at B
      try rw [← hgp]
      clear hwa hgp
      replace HB := Lib.hid (HB.out.trans (hba.mono HB.out.size))
      clear hba
      clear c0 c1 c2 c3 c4
      refine (fixCheck_any P wa).mono ?_
      rintro e wb ⟨rfl, hbb⟩
      replace HB := Lib.hid (HB.out.trans (hbb.mono HB.out.size))
      replace B := Lib.hid (B.out.below hbb)
      clear hbb
      obtain ⟨F, hF⟩ : ∃ F, F = fixE P.t P.x P.y P.z P.p := ⟨_, rfl⟩
      rw [← hF] at HJ ⊢
      clear hF
      by_cases hF0 : F = 0
      case neg =>
        have hr : Hid (V = F) := by
          show _ = _
          have h1 : fxAtE l j = F := by rw [HJ.out, andE_n hF0]
          have h2 : firstR (fxAtE l) n = F := by rw [firstR_hit hlt hz.out (by rw [h1]; exact hF0), h1]
          rw [HV.out, h2, andE_n hF0]
        go_wp2
        go_ret
        exact ⟨ret_int hr.out.symm, HB.out⟩
      subst hF0
      have HLc := Lib.hid (HL.out.keep HB.out)
      have p0 := B.out.cell 0
      simp only [List.getElem?_toArray, List.getElem?_cons_zero] at p0
      obtain ⟨d, hd⟩ : ∃ d, d = P.t := ⟨_, rfl⟩
      rw [← hd] at p0 HJ
      clear hd B
      rcases Nat.eq_zero_or_pos j with hj0 | hj0
      · subst hj0
        have hr : Hid (fxAtE l 0 = 0) := by show _ = _; rw [HJ.out, andE_0 rfl, if_neg (by omega)]
        go_wp2
        go_region
        go_wp2
        go_roundw
        case rel => exact ⟨1, by omega, by go_num, (fun i hi => by obtain rfl : i = 0 := (by omega); exact hr.out), HB.out.drew⟩
        case measure => simp [intOf]; omega
      · obtain ⟨q, rfl⟩ : ∃ q, j = q + 1 := ⟨j - 1, by omega⟩
        rw [Nat.add_sub_cancel] at HJ
        obtain ⟨b', o', e', hc⟩ := HLc.out.2 (by omega)
        cases e'
        obtain ⟨d1, _, _, _, _⟩ := hc.2 q (by omega)
        obtain ⟨u, hu⟩ : ∃ u, u = (Bell.fxAt l q).t := ⟨_, rfl⟩
        rw [← hu] at d1 HJ
        clear hc hu
        by_cases heq : d ≤ u
        · have hbq : decide (d ≤ u) = true := decide_eq_true heq
          have h11 : fxAtE l (q + 1) = 11 := by rw [HJ.out, andE_0 rfl, if_pos ⟨by omega, heq⟩]
          have hr : Hid (V = 11) := by
            show _ = _
            have h2 : firstR (fxAtE l) n = 11 := by rw [firstR_hit hlt hz.out (by rw [h11]; decide), h11]
            rw [HV.out, h2, andE_n (by decide)]
          clear heq h11
          go_wp2
          go_region
          go_wp2
          go_ret
          exact ⟨ret_int hr.out.symm, HB.out.drew⟩
        · have hbq : decide (d ≤ u) = false := decide_eq_false heq
          have hr : Hid (fxAtE l (q + 1) = 0) := by show _ = _; rw [HJ.out, andE_0 rfl, if_neg (by omega)]
          clear heq
          go_wp2
          go_region
          go_wp2
          go_roundw
          case rel =>
            exact ⟨q + 1 + 1, by omega, by go_num, (fun i hi => by
              rcases Nat.lt_or_ge i (q + 1) with h | h
              · exact hz.out i h
              · obtain rfl : i = q + 1 := (by omega)
                exact hr.out), HB.out.drew⟩
          case measure => simp [intOf]; omega
    · obtain rfl : j = n := by omega
      have hr : Hid (V = lastE l) := by
        show _ = _
        rw [HV.out, andE_0 (firstR_miss fun i hi => hz.out i hi)]
      have hT : ∀ i, i < l.length → 0 ≤ (Bell.fxAt l i).t ∧ (Bell.fxAt l i).t ≤ 100000000 := fun i hi => by
        have := goodFx_fix (andE_zero (hz.out i (by rw [← HN.out]; exact hi))).1
        exact ⟨this.t0, this.t1⟩
      have HCK := Lib.hid (checkLasting_any b o j c l wr hc (by omega) hn16 hT)
      rw [← hr.out] at HCK
      clear hT hc
      go_wp2_with fail
      refine HCK.out.mono ?_
      rintro e w2 ⟨rfl, hb2⟩
      have HB2 := Lib.hid (hb.out.trans (hb2.mono hb.out.size))
      clear hb2
      go_wp2
      go_ret
      exact ⟨rfl, HB2.out⟩
end Go.Proofs.YtmafmebcgmegeaaGreatDoor

namespace Go.Proofs.YtmafmebcgmegeaaGreatDoor
open Go.RowKit Go.Sort
/-- The names that a set holds. -/
def NamesIn (w : World) (b : Nat) (ns : List ByteArray) : Prop := MapIs w b (ns.map fun s => (s, Value.bool true))
def addN (ns : List ByteArray) (s : ByteArray) : List ByteArray := if s ∈ ns then ns else ns ++ [s]
def twiceE (ns : List ByteArray) (s : ByteArray) : Int := if s ∈ ns then 9 else 0
theorem names_get {ns : List ByteArray} {s : ByteArray} : mapGet (ns.map fun s => (s, Value.bool true)) s = if s ∈ ns then some (.bool true) else none := by
  induction ns with
  | nil => rfl
  | cons x ns ih =>
    unfold mapGet at *
    by_cases h : x = s
    · subst h; simp
    · have h' : ¬ s = x := fun e => h e.symm
      simp only [List.map_cons, List.find?_cons, h, decide_false, ih, List.mem_cons, h', false_or]
/-- One block, a map, may change; all else stays. -/
structure OnlyMap (b : Nat) (w w' : World) : Prop where
  os : w'.os = w.os
  tape : w'.tape = w.tape
  output : w'.output = w.output
  size : w.heap.size ≤ w'.heap.size
  block : ∀ k, k < w.heap.size → k ≠ b → w'.heap[k]? = w.heap[k]?
theorem OnlyMap.refl (b : Nat) (w : World) : OnlyMap b w w := ⟨rfl, rfl, rfl, Nat.le_refl _, fun _ _ _ => rfl⟩
theorem OnlyMap.trans {b : Nat} {u v w : World} (h : OnlyMap b u v) (k : OnlyMap b v w) : OnlyMap b u w :=
  ⟨k.os.trans h.os, k.tape.trans h.tape, k.output.trans h.output, Nat.le_trans h.size k.size, fun i hi hb => (k.block i (Nat.lt_of_lt_of_le hi h.size) hb).trans (h.block i hi hb)⟩
theorem OnlyMap.of {b : Nat} {w w' : World} (h : Below w.heap.size w w') : OnlyMap b w w' := ⟨h.os, h.tape, h.output, h.size, fun k hk _ => h.block k hk⟩
theorem OnlyMap.put (b : Nat) (w : World) (s : ByteArray) (v : Value) : OnlyMap b w (World.mapPut w b s v) :=
  ⟨(mapPut_rest s v).1, (mapPut_rest s v).2.1, (mapPut_rest s v).2.2, Nat.le_of_eq (mapPut_size s v).symm, fun _ _ h => mapPut_far s v h⟩
theorem OnlyMap.below {b B : Nat} {w w' : World} (h : OnlyMap b w w') (hB : B ≤ w.heap.size) (hb : B ≤ b) : Below B w w' := ⟨h.os, h.tape, h.output, h.size, fun k hk => h.block k (by omega) (by omega)⟩
theorem OnlyMap.blk {b g : Nat} {w w' : World} {t : TypeId} {cs : Array Value} (h : OnlyMap b w w') (hg : Blk w g t cs) (hne : g ≠ b) : Blk w' g t cs := (h.block g (lt_of_block hg) hne).trans hg
theorem OnlyMap.map {b m : Nat} {w w' : World} {es : List (ByteArray × Value)} (h : OnlyMap b w w') (hm : MapIs w m es) (hne : m ≠ b) : MapIs w' m es := by
  have hl := hm.lt
  obtain ⟨arr, clock, h1, h2⟩ := hm
  exact ⟨arr, clock, (h.block m hl hne).trans h1, h2⟩
theorem OnlyMap.cell {b g i : Nat} {w w' : World} {v : Value} (h : OnlyMap b w w') (hc : w.cell? ⟨g, i, none⟩ = some v) (hne : g ≠ b) : w'.cell? ⟨g, i, none⟩ = some v :=
  (cell_same (p := ⟨g, i, none⟩) (h.block g (World.block_lt_of_cell? _ _ hc) hne)).trans hc
theorem OnlyMap.tr {b n : Nat} {A : Option Addr} {l : List Bell.Fx} {w w' : World} (h : OnlyMap b w w') (ht : TrAt w A n l) (hne : ∀ a, A = some a → a.block ≠ b) : TrAt w' A n l := by
  refine ⟨ht.1, fun hn => ?_⟩
  obtain ⟨g, o, rfl, hf⟩ := ht.2 hn
  refine ⟨g, o, rfl, fixes_keepB hf (h.block g ?_ (hne _ rfl))⟩
  exact World.block_lt_of_cell? _ _ (hf.2 0 hn).1
theorem map_ne {w : World} {g m i : Nat} {v : Value} {es : List (ByteArray × Value)} (hc : w.cell? ⟨g, i, none⟩ = some v) (hm : MapIs w m es) : g ≠ m := fun e => by
  subst e
  obtain ⟨arr, clock, h1, _⟩ := hm
  simp [World.cell?, h1] at hc
theorem mapB_under : Tryz.prog.underlying 290 = some (.map 9 4) := by kernel_rfl
theorem str_under : Tryz.prog.underlying 9 = some .string := by kernel_rfl
theorem bool_zero (w : World) : (zeroValue 4).run Tryz.prog w = .ok (.bool false) w := by kernel_rfl
set_option maxRecDepth 100000 in
theorem once_flight (s : ByteArray) (gm sm : Nat) (ns : List ByteArray) (w : World) (hc : w.cell? ⟨gm, 0, none⟩ = some (.map (some sm))) (hm : NamesIn w sm ns) :
    Calls Tryz.prog 218 #[.string s, .pointer (some ⟨gm, 0, none⟩)] w fun e w' => e = .returned (.int .i64 (twiceE ns s)) ∧ NamesIn w' sm (addN ns s) ∧ OnlyMap sm w w' := by
  have hne := map_ne hc hm
  by_cases hs : s ∈ ns
  · have hg : mapGet (ns.map fun s => (s, Value.bool true)) s = some (.bool true) := by rw [names_get, if_pos hs]
    have hlk := lookup_has mapB_under str_under hm hg false
    have hup := update_same mapB_under str_under hm hg
    simp only [Bool.false_eq_true, if_false] at hlk
    have hr : Hid (twiceE ns s = 9 ∧ addN ns s = ns) := by show _ ∧ _; unfold twiceE addN; rw [if_pos hs, if_pos hs]; exact ⟨rfl, rfl⟩
    have HM := Lib.hid hm
    clear hs hg hm
    go_enter Tryz.func218, Tryz.ntmps218
    go_wp2_with fail
    refine (that_any false 9 _).mono ?_
    rintro e w2 ⟨rfl, rfl⟩
    go_wp2
    go_ret
    exact ⟨ret_int (by rw [hr.out.1]), by rw [hr.out.2]; exact HM.out, OnlyMap.refl _ _⟩
  · have hg : mapGet (ns.map fun s => (s, Value.bool true)) s = none := by rw [names_get, if_neg hs]
    have hlk := lookup_lacks mapB_under str_under hm (bool_zero w) hg false
    have hup := update_new mapB_under str_under hm hg (.bool true)
    simp only [Bool.false_eq_true, if_false] at hlk
    have hr : Hid (twiceE ns s = 0 ∧ addN ns s = ns ++ [s]) := by show _ ∧ _; unfold twiceE addN; rw [if_neg hs, if_neg hs]; exact ⟨rfl, rfl⟩
    have HM : Hid (NamesIn (World.mapPut w sm s (.bool true)) sm (ns ++ [s])) := by
      show MapIs _ _ _
      rw [List.map_append]
      exact hm.put s _
    have HO : Hid (OnlyMap sm w (World.mapPut w sm s (.bool true))) := OnlyMap.put _ _ _ _
    obtain ⟨w1, hw1⟩ : ∃ X, X = World.mapPut w sm s (.bool true) := ⟨_, rfl⟩
    rw [← hw1] at hup HM HO
    clear hs hg hm hw1
    go_enter Tryz.func218, Tryz.ntmps218
    go_wp2_with fail
    refine (that_any true 9 _).mono ?_
    rintro e w2 ⟨rfl, rfl⟩
    go_wp2
    go_ret
    exact ⟨ret_int (by rw [hr.out.1]), by rw [hr.out.2]; exact HM.out, HO.out⟩
end Go.Proofs.YtmafmebcgmegeaaGreatDoor
