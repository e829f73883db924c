/- Texts Fe of the proof. -/
import Derived.Test.YtmafmebcgmegeaaGreatDoorFz32
import Derived.Test.YtmafmebcgmegeaaGreatDoorFz33
namespace Go.Proofs.YtmafmebcgmegeaaGreatDoor
open Go.RowKit Go.Sort
theorem fixI_pos {ns : Nat → ByteArray} {k : Nat} {s : ByteArray} : 0 ≤ fixI ns k s ↔ ∃ i, i < k ∧ ns i = s := by
  unfold fixI
  cases hf : (List.range k).find? (fun i => decide (ns i = s)) with
  | none =>
    refine ⟨fun h => absurd h (by simp), fun ⟨i, hi, e⟩ => ?_⟩; exact absurd (decide_eq_true e) (List.find?_eq_none.1 hf i (List.mem_range.2 hi))
  | some i =>
    refine ⟨fun _ => ⟨i, List.mem_range.1 (List.mem_of_find?_eq_some hf), ?_⟩, fun _ => by simp⟩; have := List.find?_some hf
    simpa using this
theorem mem_names {fs : List Fl} {s : ByteArray} : ∀ {k : Nat}, s ∈ namesTo fs k ↔ ∃ i, i < k ∧ (flAt fs i).nm = s
  | 0 => by simp [namesTo]
  | k + 1 => by
    have ih := mem_names (fs := fs) (s := s) (k := k)
    have e : s ∈ namesTo fs (k + 1) ↔ s ∈ namesTo fs k ∨ s = (flAt fs k).nm := by
      show s ∈ addN (namesTo fs k) (flAt fs k).nm ↔ _
      unfold addN
      by_cases h : (flAt fs k).nm ∈ namesTo fs k
      · rw [if_pos h]; exact ⟨.inl, fun h' => h'.elim id (fun e => e ▸ h)⟩
      · rw [if_neg h, List.mem_append, List.mem_singleton]
    rw [e, ih]
    constructor
    · rintro (⟨i, hi, h⟩ | h)
      · exact ⟨i, by omega, h⟩
      · exact ⟨k, by omega, h.symm⟩
    · rintro ⟨i, hi, h⟩; rcases Nat.lt_or_ge i k with h' | h'
      · exact .inl ⟨i, h', h⟩
      · obtain rfl : i = k := by omega
        exact .inr h.symm
theorem tqE_ref (ts : List Tq) (i : Nat) : tqE ts i = firstE [Bell.tyE (nameE (tqAt ts i).nm) (tqAt ts i).sh (tqAt ts i).T, if decide (0 ≤ fixI (fun k => (tqAt ts k).nm) i (tqAt ts i).nm) then 9 else 0] := by
  have e : twB ts i = decide (0 ≤ fixI (fun k => (tqAt ts k).nm) i (tqAt ts i).nm) := by
    rw [Bool.eq_iff_iff, decide_eq_true_iff, fixI_pos]; unfold twB; rw [List.any_eq_true]
    constructor
    · rintro ⟨k, hk, h⟩; exact ⟨k, List.mem_range.1 hk, of_decide_eq_true h⟩
    · rintro ⟨k, hk, h⟩; exact ⟨k, List.mem_range.2 hk, decide_eq_true h⟩
  unfold tqE andE; rw [firstE_ne, e]
theorem flAtE_ref (ts : List Tq) (tn : Nat) (fs : List Fl) (i : Nat) : flAtE (kqTo ts tn) fs i = firstE [nameE (flAt fs i).nm, if decide (0 ≤ fixI (fun k => (flAt fs k).nm) i (flAt fs i).nm) then 9 else 0, if decide (fixI (fun k => (tqAt ts k).nm) tn (flAt fs i).ty < 0) then 10 else 0, trackE (flAt fs i).tr] := by
  unfold flAtE flE
  have e1 : twiceE (namesTo fs i) (flAt fs i).nm = if decide (0 ≤ fixI (fun k => (flAt fs k).nm) i (flAt fs i).nm) then 9 else 0 := by
    unfold twiceE
    by_cases h : (flAt fs i).nm ∈ namesTo fs i
    · rw [if_pos h, if_pos (decide_eq_true (fixI_pos.2 (mem_names.1 h)))]
    · rw [if_neg h, if_neg (by rw [decide_eq_true_iff, fixI_pos]; exact fun h' => h (mem_names.2 h'))]
  have e2 : knownE (knownB (kqTo ts tn) (flAt fs i).ty) = if decide (fixI (fun k => (tqAt ts k).nm) tn (flAt fs i).ty < 0) then 10 else 0 := by
    rw [known_ix]; unfold knownE
    by_cases h : tyIx ts tn (flAt fs i).ty < tn
    · have h1 : 0 ≤ fixI (fun k => (tqAt ts k).nm) tn (flAt fs i).ty := fixI_pos.2 ⟨_, h, tyIx_at h⟩; rw [if_pos (decide_eq_true h), if_neg (by rw [decide_eq_true_iff]; omega)]
    · have h1 : ¬ 0 ≤ fixI (fun k => (tqAt ts k).nm) tn (flAt fs i).ty := fun h' => by
        obtain ⟨k, hk, e⟩ := fixI_pos.1 h'; exact h (tyIx_lt hk e)
      rw [if_neg (by rw [decide_eq_true_iff]; exact h), if_pos (by rw [decide_eq_true_iff]; omega)]
  rw [e1, e2]
theorem slice_types (b o n c j : Nat) (W : World) (h : j ≤ c) : (Instr.slice 109 (.slice (some ⟨b, o, none⟩) n c) none (some (.int .i64 j)) none).run Tryz.prog W = .ok (.slice (some ⟨b, o, none⟩) j c) W := by
  rw [run_slice_h W _ _ _ _ (by kernel_rfl) .i64 _ (by omega) (by omega), show Tryz.prog.elem 109 = 26 by kernel_rfl, show (Go.sizeOf 26).run Tryz.prog W = .ok 13 W by kernel_rfl]
  simp [Result.andThen, sliced, Addr.add]
theorem slice_flights (b o n c j : Nat) (W : World) (h : j ≤ c) : (Instr.slice 110 (.slice (some ⟨b, o, none⟩) n c) none (some (.int .i64 j)) none).run Tryz.prog W = .ok (.slice (some ⟨b, o, none⟩) j c) W := by
  rw [run_slice_h W _ _ _ _ (by kernel_rfl) .i64 _ (by omega) (by omega), show Tryz.prog.elem 110 = 151 by kernel_rfl, show (Go.sizeOf 151).run Tryz.prog W = .ok 3 W by kernel_rfl]
  simp [Result.andThen, sliced, Addr.add]
theorem fl_ok_cells {w : World} {A : Option Addr} {n : Nat} {fs : List Fl} (h : FlsAt w A n fs) : 0 < n → ∃ b o, A = some ⟨b, o, none⟩ ∧ ∀ i, i < n → w.cell? ⟨b, o + i * 3, none⟩ = some (.string (flAt fs i).nm) := fun hn => by
  obtain ⟨b, o, e, hc⟩ := h.2 hn; exact ⟨b, o, e, fun i hi => (hc i hi).1.1⟩
theorem rq_names {w : World} {A : Option Addr} {n : Nat} {ts : List Tq} (h : RqsAt w A n ts) : 0 < n → ∃ b o, A = some ⟨b, o, none⟩ ∧ ∀ i, i < n → w.cell? ⟨b, o + i * 13, none⟩ = some (.string (tqAt ts i).nm) := fun hn => by
  obtain ⟨b, o, e, hc⟩ := h.2 hn; exact ⟨b, o, e, fun i hi => rq_nm (hc i hi).1⟩
set_option maxHeartbeats 4000000 in
set_option maxRecDepth 100000 in
theorem refCheckFlights_any (A : Option Addr) (n c : Nat) (ts : List Tq) (FA : Option Addr) (fn fc : Nat) (fs : List Fl) (w : World) (hts : RqsAt w A n ts) (hS : ∀ i, i < n → TqS (tqAt ts i)) (hfs : FlsAt w FA fn fs) (hnc : n ≤ c) (hfc : fn ≤ fc) (hn : n ≤ 9) (hfn : fn ≤ 17) :
    Calls Tryz.prog 68 #[.slice A n c, .slice FA fn fc] w fun e w' => e = .returned (.int .i64 (cfE ts n fs)) ∧ Below w.heap.size w w' := by
  have HTS := Lib.hid hts; have HS := Lib.hid hS; have HFS := Lib.hid hfs; have HLF := Lib.hid hfs.1; obtain ⟨V, hV⟩ : ∃ V, V = cfE ts n fs := ⟨_, rfl⟩; have HV := Lib.hid hV; rw [← hV]; clear hts hS hfs hV
  by_cases hn8 : 8 < n
  · have hv : Hid (V = 5) := by show _ = _; rw [HV.out]; unfold cfE namedE atMostE; rw [if_pos (by omega)]; rfl
    have hd : decide ((8 : Int) < (n : Int)) = true := decide_eq_true (by omega); clear hn8
    go_enter Tryz.func68, Tryz.ntmps68
    go_wp2
    go_ret
    exact ⟨ret_int hv.out.symm, Below.refl _ _⟩
  have hd : decide ((8 : Int) < (n : Int)) = false := decide_eq_false (by omega)
  replace HV : Hid (V = andE (firstR (tqE ts) n) (andE (atMostE fn 16) (firstR (flAtE (kqTo ts n) fs) fn))) := by
    show _ = _
    rw [HV.out]; unfold cfE namedE flsE; rw [HLF.out, show atMostE n 8 = 0 by unfold atMostE; rw [if_neg (by omega)], andE_0 rfl]
  clear hn8
  go_enter Tryz.func68, Tryz.ntmps68
  go_upto_region 3 with fail
  clear hd; go_wp2
  go_loopw [5, 6] (fun k _ wr => ∃ j : Nat, j ≤ n ∧ k = .int .i64 j ∧ Hid (∀ i, i < j → tqE ts i = 0) ∧ Hid (Below w.heap.size w wr)) (fun k _ _ => n - (intOf k).toNat)
  case atStart => exact ⟨0, Nat.zero_le _, rfl, (fun i hi => by omega), Below.refl _ _⟩
  case round =>
    obtain ⟨j, hj, rfl, hz, hb⟩ := hrel; have vj : IntKind.i64.wrap ((j : Int) + 1) = ((j + 1 : Nat) : Int) := by rw [IntWalk.i64_in _ (by omega)]; omega
    have HB := Lib.hid hb.out; clear hb
    by_cases hlt : j < n
    · have hd : decide ((j : Int) < (n : Int)) = true := decide_eq_true (by omega); have pj : (j : Int) < (n : Int) := by omega
      have hTE := tqE_ref ts j; have hq := HTS.out.keep HB.out; have HNM := Lib.hid (rq_names hq); obtain ⟨b, o, rfl, hc⟩ := hq.2 (by omega); obtain ⟨hrg, hrt⟩ := hc j hlt; obtain ⟨hd8, hsh⟩ := HS.out j hlt; obtain ⟨FI, hFI⟩ : ∃ x, x = fixI (fun k => (tqAt ts k).nm) j (tqAt ts j).nm := ⟨_, rfl⟩; obtain ⟨TE, hTEE⟩ : ∃ x, x = Bell.tyE (nameE (tqAt ts j).nm) (tqAt ts j).sh (tqAt ts j).T := ⟨_, rfl⟩; rw [← hFI, ← hTEE] at hTE; obtain ⟨WH, hWH⟩ : ∃ x : Int, x = if decide (0 ≤ FI) then 9 else 0 := ⟨_, rfl⟩; rw [← hWH] at hTE; obtain ⟨Z, hZ⟩ : ∃ x, x = firstE [TE, WH] := ⟨_, rfl⟩; rw [← hZ] at hTE; obtain ⟨T, hT⟩ : ∃ T, T = tqAt ts j := ⟨_, rfl⟩; rw [← hT] at hrg hrt hd8 hsh hFI hTEE; have HCT := Lib.hid (fun W (hE : Below wr.heap.size wr W) => refType_full W (hrt.keep hE) hd8 hsh); rw [← hTEE] at HCT
      have HFT := Lib.hid (fun W (hE : Below wr.heap.size wr W) => refFindType_any (some ⟨b, o, none⟩) j c (fun k => (tqAt ts k).nm) T.nm W (fun h0 => by
        obtain ⟨b', o', e, hcc⟩ := HNM.out (by omega)
        cases e
        exact ⟨b, o, rfl, fun i hi => by rw [hE.cell (p := ⟨b, o + i * 13, none⟩) (World.block_lt_of_cell? _ _ (hcc i (by omega)))]; exact hcc i (by omega)⟩) (by omega))
      rw [← hFI] at HFT; have HRG := Lib.hid hrg; have HSL := Lib.hid (fun W => slice_types b o n c j W (by omega)); have HTE := Lib.hid hTE; have HWH := Lib.hid hWH; have HZ := Lib.hid hZ; clear hTE hWH hZ hFI hTEE hc hrg hrt hd8 hsh hq hT
      go_upto_region 6 with fail
      clear hd; refine wp_region_allN 19 rfl (by kernel_rfl) (by kernel_rfl) [GR.eq (.slice (some ⟨b, o, none⟩) n c), GR.eq (.int .i64 j), GR.eq (.pointer (some ⟨b, o + j * 13, none⟩)), GR.eq (.agg T.cs), GR.eq (.int .i64 TE), GR.eq (.slice (some ⟨b, o, none⟩) n c), GR.eq (.int .i64 j), GR.eq (.slice (some ⟨b, o, none⟩) j c), GR.eq (.slice (some ⟨b, o, none⟩) n c), GR.eq (.int .i64 j), GR.eq (.pointer (some ⟨b, o + j * 13, none⟩)), GR.eq (.pointer (some ⟨b, o + j * 13, none⟩)), GR.eq (.string T.nm), GR.eq (.int .i64 FI), GR.eq (.bool (decide (0 ≤ FI))), GR.eq (.int .i64 WH), GR.row 2 3 #[.int .i64 TE, .int .i64 WH], GR.eq (.int .i64 Z), GR.eq (.int .i64 Z)] 85 rfl (by kernel_rfl) ?_ ?_
      · refine ⟨?_, ?_, ?_, ?_, ?_, ?_, ?_, ?_, ?_, ?_, ?_, ?_, ?_, ?_, ?_, ?_, ?_, ?_, ?_, trivial⟩
        · intro a W hE hd ho; have e0 : a.tmps[0]?.getD undef = .slice (some ⟨b, o, none⟩) n c := ho 0 (by kernel_rfl); exact gs_same (v := .slice (some ⟨b, o, none⟩) n c) (by go_simp) rfl
        · intro a W hE hd ho; have e5 : a.tmps[5]?.getD undef = .int .i64 j := ho 5 (by kernel_rfl); exact gs_same (v := .int .i64 j) (by go_simp) rfl
        · intro a W hE hd ho; have e18 : a.tmps[18]?.getD undef = .slice (some ⟨b, o, none⟩) n c := hd 0 18 (by kernel_rfl) (by kernel_rfl); have e19 : a.tmps[19]?.getD undef = .int .i64 j := hd 1 19 (by kernel_rfl) (by kernel_rfl); exact gs_same (v := .pointer (some ⟨b, o + j * 13, none⟩)) (by go_simp) rfl
        · intro a W hE hd ho; have e20 : a.tmps[20]?.getD undef = .pointer (some ⟨b, o + j * 13, none⟩) := hd 2 20 (by kernel_rfl) (by kernel_rfl); exact gs_load 26 (.tmp 20) rfl ⟨b, o + j * 13, none⟩ (.agg T.cs) ((eval_getD _ _).trans e20) (rq_lv (range_keep HRG.out hE)) rfl
        · intro a W hE hd ho; have e21 : a.tmps[21]?.getD undef = .agg T.cs := hd 3 21 (by kernel_rfl) (by kernel_rfl); refine gs_call (f := 20) (args := #[.agg T.cs]) (by go_simp) ?_; refine (HCT.out W hE).mono ?_; rintro e w' ⟨rfl, hb⟩; exact ⟨_, rfl, hb, rfl⟩
        · intro a W hE hd ho; have e0 : a.tmps[0]?.getD undef = .slice (some ⟨b, o, none⟩) n c := ho 0 (by kernel_rfl); exact gs_same (v := .slice (some ⟨b, o, none⟩) n c) (by go_simp) rfl
        · intro a W hE hd ho; have e5 : a.tmps[5]?.getD undef = .int .i64 j := ho 5 (by kernel_rfl); exact gs_same (v := .int .i64 j) (by go_simp) rfl
        · intro a W hE hd ho; have e23 : a.tmps[23]?.getD undef = .slice (some ⟨b, o, none⟩) n c := hd 5 23 (by kernel_rfl) (by kernel_rfl); have e24 : a.tmps[24]?.getD undef = .int .i64 j := hd 6 24 (by kernel_rfl) (by kernel_rfl); have hsl := HSL.out W; exact gs_same (v := .slice (some ⟨b, o, none⟩) j c) (by go_simp) rfl
        · intro a W hE hd ho; have e0 : a.tmps[0]?.getD undef = .slice (some ⟨b, o, none⟩) n c := ho 0 (by kernel_rfl); exact gs_same (v := .slice (some ⟨b, o, none⟩) n c) (by go_simp) rfl
        · intro a W hE hd ho; have e5 : a.tmps[5]?.getD undef = .int .i64 j := ho 5 (by kernel_rfl); exact gs_same (v := .int .i64 j) (by go_simp) rfl
        · intro a W hE hd ho; have e26 : a.tmps[26]?.getD undef = .slice (some ⟨b, o, none⟩) n c := hd 8 26 (by kernel_rfl) (by kernel_rfl); have e27 : a.tmps[27]?.getD undef = .int .i64 j := hd 9 27 (by kernel_rfl) (by kernel_rfl); exact gs_same (v := .pointer (some ⟨b, o + j * 13, none⟩)) (by go_simp) rfl
        · intro a W hE hd ho; have e28 : a.tmps[28]?.getD undef = .pointer (some ⟨b, o + j * 13, none⟩) := hd 10 28 (by kernel_rfl) (by kernel_rfl); exact gs_same (v := .pointer (some ⟨b, o + j * 13, none⟩)) (by go_simp) rfl
        · intro a W hE hd ho; have e29 : a.tmps[29]?.getD undef = .pointer (some ⟨b, o + j * 13, none⟩) := hd 11 29 (by kernel_rfl) (by kernel_rfl); have c0 := rq_nm (range_keep HRG.out hE); exact gs_same (v := .string T.nm) (by go_simp) rfl
        · intro a W hE hd ho; have e25 : a.tmps[25]?.getD undef = .slice (some ⟨b, o, none⟩) j c := hd 7 25 (by kernel_rfl) (by kernel_rfl); have e30 : a.tmps[30]?.getD undef = .string T.nm := hd 12 30 (by kernel_rfl) (by kernel_rfl); refine gs_call (f := 144) (args := #[.slice (some ⟨b, o, none⟩) j c, .string T.nm]) (by go_simp) ?_; refine (HFT.out W hE).mono ?_; rintro e w' ⟨rfl, rfl⟩; exact ⟨_, rfl, Ext.refl _, rfl⟩
        · intro a W hE hd ho; have e31 : a.tmps[31]?.getD undef = .int .i64 FI := hd 13 31 (by kernel_rfl) (by kernel_rfl); exact gs_same (v := .bool (decide (0 ≤ FI))) (by go_simp) rfl
        · intro a W hE hd ho; have e32 : a.tmps[32]?.getD undef = .bool (decide (0 ≤ FI)) := hd 14 32 (by kernel_rfl) (by kernel_rfl); refine gs_call (f := 105) (args := #[.bool (decide (0 ≤ FI)), .int .i64 9]) (by go_simp) ?_; refine (refWhen_as W HWH.out).mono ?_; rintro e w' ⟨rfl, rfl⟩; exact ⟨_, rfl, Ext.refl _, rfl⟩
        · intro a W hE hd ho; have e22 : a.tmps[22]?.getD undef = .int .i64 TE := hd 4 22 (by kernel_rfl) (by kernel_rfl); have e33 : a.tmps[33]?.getD undef = .int .i64 WH := hd 15 33 (by kernel_rfl) (by kernel_rfl); exact gs_val (v := .slice (some ⟨W.heap.size, 0, none⟩) 2 2) (W' := W.alloc (.cells #[.int .i64 TE, .int .i64 WH] 3)) (by go_simp) ((Below.refl _ _).alloc (Nat.le_refl _) _) ⟨_, rfl, Blk.new _ _ _⟩
        · intro a W hE hd ho; obtain ⟨gr, e34, hr⟩ : ∃ g, a.tmps[34]?.getD undef = .slice (some ⟨g, 0, none⟩) 2 2 ∧ Blk W g 3 #[.int .i64 TE, .int .i64 WH] := hd 16 34 (by kernel_rfl) (by kernel_rfl); refine gs_call (f := 99) (args := #[.slice (some ⟨gr, 0, none⟩) 2 2]) (by go_simp) ?_; refine (refFirst2 _ _ TE WH _ (hr.cell 0) (hr.cell 1)).mono ?_; rintro e w' ⟨rfl, rfl⟩; exact ⟨_, rfl, Ext.refl _, by rw [HZ.out]; rfl⟩
        · intro a W hE hd ho; have e35 : a.tmps[35]?.getD undef = .int .i64 Z := hd 17 35 (by kernel_rfl) (by kernel_rfl); exact gs_same (v := .int .i64 Z) (by go_simp) rfl
      intro va wa hE hR; have y0 : va 0 = .slice (some ⟨b, o, none⟩) n c := hR 0 (by omega); have y1 : va 1 = .int .i64 j := hR 1 (by omega); have y2 : va 2 = .pointer (some ⟨b, o + j * 13, none⟩) := hR 2 (by omega); have y3 : va 3 = .agg T.cs := hR 3 (by omega); have y4 : va 4 = .int .i64 TE := hR 4 (by omega); have y5 : va 5 = .slice (some ⟨b, o, none⟩) n c := hR 5 (by omega); have y6 : va 6 = .int .i64 j := hR 6 (by omega); have y7 : va 7 = .slice (some ⟨b, o, none⟩) j c := hR 7 (by omega); have y8 : va 8 = .slice (some ⟨b, o, none⟩) n c := hR 8 (by omega); have y9 : va 9 = .int .i64 j := hR 9 (by omega); have y10 : va 10 = .pointer (some ⟨b, o + j * 13, none⟩) := hR 10 (by omega); have y11 : va 11 = .pointer (some ⟨b, o + j * 13, none⟩) := hR 11 (by omega); have y12 : va 12 = .string T.nm := hR 12 (by omega); have y13 : va 13 = .int .i64 FI := hR 13 (by omega); have y14 : va 14 = .bool (decide (0 ≤ FI)) := hR 14 (by omega)
      have y15 : va 15 = .int .i64 WH := hR 15 (by omega); obtain ⟨zz16, y16⟩ : ∃ v, va 16 = v := ⟨_, rfl⟩; have y17 : va 17 = .int .i64 Z := hR 17 (by omega); have y18 : va 18 = .int .i64 Z := hR 18 (by omega); simp only [List.range, List.range.loop, List.foldl_cons, List.foldl_nil, y0, y1, y2, y3, y4, y5, y6, y7, y8, y9, y10, y11, y12, y13, y14, y15, y16, y17, y18, List.drop_succ_cons, List.drop_zero]; simp only [dstAt, List.getElem?_toArray, List.getElem?_cons_zero, List.getElem?_cons_succ, Option.bind_some, Act.put, List.setIfInBounds_toArray, List.set_cons_zero, List.set_cons_succ]; clear y0 y1 y2 y3 y4 y5 y6 y7 y8 y9 y10 y11 y12 y13 y14 y15 y16 y17 y18 hR; have hb := hE.below; replace HB := Lib.hid (HB.out.trans (hb.mono HB.out.size)); clear hb; clear hE HCT HFT HRG HSL HNM HZ HWH
      by_cases hZ0 : Z = 0
      · have hq : Hid (∀ i, i < j + 1 → tqE ts i = 0) := fun i hi => by
          rcases Nat.lt_or_ge i j with h | h
          · exact hz.out i h
          · obtain rfl : i = j := by omega
            rw [HTE.out, hZ0]
        subst hZ0; clear HTE hz; go_wp2; go_roundw
        case rel => exact ⟨j + 1, by omega, by go_num, hq, HB⟩
        case measure => simp [intOf]; omega
      · have hv : Hid (V = Z) := by
          show _ = _
          have h1 : firstR (tqE ts) n = Z := by rw [firstR_hit hlt hz.out (by rw [HTE.out]; exact hZ0), HTE.out]
          rw [HV.out, h1, andE_n hZ0]
        have hz1 : (Z != 0) = true := by simp [hZ0]
        clear hz HTE; go_wp2
        (try simp only [Exit.inBlock, Exit.then])
        refine bodyPost_ret (v := .int .i64 Z) (by simp [results, Tryz.results68, go_sem, asAddr]) rfl ?_; exact ⟨ret_int hv.out.symm, HB.out⟩
    · have hd : decide ((j : Int) < (n : Int)) = false := decide_eq_false (by omega); obtain rfl : j = n := by omega
      replace HV : Hid (V = andE (atMostE fn 16) (firstR (flAtE (kqTo ts j) fs) fn)) := by
        show _ = _
        rw [HV.out, andE_0 (firstR_miss hz.out)]
      clear hz vj hlt hj
      by_cases hf16 : 16 < fn
      · have hv : Hid (V = 5) := by show _ = _; rw [HV.out]; unfold atMostE; rw [if_pos (by omega)]; rfl
        have hd2 : decide ((16 : Int) < (fn : Int)) = true := decide_eq_true (by omega); clear hf16; go_wp2
        (try simp only [Exit.inBlock, Exit.then])
        refine bodyPost_ret (v := .int .i64 5) (by simp [results, Tryz.results68, go_sem, asAddr]) rfl ?_; exact ⟨ret_int hv.out.symm, HB.out⟩
      have hd2 : decide ((16 : Int) < (fn : Int)) = false := decide_eq_false (by omega)
      replace HV : Hid (V = firstR (flAtE (kqTo ts j) fs) fn) := by
        show _ = _
        rw [HV.out, andE_0 (by unfold atMostE; rw [if_neg (by omega)])]
      obtain ⟨m, hm⟩ : ∃ m, m = j := ⟨_, rfl⟩; clear hf16
      go_upto_region 11 with fail
      clear hd hd2; rw [← hm] at HV HTS hnc hn; rw [← hm]; clear HS hm; replace HTS := Lib.hid (HTS.out.keep HB.out); replace HFS := Lib.hid (HFS.out.keep HB.out); obtain ⟨w0, hw0⟩ : ∃ W, W = wr := ⟨_, rfl⟩; rw [← hw0] at HTS HFS HB ⊢; clear hw0; go_wp2
      go_loopw [7, 8] (fun k _ wr => ∃ j : Nat, j ≤ fn ∧ k = .int .i64 j ∧ Hid (∀ i, i < j → flAtE (kqTo ts m) fs i = 0) ∧ Hid (Below w0.heap.size w0 wr)) (fun k _ _ => fn - (intOf k).toNat)
      case atStart => exact ⟨0, Nat.zero_le _, rfl, (fun i hi => by omega), Below.refl _ _⟩
      case round =>
        obtain ⟨j, hj, rfl, hz, hb⟩ := hrel; have vj : IntKind.i64.wrap ((j : Int) + 1) = ((j + 1 : Nat) : Int) := by rw [IntWalk.i64_in _ (by omega)]; omega
        have HB0 := Lib.hid hb.out; have HBW := Lib.hid (HB.out.trans (hb.out.mono HB.out.size)); clear hb
        by_cases hlt : j < fn
        · have hd : decide ((j : Int) < (fn : Int)) = true := decide_eq_true (by omega); have pj : (j : Int) < (fn : Int) := by omega
          have hTE := flAtE_ref ts m fs j; have hq := HFS.out.keep HB0.out; have HNM := Lib.hid (fl_ok_cells hq); have HTN := Lib.hid (rq_names (HTS.out.keep HB0.out)); obtain ⟨bf, of, rfl, hc⟩ := hq.2 (by omega); obtain ⟨⟨c0, c1, c2⟩, hok⟩ := hc j hlt; obtain ⟨F1, hF1⟩ : ∃ x, x = fixI (fun k => (flAt fs k).nm) j (flAt fs j).nm := ⟨_, rfl⟩; obtain ⟨F2, hF2⟩ : ∃ x, x = fixI (fun k => (tqAt ts k).nm) m (flAt fs j).ty := ⟨_, rfl⟩; obtain ⟨NE, hNE⟩ : ∃ x, x = nameE (flAt fs j).nm := ⟨_, rfl⟩; obtain ⟨KE, hKE⟩ : ∃ x, x = trackE (flAt fs j).tr := ⟨_, rfl⟩; rw [← hF1, ← hF2, ← hNE, ← hKE] at hTE; obtain ⟨W1, hW1⟩ : ∃ x : Int, x = if decide (0 ≤ F1) then 9 else 0 := ⟨_, rfl⟩; obtain ⟨W2, hW2⟩ : ∃ x : Int, x = if decide (F2 < 0) then 10 else 0 := ⟨_, rfl⟩; rw [← hW1, ← hW2] at hTE; obtain ⟨Z, hZ⟩ : ∃ x, x = firstE [NE, W1, W2, KE] := ⟨_, rfl⟩; rw [← hZ] at hTE; obtain ⟨G, hG⟩ : ∃ G, G = flAt fs j := ⟨_, rfl⟩
          rw [← hG] at c0 c1 c2 hok hF1 hF2 hNE hKE; have HCN := Lib.hid (fun W => refName_full G.nm W hok.sz); rw [← hNE] at HCN; have HCK := Lib.hid (fun W (hE : Below wr.heap.size wr W) => refTrack_full G.A G.n G.c G.tr W (hok.tr.keep hE) hok.n); rw [← hKE] at HCK
          have HFF := Lib.hid (fun W (hE : Below wr.heap.size wr W) => refFindFlight_any (some ⟨bf, of, none⟩) j fc (fun k => (flAt fs k).nm) G.nm W (fun h0 => by
            obtain ⟨b', o', e, hcc⟩ := HNM.out (by omega)
            cases e
            exact ⟨bf, of, rfl, fun i hi => by rw [hE.cell (p := ⟨bf, of + i * 3, none⟩) (World.block_lt_of_cell? _ _ (hcc i (by omega)))]; exact hcc i (by omega)⟩) (by omega))
          rw [← hF1] at HFF
          have HFT := Lib.hid (fun W (hE : Below wr.heap.size wr W) => refFindType_any A m c (fun k => (tqAt ts k).nm) G.ty W (fun h0 => by
            obtain ⟨b', o', e, hcc⟩ := HTN.out h0; exact ⟨b', o', e, fun i hi => by rw [hE.cell (p := ⟨b', o' + i * 13, none⟩) (World.block_lt_of_cell? _ _ (hcc i hi))]; exact hcc i hi⟩) (by omega))
          rw [← hF2] at HFT; have C0 := Lib.hid c0; have C1 := Lib.hid c1; have C2 := Lib.hid c2; have HSL := Lib.hid (fun W => slice_flights bf of fn fc j W (by omega)); have HTE := Lib.hid hTE; have HW1 := Lib.hid hW1; have HW2 := Lib.hid hW2; have HZ := Lib.hid hZ; clear hTE hW1 hW2 hZ hF1 hF2 hNE hKE hc hok hq hG c0 c1 c2
          go_upto_region 14 with fail
          clear hd; refine wp_region_allN 35 rfl (by kernel_rfl) (by kernel_rfl) [GR.eq (.slice (some ⟨bf, of, none⟩) fn fc), GR.eq (.int .i64 j), GR.eq (.pointer (some ⟨bf, of + j * 3, none⟩)), GR.eq (.pointer (some ⟨bf, of + j * 3, none⟩)), GR.eq (.string G.nm), GR.eq (.int .i64 NE), GR.eq (.slice (some ⟨bf, of, none⟩) fn fc), GR.eq (.int .i64 j), GR.eq (.slice (some ⟨bf, of, none⟩) j fc), GR.eq (.slice (some ⟨bf, of, none⟩) fn fc), GR.eq (.int .i64 j), GR.eq (.pointer (some ⟨bf, of + j * 3, none⟩)), GR.eq (.pointer (some ⟨bf, of + j * 3, none⟩)), GR.eq (.string G.nm), GR.eq (.int .i64 F1), GR.eq (.bool (decide (0 ≤ F1))), GR.eq (.int .i64 W1), GR.eq (.slice A m c), GR.eq (.slice (some ⟨bf, of, none⟩) fn fc), GR.eq (.int .i64 j), GR.eq (.pointer (some ⟨bf, of + j * 3, none⟩)), GR.eq (.pointer (some ⟨bf, of + j * 3 + 1, none⟩)), GR.eq (.string G.ty), GR.eq (.int .i64 F2), GR.eq (.bool (decide (F2 < 0))), GR.eq (.int .i64 W2), GR.eq (.slice (some ⟨bf, of, none⟩) fn fc), GR.eq (.int .i64 j), GR.eq (.pointer (some ⟨bf, of + j * 3, none⟩)), GR.eq (.pointer (some ⟨bf, of + j * 3 + 2, none⟩)), GR.eq (.slice G.A G.n G.c), GR.eq (.int .i64 KE), GR.row 4 3 #[.int .i64 NE, .int .i64 W1, .int .i64 W2, .int .i64 KE], GR.eq (.int .i64 Z), GR.eq (.int .i64 Z)] 85 rfl (by kernel_rfl) ?_ ?_
          · refine ⟨?_, ?_, ?_, ?_, ?_, ?_, ?_, ?_, ?_, ?_, ?_, ?_, ?_, ?_, ?_, ?_, ?_, ?_, ?_, ?_, ?_, ?_, ?_, ?_, ?_, ?_, ?_, ?_, ?_, ?_, ?_, ?_, ?_, ?_, ?_, trivial⟩
            · intro a W hE hd ho; have e1 : a.tmps[1]?.getD undef = .slice (some ⟨bf, of, none⟩) fn fc := ho 1 (by kernel_rfl); exact gs_same (v := .slice (some ⟨bf, of, none⟩) fn fc) (by go_simp) rfl
            · intro a W hE hd ho; have e7 : a.tmps[7]?.getD undef = .int .i64 j := ho 7 (by kernel_rfl); exact gs_same (v := .int .i64 j) (by go_simp) rfl
            · intro a W hE hd ho; have e48 : a.tmps[48]?.getD undef = .slice (some ⟨bf, of, none⟩) fn fc := hd 0 48 (by kernel_rfl) (by kernel_rfl); have e49 : a.tmps[49]?.getD undef = .int .i64 j := hd 1 49 (by kernel_rfl) (by kernel_rfl); exact gs_same (v := .pointer (some ⟨bf, of + j * 3, none⟩)) (by go_simp) rfl
            · intro a W hE hd ho; have e50 : a.tmps[50]?.getD undef = .pointer (some ⟨bf, of + j * 3, none⟩) := hd 2 50 (by kernel_rfl) (by kernel_rfl); exact gs_same (v := .pointer (some ⟨bf, of + j * 3, none⟩)) (by go_simp) rfl
            · intro a W hE hd ho; have e51 : a.tmps[51]?.getD undef = .pointer (some ⟨bf, of + j * 3, none⟩) := hd 3 51 (by kernel_rfl) (by kernel_rfl); have c0 := (hE.cell (p := ⟨bf, of + j * 3, none⟩) (World.block_lt_of_cell? _ _ C0.out)).trans C0.out; exact gs_same (v := .string G.nm) (by go_simp) rfl
            · intro a W hE hd ho; have e52 : a.tmps[52]?.getD undef = .string G.nm := hd 4 52 (by kernel_rfl) (by kernel_rfl); refine gs_call (f := 100) (args := #[.string G.nm]) (by go_simp) ?_; refine (HCN.out W).mono ?_; rintro e w' ⟨rfl, rfl⟩; exact ⟨_, rfl, Ext.refl _, rfl⟩
            · intro a W hE hd ho; have e1 : a.tmps[1]?.getD undef = .slice (some ⟨bf, of, none⟩) fn fc := ho 1 (by kernel_rfl); exact gs_same (v := .slice (some ⟨bf, of, none⟩) fn fc) (by go_simp) rfl
            · intro a W hE hd ho; have e7 : a.tmps[7]?.getD undef = .int .i64 j := ho 7 (by kernel_rfl); exact gs_same (v := .int .i64 j) (by go_simp) rfl
            · intro a W hE hd ho; have e54 : a.tmps[54]?.getD undef = .slice (some ⟨bf, of, none⟩) fn fc := hd 6 54 (by kernel_rfl) (by kernel_rfl); have e55 : a.tmps[55]?.getD undef = .int .i64 j := hd 7 55 (by kernel_rfl) (by kernel_rfl); have hsl := HSL.out W; exact gs_same (v := .slice (some ⟨bf, of, none⟩) j fc) (by go_simp) rfl
            · intro a W hE hd ho; have e1 : a.tmps[1]?.getD undef = .slice (some ⟨bf, of, none⟩) fn fc := ho 1 (by kernel_rfl); exact gs_same (v := .slice (some ⟨bf, of, none⟩) fn fc) (by go_simp) rfl
            · intro a W hE hd ho; have e7 : a.tmps[7]?.getD undef = .int .i64 j := ho 7 (by kernel_rfl); exact gs_same (v := .int .i64 j) (by go_simp) rfl
            · intro a W hE hd ho; have e57 : a.tmps[57]?.getD undef = .slice (some ⟨bf, of, none⟩) fn fc := hd 9 57 (by kernel_rfl) (by kernel_rfl); have e58 : a.tmps[58]?.getD undef = .int .i64 j := hd 10 58 (by kernel_rfl) (by kernel_rfl); exact gs_same (v := .pointer (some ⟨bf, of + j * 3, none⟩)) (by go_simp) rfl
            · intro a W hE hd ho; have e59 : a.tmps[59]?.getD undef = .pointer (some ⟨bf, of + j * 3, none⟩) := hd 11 59 (by kernel_rfl) (by kernel_rfl); exact gs_same (v := .pointer (some ⟨bf, of + j * 3, none⟩)) (by go_simp) rfl
            · intro a W hE hd ho; have e60 : a.tmps[60]?.getD undef = .pointer (some ⟨bf, of + j * 3, none⟩) := hd 12 60 (by kernel_rfl) (by kernel_rfl); have c0 := (hE.cell (p := ⟨bf, of + j * 3, none⟩) (World.block_lt_of_cell? _ _ C0.out)).trans C0.out; exact gs_same (v := .string G.nm) (by go_simp) rfl
            · intro a W hE hd ho; have e56 : a.tmps[56]?.getD undef = .slice (some ⟨bf, of, none⟩) j fc := hd 8 56 (by kernel_rfl) (by kernel_rfl); have e61 : a.tmps[61]?.getD undef = .string G.nm := hd 13 61 (by kernel_rfl) (by kernel_rfl); refine gs_call (f := 83) (args := #[.slice (some ⟨bf, of, none⟩) j fc, .string G.nm]) (by go_simp) ?_; refine (HFF.out W hE).mono ?_; rintro e w' ⟨rfl, rfl⟩; exact ⟨_, rfl, Ext.refl _, rfl⟩
            · intro a W hE hd ho; have e62 : a.tmps[62]?.getD undef = .int .i64 F1 := hd 14 62 (by kernel_rfl) (by kernel_rfl); exact gs_same (v := .bool (decide (0 ≤ F1))) (by go_simp) rfl
            · intro a W hE hd ho; have e63 : a.tmps[63]?.getD undef = .bool (decide (0 ≤ F1)) := hd 15 63 (by kernel_rfl) (by kernel_rfl); refine gs_call (f := 105) (args := #[.bool (decide (0 ≤ F1)), .int .i64 9]) (by go_simp) ?_; refine (refWhen_as W HW1.out).mono ?_; rintro e w' ⟨rfl, rfl⟩; exact ⟨_, rfl, Ext.refl _, rfl⟩
            · intro a W hE hd ho; have e0 : a.tmps[0]?.getD undef = .slice A m c := ho 0 (by kernel_rfl); exact gs_same (v := .slice A m c) (by go_simp) rfl
            · intro a W hE hd ho; have e1 : a.tmps[1]?.getD undef = .slice (some ⟨bf, of, none⟩) fn fc := ho 1 (by kernel_rfl); exact gs_same (v := .slice (some ⟨bf, of, none⟩) fn fc) (by go_simp) rfl
            · intro a W hE hd ho; have e7 : a.tmps[7]?.getD undef = .int .i64 j := ho 7 (by kernel_rfl); exact gs_same (v := .int .i64 j) (by go_simp) rfl
            · intro a W hE hd ho; have e66 : a.tmps[66]?.getD undef = .slice (some ⟨bf, of, none⟩) fn fc := hd 18 66 (by kernel_rfl) (by kernel_rfl); have e67 : a.tmps[67]?.getD undef = .int .i64 j := hd 19 67 (by kernel_rfl) (by kernel_rfl); exact gs_same (v := .pointer (some ⟨bf, of + j * 3, none⟩)) (by go_simp) rfl
            · intro a W hE hd ho; have e68 : a.tmps[68]?.getD undef = .pointer (some ⟨bf, of + j * 3, none⟩) := hd 20 68 (by kernel_rfl) (by kernel_rfl); exact gs_same (v := .pointer (some ⟨bf, of + j * 3 + 1, none⟩)) (by go_simp) rfl
            · intro a W hE hd ho; have e69 : a.tmps[69]?.getD undef = .pointer (some ⟨bf, of + j * 3 + 1, none⟩) := hd 21 69 (by kernel_rfl) (by kernel_rfl); have c1 := (hE.cell (p := ⟨bf, of + j * 3 + 1, none⟩) (World.block_lt_of_cell? _ _ C1.out)).trans C1.out; exact gs_same (v := .string G.ty) (by go_simp) rfl
            · intro a W hE hd ho; have e65 : a.tmps[65]?.getD undef = .slice A m c := hd 17 65 (by kernel_rfl) (by kernel_rfl); have e70 : a.tmps[70]?.getD undef = .string G.ty := hd 22 70 (by kernel_rfl) (by kernel_rfl); refine gs_call (f := 144) (args := #[.slice A m c, .string G.ty]) (by go_simp) ?_; refine (HFT.out W hE).mono ?_; rintro e w' ⟨rfl, rfl⟩; exact ⟨_, rfl, Ext.refl _, rfl⟩
            · intro a W hE hd ho; have e71 : a.tmps[71]?.getD undef = .int .i64 F2 := hd 23 71 (by kernel_rfl) (by kernel_rfl); exact gs_same (v := .bool (decide (F2 < 0))) (by go_simp) rfl
            · intro a W hE hd ho; have e72 : a.tmps[72]?.getD undef = .bool (decide (F2 < 0)) := hd 24 72 (by kernel_rfl) (by kernel_rfl); refine gs_call (f := 105) (args := #[.bool (decide (F2 < 0)), .int .i64 10]) (by go_simp) ?_; refine (refWhen_as W HW2.out).mono ?_; rintro e w' ⟨rfl, rfl⟩; exact ⟨_, rfl, Ext.refl _, rfl⟩
            · intro a W hE hd ho; have e1 : a.tmps[1]?.getD undef = .slice (some ⟨bf, of, none⟩) fn fc := ho 1 (by kernel_rfl); exact gs_same (v := .slice (some ⟨bf, of, none⟩) fn fc) (by go_simp) rfl
            · intro a W hE hd ho; have e7 : a.tmps[7]?.getD undef = .int .i64 j := ho 7 (by kernel_rfl); exact gs_same (v := .int .i64 j) (by go_simp) rfl
            · intro a W hE hd ho; have e74 : a.tmps[74]?.getD undef = .slice (some ⟨bf, of, none⟩) fn fc := hd 26 74 (by kernel_rfl) (by kernel_rfl); have e75 : a.tmps[75]?.getD undef = .int .i64 j := hd 27 75 (by kernel_rfl) (by kernel_rfl); exact gs_same (v := .pointer (some ⟨bf, of + j * 3, none⟩)) (by go_simp) rfl
            · intro a W hE hd ho; have e76 : a.tmps[76]?.getD undef = .pointer (some ⟨bf, of + j * 3, none⟩) := hd 28 76 (by kernel_rfl) (by kernel_rfl); exact gs_same (v := .pointer (some ⟨bf, of + j * 3 + 2, none⟩)) (by go_simp) rfl
            · intro a W hE hd ho; have e77 : a.tmps[77]?.getD undef = .pointer (some ⟨bf, of + j * 3 + 2, none⟩) := hd 29 77 (by kernel_rfl) (by kernel_rfl); have c2 := (hE.cell (p := ⟨bf, of + j * 3 + 2, none⟩) (World.block_lt_of_cell? _ _ C2.out)).trans C2.out; exact gs_same (v := .slice G.A G.n G.c) (by go_simp) rfl
            · intro a W hE hd ho; have e78 : a.tmps[78]?.getD undef = .slice G.A G.n G.c := hd 30 78 (by kernel_rfl) (by kernel_rfl); refine gs_call (f := 39) (args := #[.slice G.A G.n G.c]) (by go_simp) ?_; refine (HCK.out W hE).mono ?_; rintro e w' ⟨rfl, hb⟩; exact ⟨_, rfl, hb, rfl⟩
            · intro a W hE hd ho; have e53 : a.tmps[53]?.getD undef = .int .i64 NE := hd 5 53 (by kernel_rfl) (by kernel_rfl); have e64 : a.tmps[64]?.getD undef = .int .i64 W1 := hd 16 64 (by kernel_rfl) (by kernel_rfl); have e73 : a.tmps[73]?.getD undef = .int .i64 W2 := hd 25 73 (by kernel_rfl) (by kernel_rfl); have e79 : a.tmps[79]?.getD undef = .int .i64 KE := hd 31 79 (by kernel_rfl) (by kernel_rfl); exact gs_val (v := .slice (some ⟨W.heap.size, 0, none⟩) 4 4) (W' := W.alloc (.cells #[.int .i64 NE, .int .i64 W1, .int .i64 W2, .int .i64 KE] 3)) (by go_simp) ((Below.refl _ _).alloc (Nat.le_refl _) _) ⟨_, rfl, Blk.new _ _ _⟩
            · intro a W hE hd ho; obtain ⟨gr, e80, hr⟩ : ∃ g, a.tmps[80]?.getD undef = .slice (some ⟨g, 0, none⟩) 4 4 ∧ Blk W g 3 #[.int .i64 NE, .int .i64 W1, .int .i64 W2, .int .i64 KE] := hd 32 80 (by kernel_rfl) (by kernel_rfl); refine gs_call (f := 99) (args := #[.slice (some ⟨gr, 0, none⟩) 4 4]) (by go_simp) ?_; refine (refFirst4 _ _ NE W1 W2 KE _ (hr.cell 0) (hr.cell 1) (hr.cell 2) (hr.cell 3)).mono ?_; rintro e w' ⟨rfl, rfl⟩; exact ⟨_, rfl, Ext.refl _, by rw [HZ.out]; rfl⟩
            · intro a W hE hd ho; have e81 : a.tmps[81]?.getD undef = .int .i64 Z := hd 33 81 (by kernel_rfl) (by kernel_rfl); exact gs_same (v := .int .i64 Z) (by go_simp) rfl
          intro va wa hE hR; have y0 : va 0 = .slice (some ⟨bf, of, none⟩) fn fc := hR 0 (by omega); have y1 : va 1 = .int .i64 j := hR 1 (by omega); have y2 : va 2 = .pointer (some ⟨bf, of + j * 3, none⟩) := hR 2 (by omega); have y3 : va 3 = .pointer (some ⟨bf, of + j * 3, none⟩) := hR 3 (by omega); have y4 : va 4 = .string G.nm := hR 4 (by omega); have y5 : va 5 = .int .i64 NE := hR 5 (by omega); have y6 : va 6 = .slice (some ⟨bf, of, none⟩) fn fc := hR 6 (by omega); have y7 : va 7 = .int .i64 j := hR 7 (by omega); have y8 : va 8 = .slice (some ⟨bf, of, none⟩) j fc := hR 8 (by omega); have y9 : va 9 = .slice (some ⟨bf, of, none⟩) fn fc := hR 9 (by omega); have y10 : va 10 = .int .i64 j := hR 10 (by omega); have y11 : va 11 = .pointer (some ⟨bf, of + j * 3, none⟩) := hR 11 (by omega); have y12 : va 12 = .pointer (some ⟨bf, of + j * 3, none⟩) := hR 12 (by omega); have y13 : va 13 = .string G.nm := hR 13 (by omega)
          have y14 : va 14 = .int .i64 F1 := hR 14 (by omega); have y15 : va 15 = .bool (decide (0 ≤ F1)) := hR 15 (by omega); have y16 : va 16 = .int .i64 W1 := hR 16 (by omega); have y17 : va 17 = .slice A m c := hR 17 (by omega); have y18 : va 18 = .slice (some ⟨bf, of, none⟩) fn fc := hR 18 (by omega); have y19 : va 19 = .int .i64 j := hR 19 (by omega); have y20 : va 20 = .pointer (some ⟨bf, of + j * 3, none⟩) := hR 20 (by omega); have y21 : va 21 = .pointer (some ⟨bf, of + j * 3 + 1, none⟩) := hR 21 (by omega); have y22 : va 22 = .string G.ty := hR 22 (by omega); have y23 : va 23 = .int .i64 F2 := hR 23 (by omega); have y24 : va 24 = .bool (decide (F2 < 0)) := hR 24 (by omega); have y25 : va 25 = .int .i64 W2 := hR 25 (by omega); have y26 : va 26 = .slice (some ⟨bf, of, none⟩) fn fc := hR 26 (by omega); have y27 : va 27 = .int .i64 j := hR 27 (by omega); have y28 : va 28 = .pointer (some ⟨bf, of + j * 3, none⟩) := hR 28 (by omega)
          have y29 : va 29 = .pointer (some ⟨bf, of + j * 3 + 2, none⟩) := hR 29 (by omega); have y30 : va 30 = .slice G.A G.n G.c := hR 30 (by omega); have y31 : va 31 = .int .i64 KE := hR 31 (by omega); obtain ⟨zz32, y32⟩ : ∃ v, va 32 = v := ⟨_, rfl⟩; have y33 : va 33 = .int .i64 Z := hR 33 (by omega); have y34 : va 34 = .int .i64 Z := hR 34 (by omega); simp only [List.range, List.range.loop, List.foldl_cons, List.foldl_nil, y0, y1, y2, y3, y4, y5, y6, y7, y8, y9, y10, y11, y12, y13, y14, y15, y16, y17, y18, y19, y20, y21, y22, y23, y24, y25, y26, y27, y28, y29, y30, y31, y32, y33, y34, List.drop_succ_cons, List.drop_zero]; simp only [dstAt, List.getElem?_toArray, List.getElem?_cons_zero, List.getElem?_cons_succ, Option.bind_some, Act.put, List.setIfInBounds_toArray, List.set_cons_zero, List.set_cons_succ]; clear y0 y1 y2 y3 y4 y5 y6 y7 y8 y9 y10 y11 y12 y13 y14 y15 y16 y17 y18 y19 y20 y21 y22 y23 y24 y25 y26 y27 y28 y29 y30 y31 y32 y33 y34 hR
          have hb := hE.below; have hb2 := hb; replace HB0 := Lib.hid (HB0.out.trans (hb.mono HB0.out.size)); clear hb; replace HBW := Lib.hid (HBW.out.trans (hb2.mono HBW.out.size)); clear hb2; clear hE HCN HCK HFF HFT C0 C1 C2 HSL HNM HTN HZ HW1 HW2
          by_cases hZ0 : Z = 0
          · have hq : Hid (∀ i, i < j + 1 → flAtE (kqTo ts m) fs i = 0) := fun i hi => by
              rcases Nat.lt_or_ge i j with h | h
              · exact hz.out i h
              · obtain rfl : i = j := by omega
                rw [HTE.out, hZ0]
            subst hZ0; clear HTE hz; go_wp2; go_roundw
            case rel => exact ⟨j + 1, by omega, by go_num, hq, HB0⟩
            case measure => simp [intOf]; omega
          · have hv : Hid (V = Z) := by
              show _ = _
              rw [HV.out, firstR_hit hlt hz.out (by rw [HTE.out]; exact hZ0), HTE.out]
            have hz1 : (Z != 0) = true := by simp [hZ0]
            clear hz HTE; go_wp2
            (try simp only [Exit.inBlock, Exit.then])
            refine bodyPost_ret (v := .int .i64 Z) (by simp [results, Tryz.results68, go_sem, asAddr]) rfl ?_; exact ⟨ret_int hv.out.symm, HBW.out⟩
        · have hd : decide ((j : Int) < (fn : Int)) = false := decide_eq_false (by omega); obtain rfl : j = fn := by omega
          have hv : Hid (V = 0) := by show _ = _; rw [HV.out]; exact firstR_miss hz.out
          clear hz; go_wp2
          (try simp only [Exit.inBlock, Exit.then])
          refine bodyPost_ret (v := .int .i64 0) (by simp [results, Tryz.results68, go_sem, asAddr]) rfl ?_; exact ⟨ret_int hv.out.symm, HBW.out⟩
end Go.Proofs.YtmafmebcgmegeaaGreatDoor
