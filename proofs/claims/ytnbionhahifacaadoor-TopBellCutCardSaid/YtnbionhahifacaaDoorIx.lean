/- The law's check of a type, a track and a place. -/
import Derived.Test.YtnbionhahifacaaDoorIu
import Derived.Test.YtnbionhahifacaaDoorIw
namespace Go.Proofs.YtnbionhahifacaaDoor
open Go.RowKit Go.Sort

/-- A Boolean that is true where a fact holds alone. -/
def GR.yes (p : Prop) : GR := ⟨fun v _ => ∃ b : Bool, v = .bool b ∧ (b = true → p), fun h _ => h⟩
theorem placeE_good {r : Bell.Pl} (h : placeE r.x r.y r.z = 0) : GoodPl r := by
  obtain ⟨a1, a2, a3, a4⟩ := placeE_zero h
  exact ⟨a1, a2, a3, a4⟩
/-- What bellShort finds. -/
structure BellOk (nm : ByteArray) (sh : List Int) (T : Bell.Ty) (sn qn gn n : Nat) (l : List Bell.Fx) (r : Bell.Pl) (ticks : Int) : Prop where
  short : ShortT nm sn qn gn T.sets
  few : n ≤ 6
  name : nameB nm = true
  ty : GoodT sh T
  tr : Bell.GoodTr l
  pl : GoodPl r
  span : (Bell.fxAt l (l.length - 1)).t - (Bell.fxAt l 0).t ≤ ticks

set_option maxHeartbeats 2000000 in
set_option maxRecDepth 100000 in
theorem bellShort_any {nm : ByteArray} {sh : List Int} {T : Bell.Ty} {sa : Option Addr} {sn sc : Nat} {qa : Option Addr} {qn qc : Nat} {ga : Option Addr} {gn gc : Nat} {cs : Array Value} (A : Option Addr) (n c : Nat) (l : List Bell.Fx) (r : Bell.Pl) (ticks : Int) (w : World) (hT : RTy w cs nm sh T sa sn sc qa qn qc ga gn gc) (hd8 : T.direct.length = 8) (hm : gn ≤ 140737488351232) (hl : TrAt w A n l) :
    Calls Tryd.prog 4 #[.agg cs, .slice A n c, .agg #[.int .i64 r.x, .int .i64 r.y, .int .i64 r.z], .int .i64 ticks] w fun e w' => ∃ b : Bool, e = .returned (.bool b) ∧ Hid (b = true → BellOk nm sh T sn qn gn n l r ticks) ∧ Below w.heap.size w w' := by
  have HT := Lib.hid hT
  have HD8 := Lib.hid hd8
  have HL := Lib.hid hl
  have IT : Hid ((Tryd.prog.info? 26).map (·.size) = some cs.size) := by show _ = _; rw [hT.cells]; kernel_rfl
  obtain ⟨b, off, hA⟩ : ∃ b off, 0 < n → A = some ⟨b, off, none⟩ ∧ FixesAt w b off n l := by
    rcases Nat.eq_zero_or_pos n with h | h
    · exact ⟨0, 0, fun h' => by omega⟩
    · obtain ⟨b, off, h1, h2⟩ := hl.2 h
      exact ⟨b, off, fun _ => ⟨h1, h2⟩⟩
  have HA := Lib.hid hA
  obtain ⟨m, hm1⟩ : ∃ m, m = n - 1 := ⟨_, rfl⟩
  have HM := Lib.hid hm1
  have HNL : Hid (l.length = n) := hl.1
  clear hT hd8 hl hA hm1
  go_enter Tryd.func4, Tryd.ntmps4
  go_upto_region 1 with fail
  obtain ⟨w1, hw1⟩ : ∃ W, W = (w.alloc (.cells cs 26)).alloc (.cells #[.int .i64 r.x, .int .i64 r.y, .int .i64 r.z] 29) := ⟨_, rfl⟩
  rw [← hw1]
  have T1 : Hid (Blk w1 w.heap.size 26 cs) := by show Blk _ _ _ _; rw [hw1]; exact (Blk.new _ _ _).alloc _
  have R1 : Hid (Blk w1 (w.heap.size + 1) 29 #[.int .i64 r.x, .int .i64 r.y, .int .i64 r.z]) := by show Blk _ _ _ _; rw [hw1]; exact Blk.at_size _ _ (by simp)
  have HB1 : Hid (Below w.heap.size w w1) := by show Below _ _ _; rw [hw1]; exact ((Below.refl _ _).alloc (Nat.le_refl _) _).alloc (by simp) _
  obtain ⟨g, hg⟩ : ∃ g, g = w.heap.size := ⟨_, rfl⟩
  obtain ⟨g2, hg2⟩ : ∃ g2, g2 = w.heap.size + 1 := ⟨_, rfl⟩
  rw [← hg2] at R1 ⊢
  rw [← hg] at T1 ⊢
  clear hw1 hg hg2
  refine wp_region_guard 38 (by kernel_rfl) (by kernel_rfl) [GR.eq (.agg cs), GR.yes (ShortT nm sn qn gn T.sets), GR.yes (ShortT nm sn qn gn T.sets), GR.eq (.slice A n c), GR.eq (.int .i64 n), GR.eq (.bool (decide ((n : Int) ≤ 6))), GR.yes (ShortT nm sn qn gn T.sets ∧ n ≤ 6), GR.yes (ShortT nm sn qn gn T.sets ∧ n ≤ 6), GR.eq (.agg cs), GR.zero (nameB nm = true ∧ GoodT sh T), GR.yes (nameB nm = true ∧ GoodT sh T), GR.yes ((ShortT nm sn qn gn T.sets ∧ n ≤ 6) ∧ (nameB nm = true ∧ GoodT sh T)), GR.yes ((ShortT nm sn qn gn T.sets ∧ n ≤ 6) ∧ (nameB nm = true ∧ GoodT sh T)), GR.eq (.slice A n c), GR.zero (Bell.GoodTr l), GR.yes (Bell.GoodTr l), GR.yes (((ShortT nm sn qn gn T.sets ∧ n ≤ 6) ∧ (nameB nm = true ∧ GoodT sh T)) ∧ Bell.GoodTr l), GR.yes (((ShortT nm sn qn gn T.sets ∧ n ≤ 6) ∧ (nameB nm = true ∧ GoodT sh T)) ∧ Bell.GoodTr l), GR.eq (.agg #[.int .i64 r.x, .int .i64 r.y, .int .i64 r.z]), GR.zero (GoodPl r), GR.yes (GoodPl r), GR.yes ((((ShortT nm sn qn gn T.sets ∧ n ≤ 6) ∧ (nameB nm = true ∧ GoodT sh T)) ∧ Bell.GoodTr l) ∧ GoodPl r), GR.yes ((((ShortT nm sn qn gn T.sets ∧ n ≤ 6) ∧ (nameB nm = true ∧ GoodT sh T)) ∧ Bell.GoodTr l) ∧ GoodPl r), GR.eq (.slice A n c), GR.eq (.slice A n c), GR.eq (.int .i64 n), GR.eq (.int .i64 m), GR.eq (.pointer (some ⟨b, off + m * 5, none⟩)), GR.eq (.pointer (some ⟨b, off + m * 5, none⟩)), GR.eq (.int .i64 (Bell.fxAt l m).t), GR.eq (.slice A n c), GR.eq (.pointer (some ⟨b, off, none⟩)), GR.eq (.pointer (some ⟨b, off, none⟩)), GR.eq (.int .i64 (Bell.fxAt l 0).t), GR.eq (.int .i64 ((Bell.fxAt l m).t - (Bell.fxAt l 0).t)), GR.eq (.int .i64 ticks), GR.eq (.bool (decide ((Bell.fxAt l m).t - (Bell.fxAt l 0).t ≤ ticks))), GR.yes (((((ShortT nm sn qn gn T.sets ∧ n ≤ 6) ∧ (nameB nm = true ∧ GoodT sh T)) ∧ Bell.GoodTr l) ∧ GoodPl r) ∧ (Bell.fxAt l m).t - (Bell.fxAt l 0).t ≤ ticks)] 47 rfl (by kernel_rfl) ?_ ?_
  · refine ⟨?_, ?_, ?_, ?_, ?_, ?_, ?_, ?_, ?_, ?_, ?_, ?_, ?_, ?_, ?_, ?_, ?_, ?_, ?_, ?_, ?_, ?_, ?_, ?_, ?_, ?_, ?_, ?_, ?_, ?_, ?_, ?_, ?_, ?_, ?_, ?_, ?_, ?_, trivial⟩
    · intro a W hE hd ho hw
      have e4 : a.tmps[4]?.getD undef = .pointer (some ⟨g, 0, none⟩) := ho 4 (by kernel_rfl)
      exact gs_load 26 (.tmp 4) rfl ⟨g, 0, none⟩ (.agg cs) ((eval_getD _ _).trans e4) ((T1.out.below hE).lv Tryd.prog Tryd.underlying26 rfl IT.out) rfl
    · intro a W hE hd ho hw
      have e9 : a.tmps[9]?.getD undef = .agg cs := hd 0 9 (by kernel_rfl) (by kernel_rfl) rfl
      refine gs_call (f := 15) (args := #[.agg cs]) (by go_simp) ?_
      refine (refShortTy_any W (HT.out.keep (HB1.out.trans (hE.below.mono HB1.out.size))) hm).mono ?_
      rintro e w9 ⟨⟨b, rfl, hb⟩, hbl⟩
      exact ⟨_, rfl, hbl, b, rfl, hb⟩
    · intro a W hE hd ho hw
      obtain ⟨b1, e10, h1⟩ : ∃ b : Bool, a.tmps[10]?.getD undef = .bool b ∧ (b = true → ShortT nm sn qn gn T.sets) := hd 1 10 (by kernel_rfl) (by kernel_rfl) rfl
      exact gs_same (v := .bool b1) (by go_simp) ⟨b1, rfl, h1⟩
    · intro a W hE hd ho hw
      have e1 : a.tmps[1]?.getD undef = .slice A n c := ho 1 (by kernel_rfl)
      exact gs_same (v := .slice A n c) (by go_simp) rfl
    · intro a W hE hd ho hw
      have e12 : a.tmps[12]?.getD undef = .slice A n c := hd 3 12 (by kernel_rfl) (by kernel_rfl) hw
      exact gs_same (v := .int .i64 n) (by go_simp) rfl
    · intro a W hE hd ho hw
      have e13 : a.tmps[13]?.getD undef = .int .i64 n := hd 4 13 (by kernel_rfl) (by kernel_rfl) hw
      exact gs_same (v := .bool (decide ((n : Int) ≤ 6))) (by go_simp) rfl
    · intro a W hE hd ho hw
      obtain ⟨b1, e11, h1⟩ : ∃ b : Bool, a.tmps[11]?.getD undef = .bool b ∧ (b = true → ShortT nm sn qn gn T.sets) := hd 2 11 (by kernel_rfl) (by kernel_rfl) rfl
      cases b1
      · exact gs_same (v := .bool false) (by go_simp) ⟨false, rfl, fun h => by cases h⟩
      · have e14 : a.tmps[14]?.getD undef = .bool (decide ((n : Int) ≤ 6)) := hd 5 14 (by kernel_rfl) (by kernel_rfl) (wanted_by (j := 5) (g := 2) (b := true) (t := 11) rfl rfl rfl e11)
        exact gs_same (v := .bool (decide ((n : Int) ≤ 6))) (by go_simp) ⟨_, rfl, fun h => ⟨h1 rfl, by have := of_decide_eq_true h; omega⟩⟩
    · intro a W hE hd ho hw
      obtain ⟨b1, e15, h1⟩ : ∃ b : Bool, a.tmps[15]?.getD undef = .bool b ∧ (b = true → (ShortT nm sn qn gn T.sets ∧ n ≤ 6)) := hd 6 15 (by kernel_rfl) (by kernel_rfl) rfl
      exact gs_same (v := .bool b1) (by go_simp) ⟨b1, rfl, h1⟩
    · intro a W hE hd ho hw
      have e4 : a.tmps[4]?.getD undef = .pointer (some ⟨g, 0, none⟩) := ho 4 (by kernel_rfl)
      exact gs_load 26 (.tmp 4) rfl ⟨g, 0, none⟩ (.agg cs) ((eval_getD _ _).trans e4) ((T1.out.below hE).lv Tryd.prog Tryd.underlying26 rfl IT.out) rfl
    · intro a W hE hd ho hw
      have gt := guard_met (g := 7) (b := true) (t := 16) rfl rfl hw
      obtain ⟨b0, e16, h0⟩ : ∃ b : Bool, a.tmps[16]?.getD undef = .bool b ∧ (b = true → (ShortT nm sn qn gn T.sets ∧ n ≤ 6)) := hd 7 16 (by kernel_rfl) (by kernel_rfl) rfl
      have hp := h0 (by have h9 := gt.symm.trans e16; cases h9; rfl)
      have e17 : a.tmps[17]?.getD undef = .agg cs := hd 8 17 (by kernel_rfl) (by kernel_rfl) hw
      refine gs_call (f := 16) (args := #[.agg cs]) (by go_simp) ?_
      refine (refType_any W (HT.out.keep (HB1.out.trans (hE.below.mono HB1.out.size))) HD8.out hp.1).mono ?_
      rintro e w9 ⟨E, rfl, hb, hbl⟩
      exact ⟨_, rfl, hbl, E, rfl, hb.out⟩
    · intro a W hE hd ho hw
      obtain ⟨z, e18, hz⟩ : ∃ z : Int, a.tmps[18]?.getD undef = .int .i64 z ∧ (z = 0 → (nameB nm = true ∧ GoodT sh T)) := hd 9 18 (by kernel_rfl) (by kernel_rfl) hw
      exact gs_same (v := .bool (z == 0)) (by go_simp) ⟨_, rfl, fun h => hz (by simpa using h)⟩
    · intro a W hE hd ho hw
      obtain ⟨b1, e16, h1⟩ : ∃ b : Bool, a.tmps[16]?.getD undef = .bool b ∧ (b = true → (ShortT nm sn qn gn T.sets ∧ n ≤ 6)) := hd 7 16 (by kernel_rfl) (by kernel_rfl) rfl
      cases b1
      · exact gs_same (v := .bool false) (by go_simp) ⟨false, rfl, fun h => by cases h⟩
      · obtain ⟨b2, e19, h2⟩ : ∃ b : Bool, a.tmps[19]?.getD undef = .bool b ∧ (b = true → (nameB nm = true ∧ GoodT sh T)) := hd 10 19 (by kernel_rfl) (by kernel_rfl) (wanted_by (j := 10) (g := 7) (b := true) (t := 16) rfl rfl rfl e16)
        exact gs_same (v := .bool b2) (by go_simp) ⟨_, rfl, fun h => ⟨h1 rfl, h2 h⟩⟩
    · intro a W hE hd ho hw
      obtain ⟨b1, e20, h1⟩ : ∃ b : Bool, a.tmps[20]?.getD undef = .bool b ∧ (b = true → ((ShortT nm sn qn gn T.sets ∧ n ≤ 6) ∧ (nameB nm = true ∧ GoodT sh T))) := hd 11 20 (by kernel_rfl) (by kernel_rfl) rfl
      exact gs_same (v := .bool b1) (by go_simp) ⟨b1, rfl, h1⟩
    · intro a W hE hd ho hw
      have e1 : a.tmps[1]?.getD undef = .slice A n c := ho 1 (by kernel_rfl)
      exact gs_same (v := .slice A n c) (by go_simp) rfl
    · intro a W hE hd ho hw
      have gt := guard_met (g := 12) (b := true) (t := 21) rfl rfl hw
      obtain ⟨b0, e21, h0⟩ : ∃ b : Bool, a.tmps[21]?.getD undef = .bool b ∧ (b = true → ((ShortT nm sn qn gn T.sets ∧ n ≤ 6) ∧ (nameB nm = true ∧ GoodT sh T))) := hd 12 21 (by kernel_rfl) (by kernel_rfl) rfl
      have hp := h0 (by have h9 := gt.symm.trans e21; cases h9; rfl)
      have e22 : a.tmps[22]?.getD undef = .slice A n c := hd 13 22 (by kernel_rfl) (by kernel_rfl) hw
      refine gs_call (f := 17) (args := #[.slice A n c]) (by go_simp) ?_
      refine (refTrack_any A n c l W (HL.out.keep (HB1.out.trans (hE.below.mono HB1.out.size))) (by have := hp.1.2; omega)).mono ?_
      rintro e w9 ⟨E, rfl, hb, hbl⟩
      exact ⟨_, rfl, hbl, E, rfl, hb.out⟩
    · intro a W hE hd ho hw
      obtain ⟨z, e23, hz⟩ : ∃ z : Int, a.tmps[23]?.getD undef = .int .i64 z ∧ (z = 0 → Bell.GoodTr l) := hd 14 23 (by kernel_rfl) (by kernel_rfl) hw
      exact gs_same (v := .bool (z == 0)) (by go_simp) ⟨_, rfl, fun h => hz (by simpa using h)⟩
    · intro a W hE hd ho hw
      obtain ⟨b1, e21, h1⟩ : ∃ b : Bool, a.tmps[21]?.getD undef = .bool b ∧ (b = true → ((ShortT nm sn qn gn T.sets ∧ n ≤ 6) ∧ (nameB nm = true ∧ GoodT sh T))) := hd 12 21 (by kernel_rfl) (by kernel_rfl) rfl
      cases b1
      · exact gs_same (v := .bool false) (by go_simp) ⟨false, rfl, fun h => by cases h⟩
      · obtain ⟨b2, e24, h2⟩ : ∃ b : Bool, a.tmps[24]?.getD undef = .bool b ∧ (b = true → Bell.GoodTr l) := hd 15 24 (by kernel_rfl) (by kernel_rfl) (wanted_by (j := 15) (g := 12) (b := true) (t := 21) rfl rfl rfl e21)
        exact gs_same (v := .bool b2) (by go_simp) ⟨_, rfl, fun h => ⟨h1 rfl, h2 h⟩⟩
    · intro a W hE hd ho hw
      obtain ⟨b1, e25, h1⟩ : ∃ b : Bool, a.tmps[25]?.getD undef = .bool b ∧ (b = true → (((ShortT nm sn qn gn T.sets ∧ n ≤ 6) ∧ (nameB nm = true ∧ GoodT sh T)) ∧ Bell.GoodTr l)) := hd 16 25 (by kernel_rfl) (by kernel_rfl) rfl
      exact gs_same (v := .bool b1) (by go_simp) ⟨b1, rfl, h1⟩
    · intro a W hE hd ho hw
      have e6 : a.tmps[6]?.getD undef = .pointer (some ⟨g2, 0, none⟩) := ho 6 (by kernel_rfl)
      have c0 := (R1.out.below hE).cell 0
      have c1 := (R1.out.below hE).cell 1
      have c2 := (R1.out.below hE).cell 2
      simp only [List.getElem?_toArray, List.getElem?_cons_zero, List.getElem?_cons_succ] at c0 c1 c2
      exact gs_same (v := .agg #[.int .i64 r.x, .int .i64 r.y, .int .i64 r.z]) (by go_simp) rfl
    · intro a W hE hd ho hw
      have e27 : a.tmps[27]?.getD undef = .agg #[.int .i64 r.x, .int .i64 r.y, .int .i64 r.z] := hd 18 27 (by kernel_rfl) (by kernel_rfl) hw
      refine gs_call (f := 18) (args := #[.agg #[.int .i64 r.x, .int .i64 r.y, .int .i64 r.z]]) (by go_simp) ?_
      refine (refPlace_any r.x r.y r.z W).mono ?_
      rintro e w9 ⟨rfl, hbl⟩
      exact ⟨_, rfl, hbl, _, rfl, fun h => placeE_good h⟩
    · intro a W hE hd ho hw
      obtain ⟨z, e28, hz⟩ : ∃ z : Int, a.tmps[28]?.getD undef = .int .i64 z ∧ (z = 0 → GoodPl r) := hd 19 28 (by kernel_rfl) (by kernel_rfl) hw
      exact gs_same (v := .bool (z == 0)) (by go_simp) ⟨_, rfl, fun h => hz (by simpa using h)⟩
    · intro a W hE hd ho hw
      obtain ⟨b1, e26, h1⟩ : ∃ b : Bool, a.tmps[26]?.getD undef = .bool b ∧ (b = true → (((ShortT nm sn qn gn T.sets ∧ n ≤ 6) ∧ (nameB nm = true ∧ GoodT sh T)) ∧ Bell.GoodTr l)) := hd 17 26 (by kernel_rfl) (by kernel_rfl) rfl
      cases b1
      · exact gs_same (v := .bool false) (by go_simp) ⟨false, rfl, fun h => by cases h⟩
      · obtain ⟨b2, e29, h2⟩ : ∃ b : Bool, a.tmps[29]?.getD undef = .bool b ∧ (b = true → GoodPl r) := hd 20 29 (by kernel_rfl) (by kernel_rfl) (wanted_by (j := 20) (g := 17) (b := true) (t := 26) rfl rfl rfl e26)
        exact gs_same (v := .bool b2) (by go_simp) ⟨_, rfl, fun h => ⟨h1 rfl, h2 h⟩⟩
    · intro a W hE hd ho hw
      obtain ⟨b1, e30, h1⟩ : ∃ b : Bool, a.tmps[30]?.getD undef = .bool b ∧ (b = true → ((((ShortT nm sn qn gn T.sets ∧ n ≤ 6) ∧ (nameB nm = true ∧ GoodT sh T)) ∧ Bell.GoodTr l) ∧ GoodPl r)) := hd 21 30 (by kernel_rfl) (by kernel_rfl) rfl
      exact gs_same (v := .bool b1) (by go_simp) ⟨b1, rfl, h1⟩
    · intro a W hE hd ho hw
      have e1 : a.tmps[1]?.getD undef = .slice A n c := ho 1 (by kernel_rfl)
      exact gs_same (v := .slice A n c) (by go_simp) rfl
    · intro a W hE hd ho hw
      have e1 : a.tmps[1]?.getD undef = .slice A n c := ho 1 (by kernel_rfl)
      exact gs_same (v := .slice A n c) (by go_simp) rfl
    · intro a W hE hd ho hw
      have e33 : a.tmps[33]?.getD undef = .slice A n c := hd 24 33 (by kernel_rfl) (by kernel_rfl) hw
      exact gs_same (v := .int .i64 n) (by go_simp) rfl
    · intro a W hE hd ho hw
      have gt := guard_met (g := 22) (b := true) (t := 31) rfl rfl hw
      obtain ⟨b0, e31, h0⟩ : ∃ b : Bool, a.tmps[31]?.getD undef = .bool b ∧ (b = true → ((((ShortT nm sn qn gn T.sets ∧ n ≤ 6) ∧ (nameB nm = true ∧ GoodT sh T)) ∧ Bell.GoodTr l) ∧ GoodPl r)) := hd 22 31 (by kernel_rfl) (by kernel_rfl) rfl
      have hp := h0 (by have h9 := gt.symm.trans e31; cases h9; rfl)
      have n2 : 2 ≤ n := by have h3 := hp.1.2.lo; rw [HNL.out] at h3; exact h3
      have hm := HM.out
      have e34 : a.tmps[34]?.getD undef = .int .i64 n := hd 25 34 (by kernel_rfl) (by kernel_rfl) hw
      have n6 := hp.1.1.1.2
      have wk : IntKind.i64.wrap ((n : Int) - 1) = (m : Int) := by rw [IntWalk.i64_in _ (by omega)]; omega
      clear hm
      exact gs_same (v := .int .i64 m) (by go_simp) rfl
    · intro a W hE hd ho hw
      have gt := guard_met (g := 22) (b := true) (t := 31) rfl rfl hw
      obtain ⟨b0, e31, h0⟩ : ∃ b : Bool, a.tmps[31]?.getD undef = .bool b ∧ (b = true → ((((ShortT nm sn qn gn T.sets ∧ n ≤ 6) ∧ (nameB nm = true ∧ GoodT sh T)) ∧ Bell.GoodTr l) ∧ GoodPl r)) := hd 22 31 (by kernel_rfl) (by kernel_rfl) rfl
      have hp := h0 (by have h9 := gt.symm.trans e31; cases h9; rfl)
      have n2 : 2 ≤ n := by have h3 := hp.1.2.lo; rw [HNL.out] at h3; exact h3
      have hm := HM.out
      obtain ⟨rfl, _⟩ := HA.out (by omega)
      have e32 : a.tmps[32]?.getD undef = .slice (some ⟨b, off, none⟩) n c := hd 23 32 (by kernel_rfl) (by kernel_rfl) hw
      have e35 : a.tmps[35]?.getD undef = .int .i64 m := hd 26 35 (by kernel_rfl) (by kernel_rfl) hw
      have pl : (m : Int) < (n : Int) := by omega
      clear hm
      exact gs_same (v := .pointer (some ⟨b, off + m * 5, none⟩)) (by go_simp) rfl
    · intro a W hE hd ho hw
      have e36 : a.tmps[36]?.getD undef = .pointer (some ⟨b, off + m * 5, none⟩) := hd 27 36 (by kernel_rfl) (by kernel_rfl) hw
      exact gs_same (v := .pointer (some ⟨b, off + m * 5, none⟩)) (by go_simp) rfl
    · intro a W hE hd ho hw
      have gt := guard_met (g := 22) (b := true) (t := 31) rfl rfl hw
      obtain ⟨b0, e31, h0⟩ : ∃ b : Bool, a.tmps[31]?.getD undef = .bool b ∧ (b = true → ((((ShortT nm sn qn gn T.sets ∧ n ≤ 6) ∧ (nameB nm = true ∧ GoodT sh T)) ∧ Bell.GoodTr l) ∧ GoodPl r)) := hd 22 31 (by kernel_rfl) (by kernel_rfl) rfl
      have hp := h0 (by have h9 := gt.symm.trans e31; cases h9; rfl)
      have n2 : 2 ≤ n := by have h3 := hp.1.2.lo; rw [HNL.out] at h3; exact h3
      have hm := HM.out
      obtain ⟨rfl, hF⟩ := HA.out (by omega)
      have k0 := ((hF.keep (HB1.out.trans (hE.below.mono HB1.out.size))).2 m (by omega)).1
      clear hm hF
      have e37 : a.tmps[37]?.getD undef = .pointer (some ⟨b, off + m * 5, none⟩) := hd 28 37 (by kernel_rfl) (by kernel_rfl) hw
      exact gs_same (v := .int .i64 (Bell.fxAt l m).t) (by go_simp) rfl
    · intro a W hE hd ho hw
      have e1 : a.tmps[1]?.getD undef = .slice A n c := ho 1 (by kernel_rfl)
      exact gs_same (v := .slice A n c) (by go_simp) rfl
    · intro a W hE hd ho hw
      have gt := guard_met (g := 22) (b := true) (t := 31) rfl rfl hw
      obtain ⟨b0, e31, h0⟩ : ∃ b : Bool, a.tmps[31]?.getD undef = .bool b ∧ (b = true → ((((ShortT nm sn qn gn T.sets ∧ n ≤ 6) ∧ (nameB nm = true ∧ GoodT sh T)) ∧ Bell.GoodTr l) ∧ GoodPl r)) := hd 22 31 (by kernel_rfl) (by kernel_rfl) rfl
      have hp := h0 (by have h9 := gt.symm.trans e31; cases h9; rfl)
      have n2 : 2 ≤ n := by have h3 := hp.1.2.lo; rw [HNL.out] at h3; exact h3
      have hm := HM.out
      obtain ⟨rfl, _⟩ := HA.out (by omega)
      have e39 : a.tmps[39]?.getD undef = .slice (some ⟨b, off, none⟩) n c := hd 30 39 (by kernel_rfl) (by kernel_rfl) hw
      have pl : ¬ n = 0 := by omega
      clear hm
      exact gs_same (v := .pointer (some ⟨b, off, none⟩)) (by go_simp) rfl
    · intro a W hE hd ho hw
      have e40 : a.tmps[40]?.getD undef = .pointer (some ⟨b, off, none⟩) := hd 31 40 (by kernel_rfl) (by kernel_rfl) hw
      exact gs_same (v := .pointer (some ⟨b, off, none⟩)) (by go_simp) rfl
    · intro a W hE hd ho hw
      have gt := guard_met (g := 22) (b := true) (t := 31) rfl rfl hw
      obtain ⟨b0, e31, h0⟩ : ∃ b : Bool, a.tmps[31]?.getD undef = .bool b ∧ (b = true → ((((ShortT nm sn qn gn T.sets ∧ n ≤ 6) ∧ (nameB nm = true ∧ GoodT sh T)) ∧ Bell.GoodTr l) ∧ GoodPl r)) := hd 22 31 (by kernel_rfl) (by kernel_rfl) rfl
      have hp := h0 (by have h9 := gt.symm.trans e31; cases h9; rfl)
      have n2 : 2 ≤ n := by have h3 := hp.1.2.lo; rw [HNL.out] at h3; exact h3
      have hm := HM.out
      obtain ⟨rfl, hF⟩ := HA.out (by omega)
      have k0 := ((hF.keep (HB1.out.trans (hE.below.mono HB1.out.size))).2 0 (by omega)).1
      simp only [Nat.zero_mul, Nat.add_zero] at k0
      clear hm hF
      have e41 : a.tmps[41]?.getD undef = .pointer (some ⟨b, off, none⟩) := hd 32 41 (by kernel_rfl) (by kernel_rfl) hw
      exact gs_same (v := .int .i64 (Bell.fxAt l 0).t) (by go_simp) rfl
    · intro a W hE hd ho hw
      have gt := guard_met (g := 22) (b := true) (t := 31) rfl rfl hw
      obtain ⟨b0, e31, h0⟩ : ∃ b : Bool, a.tmps[31]?.getD undef = .bool b ∧ (b = true → ((((ShortT nm sn qn gn T.sets ∧ n ≤ 6) ∧ (nameB nm = true ∧ GoodT sh T)) ∧ Bell.GoodTr l) ∧ GoodPl r)) := hd 22 31 (by kernel_rfl) (by kernel_rfl) rfl
      have hp := h0 (by have h9 := gt.symm.trans e31; cases h9; rfl)
      have n2 : 2 ≤ n := by have h3 := hp.1.2.lo; rw [HNL.out] at h3; exact h3
      have hm := HM.out
      have pz := hp.1.2.pts m (by rw [HNL.out]; omega)
      have pa := hp.1.2.pts 0 (by rw [HNL.out]; omega)
      have u1 := pz.t0
      have u2 := pz.t1
      have u3 := pa.t0
      have u4 := pa.t1
      have e38 : a.tmps[38]?.getD undef = .int .i64 (Bell.fxAt l m).t := hd 29 38 (by kernel_rfl) (by kernel_rfl) hw
      have e42 : a.tmps[42]?.getD undef = .int .i64 (Bell.fxAt l 0).t := hd 33 42 (by kernel_rfl) (by kernel_rfl) hw
      obtain ⟨Z, hZ⟩ : ∃ Z, Z = (Bell.fxAt l m).t := ⟨_, rfl⟩
      obtain ⟨Y, hY⟩ : ∃ Y, Y = (Bell.fxAt l 0).t := ⟨_, rfl⟩
      rw [← hZ] at e38 u1 u2 ⊢
      rw [← hY] at e42 u3 u4 ⊢
      have wk : IntKind.i64.wrap (Z - Y) = Z - Y := IntWalk.i64_in _ (by omega)
      clear hZ hY hm pz pa hp h0
      exact gs_same (v := .int .i64 (Z - Y)) (by go_simp) rfl
    · intro a W hE hd ho hw
      have e3 : a.tmps[3]?.getD undef = .int .i64 ticks := ho 3 (by kernel_rfl)
      exact gs_same (v := .int .i64 ticks) (by go_simp) rfl
    · intro a W hE hd ho hw
      have e43 : a.tmps[43]?.getD undef = .int .i64 ((Bell.fxAt l m).t - (Bell.fxAt l 0).t) := hd 34 43 (by kernel_rfl) (by kernel_rfl) hw
      have e44 : a.tmps[44]?.getD undef = .int .i64 ticks := hd 35 44 (by kernel_rfl) (by kernel_rfl) hw
      exact gs_same (v := .bool (decide ((Bell.fxAt l m).t - (Bell.fxAt l 0).t ≤ ticks))) (by go_simp) rfl
    · intro a W hE hd ho hw
      obtain ⟨b1, e31, h1⟩ : ∃ b : Bool, a.tmps[31]?.getD undef = .bool b ∧ (b = true → ((((ShortT nm sn qn gn T.sets ∧ n ≤ 6) ∧ (nameB nm = true ∧ GoodT sh T)) ∧ Bell.GoodTr l) ∧ GoodPl r)) := hd 22 31 (by kernel_rfl) (by kernel_rfl) rfl
      cases b1
      · exact gs_same (v := .bool false) (by go_simp) ⟨false, rfl, fun h => by cases h⟩
      · have e45 : a.tmps[45]?.getD undef = .bool (decide ((Bell.fxAt l m).t - (Bell.fxAt l 0).t ≤ ticks)) := hd 36 45 (by kernel_rfl) (by kernel_rfl) (wanted_by (j := 36) (g := 22) (b := true) (t := 31) rfl rfl rfl e31)
        exact gs_same (v := .bool (decide ((Bell.fxAt l m).t - (Bell.fxAt l 0).t ≤ ticks))) (by go_simp) ⟨_, rfl, fun h => ⟨h1 rfl, of_decide_eq_true h⟩⟩
  · intro vs w5 hE hR
    obtain ⟨bb, y37, hF⟩ : ∃ b : Bool, vs 37 = .bool b ∧ (b = true → (((((ShortT nm sn qn gn T.sets ∧ n ≤ 6) ∧ (nameB nm = true ∧ GoodT sh T)) ∧ Bell.GoodTr l) ∧ GoodPl r) ∧ (Bell.fxAt l m).t - (Bell.fxAt l 0).t ≤ ticks)) := hR 37 (by omega) rfl
    simp only [List.range, List.range.loop, List.foldl_cons, List.foldl_nil, y37, List.drop_succ_cons, List.drop_zero]
    simp only [dstAt, List.getElem?_toArray, List.getElem?_cons_zero, List.getElem?_cons_succ, Option.bind_some, Act.put, List.setIfInBounds_toArray, List.set_cons_zero, List.set_cons_succ]
    clear y37 hR
    have HF := Lib.hid hF
    have HB5 := Lib.hid (HB1.out.trans (hE.below.mono HB1.out.size))
    clear hF hE
    go_wp2
    go_ret
    refine ⟨bb, rfl, (fun h => ?_), HB5.out⟩
    obtain ⟨⟨⟨⟨⟨k1, k2⟩, k3, k4⟩, k5⟩, k6⟩, k7⟩ := HF.out h
    exact ⟨k1, k2, k3, k4, k5, k6, by rw [HNL.out, ← HM.out]; exact k7⟩
end Go.Proofs.YtnbionhahifacaaDoor
