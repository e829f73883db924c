/- Texts Wt of the proof. -/
import Derived.Test.YtmafmebcgmegeaaGreatDoorEx36
import Derived.Test.YtmafmebcgmegeaaGreatDoorEx42
import Derived.Test.YtmafmebcgmegeaaGreatDoorEx45
import Derived.Test.YtmafmebcgmegeaaGreatDoorEx43
import Derived.Test.YtmafmebcgmegeaaGreatDoorEx46
import Derived.Test.YtmafmebcgmegeaaGreatDoorEx30
namespace Go.Proofs.YtmafmebcgmegeaaGreatDoor
open Go.RowKit Go.Sort
theorem firstE_in3 (a b c d : Int) : firstE [firstE [a, b], c, d] = firstE [a, b, c, d] := by
  by_cases h : a = 0
  · subst h
    by_cases h2 : b = 0
    · subst h2; rfl
    · simp [firstE, h2]
  · simp [firstE, h]
theorem firstE_in2 (a b c : Int) : firstE [firstE [a, b], c] = firstE [a, b, c] := by
  by_cases h : a = 0
  · subst h
    by_cases h2 : b = 0
    · subst h2; rfl
    · simp [firstE, h2]
  · simp [firstE, h]
theorem refShortTrack_st (A : Option Addr) (n c : Nat) (w : World) :
    Calls Tryz.prog 34 #[.slice A n c] w fun e w' => e = .returned (.bool (decide ((n : Int) ≤ 17))) ∧ Below w.heap.size w w' := by
  go_enter Tryz.func34, Tryz.ntmps34
  go_wp2
  go_ret
  exact ⟨rfl, Below.refl _ _⟩
set_option maxRecDepth 100000 in
theorem eq_ivl (a b : Int) (W : World) : (Op.equalIn 10000 100 (.agg #[.int .i64 a, .int .i64 b]) (.agg #[.int .i64 a, .int .i64 b])).run Tryz.prog W = .ok true W := by go_simp
/-- A list of points of the program, made by the call. -/
def GR.trkB (n : Nat) (l : List Bell.Fx) : GR := ⟨fun v W => ∃ A c, v = .slice A n c ∧ TrAt W A n l ∧ n ≤ c ∧ c ≤ 9223372036854775807, fun ⟨A, c, e, h1, h2⟩ hE => ⟨A, c, e, h1.keep hE, h2⟩⟩
def GR.boxY (B : Nat) (t : TypeId) (cs : Array Value) : GR := ⟨fun v W => ∃ g, v = .pointer (some ⟨g, 0, none⟩) ∧ Blk W g t cs ∧ B ≤ g, fun ⟨g, e, h1, h2⟩ hE => ⟨g, e, h1.below hE, h2⟩⟩
attribute [local go_sem] growsTo growUpon
set_option maxHeartbeats 8000000 in
set_option maxRecDepth 100000 in
theorem exposures_walk {nm : ByteArray} {sh : List Int} {T : Bell.Ty} {sa : Option Addr} {sn sc : Nat} {qa : Option Addr} {qn qc : Nat} {ga : Option Addr} {gn gc : Nat} {cs : Array Value} (A : Option Addr) (n c : Nat) (l : List Bell.Fx) (f t rx ry rz : Int) (w : World) (hT : RTy w cs nm sh T sa sn sc qa qn qc ga gn gc) (hl : TrAt w A n l) (hd8 : T.direct.length = 8) (hm : gn ≤ 140737488351232) (hu : Turned w) (hf : FirstWords w) (ht : Tab w) :
    Calls Tryz.prog 6 #[.agg cs, .slice A n c, .agg #[.int .i64 f, .int .i64 t, .int .i64 rx, .int .i64 ry, .int .i64 rz]] w fun e w' => e = .returned (.bool true) ∧ Below w.heap.size w w' := by
  have U := Lib.hid hu
  have F := Lib.hid hf
  have TB := Lib.hid ht
  have HT := Lib.hid hT
  have HL := Lib.hid hl
  have HD8 := Lib.hid hd8
  have IT : Hid ((Tryz.prog.info? 26).map (·.size) = some cs.size) := by show _ = _; rw [hT.cells]; kernel_rfl
  have HUW : Hid (∀ W, Below w.heap.size w W → Turned W ∧ FirstWords W ∧ Tab W) := fun W hb => ⟨hu.keep hb, hf.keep hb, ht.keep hb⟩
  clear hu hf ht hT hd8 hl
  obtain ⟨CT, hCT⟩ : ∃ x, x = Bell.tyE (nameE nm) sh T := ⟨_, rfl⟩
  obtain ⟨CK, hCK⟩ : ∃ x, x = trackE l := ⟨_, rfl⟩
  obtain ⟨CC, hCC⟩ : ∃ x, x = ticksE f t := ⟨_, rfl⟩
  obtain ⟨CP, hCP⟩ : ∃ x, x = placeE rx ry rz := ⟨_, rfl⟩
  obtain ⟨BAD, hBAD⟩ : ∃ x, x = firstE [CT, CK] := ⟨_, rfl⟩
  obtain ⟨E1, hE1⟩ : ∃ x, x = firstE [BAD, CC, CP] := ⟨_, rfl⟩
  obtain ⟨E3, hE3⟩ : ∃ x, x = firstE [BAD, CP] := ⟨_, rfl⟩
  have h1 : E1 = firstE [CT, CK, CC, CP] := by rw [hE1, hBAD, firstE_in3]
  have h3 : E3 = firstE [CT, CK, CP] := by rw [hE3, hBAD, firstE_in2]
  obtain ⟨V1, hV1⟩ : ∃ x, x = if E1 = 0 then Bell.expoOf T l ⟨rx, ry, rz⟩ f t else 0 := ⟨_, rfl⟩
  obtain ⟨M1, hM1⟩ : ∃ x, x = (maxE E1 (maxA T l ⟨rx, ry, rz⟩ f t)).1 := ⟨_, rfl⟩
  obtain ⟨M2, hM2⟩ : ∃ x, x = (maxE E1 (maxA T l ⟨rx, ry, rz⟩ f t)).2.1 := ⟨_, rfl⟩
  obtain ⟨M3, hM3⟩ : ∃ x, x = (maxE E1 (maxA T l ⟨rx, ry, rz⟩ f t)).2.2 := ⟨_, rfl⟩
  obtain ⟨I1, hI1⟩ : ∃ x, x = (encA E3 T l ⟨rx, ry, rz⟩).1 := ⟨_, rfl⟩
  obtain ⟨I2, hI2⟩ : ∃ x, x = (encA E3 T l ⟨rx, ry, rz⟩).2 := ⟨_, rfl⟩
  have HCT := Lib.hid hCT; have HCK := Lib.hid hCK; have HCC := Lib.hid hCC; have HCP := Lib.hid hCP; have HBAD := Lib.hid hBAD; have HE1 := Lib.hid hE1; have HE3 := Lib.hid hE3
  have HF1 := Lib.hid h1; have HF3 := Lib.hid h3
  have HV1 := Lib.hid hV1; have HM1 := Lib.hid hM1; have HM2 := Lib.hid hM2; have HM3 := Lib.hid hM3; have HI1 := Lib.hid hI1; have HI2 := Lib.hid hI2
  clear hCT hCK hCC hCP hBAD hE1 hE3 h1 h3 hV1 hM1 hM2 hM3 hI1 hI2
  have K1 : Hid (n ≤ 17 → ∀ {W : World} {cs' : Array Value} {A1 : Option Addr} {c1 : Nat} {A2 : Option Addr} {c2 : Nat} {A3 : Option Addr} {c3 : Nat} {A' : Option Addr} {c' : Nat}, TyAny W cs' nm sh T A1 sn c1 A2 qn c2 A3 gn c3 → TrAt W A' n l → n ≤ c' → c' ≤ 9223372036854775807 → Calls Tryz.prog 55 #[.agg cs', .slice A' n c', .agg #[.int .i64 f, .int .i64 t], .agg #[.int .i64 rx, .int .i64 ry, .int .i64 rz]] W fun e w' => e = .returned (.tuple #[.int .i64 V1, .int .i64 E1]) ∧ Below W.heap.size W w') := fun hn {W cs' A1 c1 A2 c2 A3 c3 A' c'} h hh _ _ => by
    have := Exposure_any A' n c' l f t ⟨rx, ry, rz⟩ W h hh (by omega)
    simp only [] at this
    rwa [← HCT.out, ← HCK.out, ← HCC.out, ← HCP.out, ← HF1.out, ← HV1.out] at this
  have K2 : Hid (n ≤ 17 → ∀ {W : World} {cs' : Array Value} {A1 : Option Addr} {c1 : Nat} {A2 : Option Addr} {c2 : Nat} {A3 : Option Addr} {c3 : Nat} {A' : Option Addr} {c' : Nat}, TyAny W cs' nm sh T A1 sn c1 A2 qn c2 A3 gn c3 → TrAt W A' n l → n ≤ c' → c' ≤ 9223372036854775807 → Calls Tryz.prog 56 #[.agg cs', .slice A' n c', .agg #[.int .i64 f, .int .i64 t], .agg #[.int .i64 rx, .int .i64 ry, .int .i64 rz]] W fun e w' => e = .returned (.tuple #[.int .i64 M1, .int .i64 M2, .int .i64 M3]) ∧ Below W.heap.size W w') := fun hn {W cs' A1 c1 A2 c2 A3 c3 A' c'} h hh _ _ => by
    have := Maximum_any A' n c' l f t ⟨rx, ry, rz⟩ W h hh (by omega)
    simp only [] at this
    rwa [← HCT.out, ← HCK.out, ← HCC.out, ← HCP.out, ← HF1.out, ← HM1.out, ← HM2.out, ← HM3.out] at this
  have K3 : Hid (n ≤ 17 → ∀ {W : World} {cs' : Array Value} {A1 : Option Addr} {c1 : Nat} {A2 : Option Addr} {c2 : Nat} {A3 : Option Addr} {c3 : Nat} {A' : Option Addr} {c' : Nat}, TyAny W cs' nm sh T A1 sn c1 A2 qn c2 A3 gn c3 → TrAt W A' n l → n ≤ c' → c' ≤ 9223372036854775807 → Calls Tryz.prog 57 #[.agg cs', .slice A' n c', .agg #[.int .i64 rx, .int .i64 ry, .int .i64 rz]] W fun e w' => e = .returned (.tuple #[.agg #[.int .i64 I1, .int .i64 I2], .int .i64 E3]) ∧ Below W.heap.size W w') := fun hn {W cs' A1 c1 A2 c2 A3 c3 A' c'} h hh q1 q2 => by
    have := Enclosed_any A' n c' l ⟨rx, ry, rz⟩ W h hh (by omega) q1 q2
    simp only [] at this
    rwa [← HCT.out, ← HCK.out, ← HCP.out, ← HF3.out, ← HI1.out, ← HI2.out] at this
  go_enter Tryz.func6, Tryz.ntmps6
  go_upto_region 1 with fail
  obtain ⟨w1, hw1⟩ : ∃ W, W = ((w.alloc (.cells cs 26)).alloc (.cells #[.int .i64 f, .int .i64 t, .int .i64 rx, .int .i64 ry, .int .i64 rz] 95)) := ⟨_, rfl⟩
  rw [← hw1]
  have TT : Hid (Blk w1 (w.heap.size) 26 cs) := by show Blk _ _ _ _; rw [hw1]; exact (Blk.new _ _ _).alloc _
  have X : Hid (Blk w1 (w.heap.size + 1) 95 #[.int .i64 f, .int .i64 t, .int .i64 rx, .int .i64 ry, .int .i64 rz]) := by show Blk _ _ _ _; rw [hw1]; exact Blk.at_size _ _ (by simp)
  have hb : Below w.heap.size w w1 := by rw [hw1]; exact (((Below.refl _ _).alloc (Nat.le_refl _) _).alloc (by simp) _)
  obtain ⟨g3, hg3⟩ : ∃ g, g = w.heap.size := ⟨_, rfl⟩
  obtain ⟨g5, hg5⟩ : ∃ g, g = w.heap.size + 1 := ⟨_, rfl⟩
  have HGw1 : Hid (g3 = w.heap.size ∧ g5 = w.heap.size + 1) := ⟨hg3, hg5⟩
  rw [← hg5] at X
  try rw [← hg5]
  rw [← hg3] at TT
  try rw [← hg3]
  clear hw1 hg3 hg5
  have HB := Lib.hid hb
  replace U := Lib.hid (U.out.keep hb)
  replace F := Lib.hid (F.out.keep hb)
  replace TB := Lib.hid (TB.out.keep hb)
  replace HT := Lib.hid (HT.out.keep hb)
  replace HL := Lib.hid (HL.out.keep hb)
  clear hb HGw1
  go_wp2_with (refine wpList_load_row rfl 26 _ rfl g3 rfl 26 cs (0, 0) _ TT.out Tryz.underlying26 rfl IT.out ?_)
  refine (refShortTy_any w1 HT.out hm).mono ?_
  rintro e w2 ⟨⟨b, rfl, hsh⟩, hb⟩
  replace HB := Lib.hid (HB.out.trans (hb.mono HB.out.size))
  replace TT := Lib.hid (TT.out.below hb)
  replace X := Lib.hid (X.out.below hb)
  replace U := Lib.hid (U.out.keep hb)
  replace F := Lib.hid (F.out.keep hb)
  replace TB := Lib.hid (TB.out.keep hb)
  replace HT := Lib.hid (HT.out.keep hb)
  replace HL := Lib.hid (HL.out.keep hb)
  clear hb
  cases b
  case false =>
    go_wp2_with fail
    refine (awake2_any w2 U.out F.out TB.out).mono ?_
    rintro e wZ ⟨rfl, hb⟩
    replace HB := Lib.hid (HB.out.trans (hb.mono HB.out.size))
    clear hb
    go_wp2
    go_ret
    exact ⟨rfl, HB.out⟩
  have hS := Lib.hid (hsh rfl)
  clear hsh
  go_wp2_with fail
  refine (refShortTrack_st A n c w2).mono ?_
  rintro e w3 ⟨rfl, hb⟩
  replace HB := Lib.hid (HB.out.trans (hb.mono HB.out.size))
  replace TT := Lib.hid (TT.out.below hb)
  replace X := Lib.hid (X.out.below hb)
  replace U := Lib.hid (U.out.keep hb)
  replace F := Lib.hid (F.out.keep hb)
  replace TB := Lib.hid (TB.out.keep hb)
  replace HT := Lib.hid (HT.out.keep hb)
  replace HL := Lib.hid (HL.out.keep hb)
  clear hb
  by_cases hn : 17 < n
  · have e1 : decide ((n : Int) ≤ 17) = false := decide_eq_false (by omega)
    go_wp2_with fail
    refine (awake2_any w3 U.out F.out TB.out).mono ?_
    rintro e wZ ⟨rfl, hb⟩
    replace HB := Lib.hid (HB.out.trans (hb.mono HB.out.size))
    clear hb
    go_wp2
    go_ret
    exact ⟨rfl, HB.out⟩
  have e1 : decide ((n : Int) ≤ 17) = true := decide_eq_true (by omega)
  have hn17 := Lib.hid (show n ≤ 17 from by omega)
  clear hn
  go_upto_region 3 with fail
  clear e1
  refine wp_region_allN 14 rfl (by kernel_rfl) (by kernel_rfl) [GR.eq (.agg cs), GR.cp nm sh T sn qn gn, GR.eq (.slice A n c), GR.trkB n l, GR.eq (.pointer (some ⟨g5, 0, none⟩)), GR.eq (.agg #[.int .i64 f, .int .i64 t]), GR.eq (.pointer (some ⟨g5, 2, none⟩)), GR.eq (.agg #[.int .i64 rx, .int .i64 ry, .int .i64 rz]), GR.eq (.tuple #[.int .i64 V1, .int .i64 E1]), GR.eq (.tuple #[.int .i64 V1, .int .i64 E1]), GR.eq (.int .i64 V1), GR.eq (.int .i64 E1), GR.eq (.int .i64 V1), GR.eq (.int .i64 E1)] 151 rfl (by kernel_rfl) ?_ ?_
  · refine ⟨?_, ?_, ?_, ?_, ?_, ?_, ?_, ?_, ?_, ?_, ?_, ?_, ?_, ?_, trivial⟩
    · intro a W hE hd ho
      have e3 : a.tmps[3]?.getD undef = .pointer (some ⟨g3, 0, none⟩) := ho 3 (by kernel_rfl)
      exact gs_load 26 (.tmp 3) rfl ⟨g3, 0, none⟩ (.agg cs) ((eval_getD _ _).trans e3) ((TT.out.below hE).lv Tryz.prog Tryz.underlying26 rfl IT.out) rfl
    · intro a W hE hd ho
      have e32 : a.tmps[32]?.getD undef = .agg cs := hd 0 32 (by kernel_rfl) (by kernel_rfl)
      refine gs_call (f := 16) (args := #[.agg cs]) (by go_simp) ?_
      refine (given_ok W (HT.out.keep hE) HD8.out hS.out).mono ?_
      rintro e w9 ⟨cs', A1, c1, A2, c2, A3, c3, rfl, k1, k2⟩
      exact ⟨_, rfl, k2, cs', A1, c1, A2, c2, A3, c3, rfl, k1⟩
    · intro a W hE hd ho
      have e1 : a.tmps[1]?.getD undef = .slice A n c := ho 1 (by kernel_rfl)
      exact gs_same (v := .slice A n c) (by go_simp) rfl
    · intro a W hE hd ho
      have e34 : a.tmps[34]?.getD undef = .slice A n c := hd 2 34 (by kernel_rfl) (by kernel_rfl)
      refine gs_call (f := 36) (args := #[.slice A n c]) (by go_simp) ?_
      refine (fixes_any A n c l W (HL.out.keep hE) (by have := hn17.out; omega)).mono ?_
      rintro e w9 ⟨A', c', rfl, h1, h2, h3⟩
      exact ⟨_, rfl, h3, A', c', rfl, h1, h2⟩
    · intro a W hE hd ho
      have e5 : a.tmps[5]?.getD undef = .pointer (some ⟨g5, 0, none⟩) := ho 5 (by kernel_rfl)
      exact gs_same (v := .pointer (some ⟨g5, 0, none⟩)) (by go_simp) rfl
    · intro a W hE hd ho
      have e36 : a.tmps[36]?.getD undef = .pointer (some ⟨g5, 0, none⟩) := hd 4 36 (by kernel_rfl) (by kernel_rfl)
      have C := X.out.below hE
      have c0 := C.cell 0
      have c1 := C.cell 1
      simp only [List.getElem?_toArray, List.getElem?_cons_zero, List.getElem?_cons_succ] at c0 c1
      exact gs_same (v := .agg #[.int .i64 f, .int .i64 t]) (by go_simp) rfl
    · intro a W hE hd ho
      have e5 : a.tmps[5]?.getD undef = .pointer (some ⟨g5, 0, none⟩) := ho 5 (by kernel_rfl)
      exact gs_same (v := .pointer (some ⟨g5, 2, none⟩)) (by go_simp) rfl
    · intro a W hE hd ho
      have e38 : a.tmps[38]?.getD undef = .pointer (some ⟨g5, 2, none⟩) := hd 6 38 (by kernel_rfl) (by kernel_rfl)
      have C := X.out.below hE
      have c2 := C.cell 2
      have c3 := C.cell 3
      have c4 := C.cell 4
      simp only [List.getElem?_toArray, List.getElem?_cons_zero, List.getElem?_cons_succ] at c2 c3 c4
      exact gs_same (v := .agg #[.int .i64 rx, .int .i64 ry, .int .i64 rz]) (by go_simp) rfl
    · intro a W hE hd ho
      have e37 : a.tmps[37]?.getD undef = .agg #[.int .i64 f, .int .i64 t] := hd 5 37 (by kernel_rfl) (by kernel_rfl)
      have e39 : a.tmps[39]?.getD undef = .agg #[.int .i64 rx, .int .i64 ry, .int .i64 rz] := hd 7 39 (by kernel_rfl) (by kernel_rfl)
      obtain ⟨cs', A1, c1, A2, c2, A3, c3, e33, hC⟩ : ∃ cs A1 c1 A2 c2 A3 c3, a.tmps[33]?.getD undef = .agg cs ∧ TyAny W cs nm sh T A1 sn c1 A2 qn c2 A3 gn c3 := hd 1 33 (by kernel_rfl) (by kernel_rfl)
      obtain ⟨A', c', e35, hf, hc1, hc2⟩ : ∃ A c, a.tmps[35]?.getD undef = .slice A n c ∧ TrAt W A n l ∧ n ≤ c ∧ c ≤ 9223372036854775807 := hd 3 35 (by kernel_rfl) (by kernel_rfl)
      refine gs_call (f := 55) (args := #[.agg cs', .slice A' n c', .agg #[.int .i64 f, .int .i64 t], .agg #[.int .i64 rx, .int .i64 ry, .int .i64 rz]]) (by go_simp) ?_
      refine (K1.out hn17.out hC hf hc1 hc2).mono ?_
      rintro e w9 ⟨rfl, hbl⟩
      exact ⟨_, rfl, hbl, rfl⟩
    · intro a W hE hd ho
      have e40 : a.tmps[40]?.getD undef = .tuple #[.int .i64 V1, .int .i64 E1] := hd 8 40 (by kernel_rfl) (by kernel_rfl)
      exact gs_same (v := .tuple #[.int .i64 V1, .int .i64 E1]) (by go_simp) rfl
    · intro a W hE hd ho
      have e31 : a.tmps[31]?.getD undef = .tuple #[.int .i64 V1, .int .i64 E1] := hd 9 31 (by kernel_rfl) (by kernel_rfl)
      exact gs_same (v := .int .i64 V1) (by go_simp) rfl
    · intro a W hE hd ho
      have e31 : a.tmps[31]?.getD undef = .tuple #[.int .i64 V1, .int .i64 E1] := hd 9 31 (by kernel_rfl) (by kernel_rfl)
      exact gs_same (v := .int .i64 E1) (by go_simp) rfl
    · intro a W hE hd ho
      have e41 : a.tmps[41]?.getD undef = .int .i64 V1 := hd 10 41 (by kernel_rfl) (by kernel_rfl)
      exact gs_same (v := .int .i64 V1) (by go_simp) rfl
    · intro a W hE hd ho
      have e42 : a.tmps[42]?.getD undef = .int .i64 E1 := hd 11 42 (by kernel_rfl) (by kernel_rfl)
      exact gs_same (v := .int .i64 E1) (by go_simp) rfl
  intro v4 w4 hE hR
  have y0 : v4 0 = .agg cs := hR 0 (by omega)
  obtain ⟨x3, y1⟩ : ∃ v, v4 1 = v := ⟨_, rfl⟩
  have y2 : v4 2 = .slice A n c := hR 2 (by omega)
  obtain ⟨z3, y3⟩ : ∃ v, v4 3 = v := ⟨_, rfl⟩
  have y4 : v4 4 = .pointer (some ⟨g5, 0, none⟩) := hR 4 (by omega)
  have y5 : v4 5 = .agg #[.int .i64 f, .int .i64 t] := hR 5 (by omega)
  have y6 : v4 6 = .pointer (some ⟨g5, 2, none⟩) := hR 6 (by omega)
  have y7 : v4 7 = .agg #[.int .i64 rx, .int .i64 ry, .int .i64 rz] := hR 7 (by omega)
  have y8 : v4 8 = .tuple #[.int .i64 V1, .int .i64 E1] := hR 8 (by omega)
  have y9 : v4 9 = .tuple #[.int .i64 V1, .int .i64 E1] := hR 9 (by omega)
  have y10 : v4 10 = .int .i64 V1 := hR 10 (by omega)
  have y11 : v4 11 = .int .i64 E1 := hR 11 (by omega)
  have y12 : v4 12 = .int .i64 V1 := hR 12 (by omega)
  have y13 : v4 13 = .int .i64 E1 := hR 13 (by omega)
  simp only [List.range, List.range.loop, List.foldl_cons, List.foldl_nil, y0, y1, y2, y3, y4, y5, y6, y7, y8, y9, y10, y11, y12, y13, List.drop_succ_cons, List.drop_zero]
  simp only [dstAt, List.getElem?_toArray, List.getElem?_cons_zero, List.getElem?_cons_succ, Option.bind_some, Act.put, List.setIfInBounds_toArray, List.set_cons_zero, List.set_cons_succ]
  clear y0 y1 y2 y3 y4 y5 y6 y7 y8 y9 y10 y11 y12 y13 hR
  have hb := hE.below
  replace HB := Lib.hid (HB.out.trans (hb.mono HB.out.size))
  replace TT := Lib.hid (TT.out.below hb)
  replace X := Lib.hid (X.out.below hb)
  replace U := Lib.hid (U.out.keep hb)
  replace F := Lib.hid (F.out.keep hb)
  replace TB := Lib.hid (TB.out.keep hb)
  replace HT := Lib.hid (HT.out.keep hb)
  replace HL := Lib.hid (HL.out.keep hb)
  clear hb
  clear hE
  go_upto_region 4 with fail
  refine wp_region_allN 16 rfl (by kernel_rfl) (by kernel_rfl) [GR.eq (.agg cs), GR.cp nm sh T sn qn gn, GR.eq (.slice A n c), GR.trkB n l, GR.eq (.pointer (some ⟨g5, 0, none⟩)), GR.eq (.agg #[.int .i64 f, .int .i64 t]), GR.eq (.pointer (some ⟨g5, 2, none⟩)), GR.eq (.agg #[.int .i64 rx, .int .i64 ry, .int .i64 rz]), GR.eq (.tuple #[.int .i64 M1, .int .i64 M2, .int .i64 M3]), GR.eq (.tuple #[.int .i64 M1, .int .i64 M2, .int .i64 M3]), GR.eq (.int .i64 M1), GR.eq (.int .i64 M2), GR.eq (.int .i64 M3), GR.eq (.int .i64 M1), GR.eq (.int .i64 M2), GR.eq (.int .i64 M3)] 151 rfl (by kernel_rfl) ?_ ?_
  · refine ⟨?_, ?_, ?_, ?_, ?_, ?_, ?_, ?_, ?_, ?_, ?_, ?_, ?_, ?_, ?_, ?_, trivial⟩
    · intro a W hE hd ho
      have e3 : a.tmps[3]?.getD undef = .pointer (some ⟨g3, 0, none⟩) := ho 3 (by kernel_rfl)
      exact gs_load 26 (.tmp 3) rfl ⟨g3, 0, none⟩ (.agg cs) ((eval_getD _ _).trans e3) ((TT.out.below hE).lv Tryz.prog Tryz.underlying26 rfl IT.out) rfl
    · intro a W hE hd ho
      have e44 : a.tmps[44]?.getD undef = .agg cs := hd 0 44 (by kernel_rfl) (by kernel_rfl)
      refine gs_call (f := 16) (args := #[.agg cs]) (by go_simp) ?_
      refine (given_ok W (HT.out.keep hE) HD8.out hS.out).mono ?_
      rintro e w9 ⟨cs', A1, c1, A2, c2, A3, c3, rfl, k1, k2⟩
      exact ⟨_, rfl, k2, cs', A1, c1, A2, c2, A3, c3, rfl, k1⟩
    · intro a W hE hd ho
      have e1 : a.tmps[1]?.getD undef = .slice A n c := ho 1 (by kernel_rfl)
      exact gs_same (v := .slice A n c) (by go_simp) rfl
    · intro a W hE hd ho
      have e46 : a.tmps[46]?.getD undef = .slice A n c := hd 2 46 (by kernel_rfl) (by kernel_rfl)
      refine gs_call (f := 36) (args := #[.slice A n c]) (by go_simp) ?_
      refine (fixes_any A n c l W (HL.out.keep hE) (by have := hn17.out; omega)).mono ?_
      rintro e w9 ⟨A', c', rfl, h1, h2, h3⟩
      exact ⟨_, rfl, h3, A', c', rfl, h1, h2⟩
    · intro a W hE hd ho
      have e5 : a.tmps[5]?.getD undef = .pointer (some ⟨g5, 0, none⟩) := ho 5 (by kernel_rfl)
      exact gs_same (v := .pointer (some ⟨g5, 0, none⟩)) (by go_simp) rfl
    · intro a W hE hd ho
      have e48 : a.tmps[48]?.getD undef = .pointer (some ⟨g5, 0, none⟩) := hd 4 48 (by kernel_rfl) (by kernel_rfl)
      have C := X.out.below hE
      have c0 := C.cell 0
      have c1 := C.cell 1
      simp only [List.getElem?_toArray, List.getElem?_cons_zero, List.getElem?_cons_succ] at c0 c1
      exact gs_same (v := .agg #[.int .i64 f, .int .i64 t]) (by go_simp) rfl
    · intro a W hE hd ho
      have e5 : a.tmps[5]?.getD undef = .pointer (some ⟨g5, 0, none⟩) := ho 5 (by kernel_rfl)
      exact gs_same (v := .pointer (some ⟨g5, 2, none⟩)) (by go_simp) rfl
    · intro a W hE hd ho
      have e50 : a.tmps[50]?.getD undef = .pointer (some ⟨g5, 2, none⟩) := hd 6 50 (by kernel_rfl) (by kernel_rfl)
      have C := X.out.below hE
      have c2 := C.cell 2
      have c3 := C.cell 3
      have c4 := C.cell 4
      simp only [List.getElem?_toArray, List.getElem?_cons_zero, List.getElem?_cons_succ] at c2 c3 c4
      exact gs_same (v := .agg #[.int .i64 rx, .int .i64 ry, .int .i64 rz]) (by go_simp) rfl
    · intro a W hE hd ho
      have e49 : a.tmps[49]?.getD undef = .agg #[.int .i64 f, .int .i64 t] := hd 5 49 (by kernel_rfl) (by kernel_rfl)
      have e51 : a.tmps[51]?.getD undef = .agg #[.int .i64 rx, .int .i64 ry, .int .i64 rz] := hd 7 51 (by kernel_rfl) (by kernel_rfl)
      obtain ⟨cs', A1, c1, A2, c2, A3, c3, e45, hC⟩ : ∃ cs A1 c1 A2 c2 A3 c3, a.tmps[45]?.getD undef = .agg cs ∧ TyAny W cs nm sh T A1 sn c1 A2 qn c2 A3 gn c3 := hd 1 45 (by kernel_rfl) (by kernel_rfl)
      obtain ⟨A', c', e47, hf, hc1, hc2⟩ : ∃ A c, a.tmps[47]?.getD undef = .slice A n c ∧ TrAt W A n l ∧ n ≤ c ∧ c ≤ 9223372036854775807 := hd 3 47 (by kernel_rfl) (by kernel_rfl)
      refine gs_call (f := 56) (args := #[.agg cs', .slice A' n c', .agg #[.int .i64 f, .int .i64 t], .agg #[.int .i64 rx, .int .i64 ry, .int .i64 rz]]) (by go_simp) ?_
      refine (K2.out hn17.out hC hf hc1 hc2).mono ?_
      rintro e w9 ⟨rfl, hbl⟩
      exact ⟨_, rfl, hbl, rfl⟩
    · intro a W hE hd ho
      have e52 : a.tmps[52]?.getD undef = .tuple #[.int .i64 M1, .int .i64 M2, .int .i64 M3] := hd 8 52 (by kernel_rfl) (by kernel_rfl)
      exact gs_same (v := .tuple #[.int .i64 M1, .int .i64 M2, .int .i64 M3]) (by go_simp) rfl
    · intro a W hE hd ho
      have e43 : a.tmps[43]?.getD undef = .tuple #[.int .i64 M1, .int .i64 M2, .int .i64 M3] := hd 9 43 (by kernel_rfl) (by kernel_rfl)
      exact gs_same (v := .int .i64 M1) (by go_simp) rfl
    · intro a W hE hd ho
      have e43 : a.tmps[43]?.getD undef = .tuple #[.int .i64 M1, .int .i64 M2, .int .i64 M3] := hd 9 43 (by kernel_rfl) (by kernel_rfl)
      exact gs_same (v := .int .i64 M2) (by go_simp) rfl
    · intro a W hE hd ho
      have e43 : a.tmps[43]?.getD undef = .tuple #[.int .i64 M1, .int .i64 M2, .int .i64 M3] := hd 9 43 (by kernel_rfl) (by kernel_rfl)
      exact gs_same (v := .int .i64 M3) (by go_simp) rfl
    · intro a W hE hd ho
      have e53 : a.tmps[53]?.getD undef = .int .i64 M1 := hd 10 53 (by kernel_rfl) (by kernel_rfl)
      exact gs_same (v := .int .i64 M1) (by go_simp) rfl
    · intro a W hE hd ho
      have e54 : a.tmps[54]?.getD undef = .int .i64 M2 := hd 11 54 (by kernel_rfl) (by kernel_rfl)
      exact gs_same (v := .int .i64 M2) (by go_simp) rfl
    · intro a W hE hd ho
      have e55 : a.tmps[55]?.getD undef = .int .i64 M3 := hd 12 55 (by kernel_rfl) (by kernel_rfl)
      exact gs_same (v := .int .i64 M3) (by go_simp) rfl
  intro v5 w5 hE hR
  have y0 : v5 0 = .agg cs := hR 0 (by omega)
  obtain ⟨x4, y1⟩ : ∃ v, v5 1 = v := ⟨_, rfl⟩
  have y2 : v5 2 = .slice A n c := hR 2 (by omega)
  obtain ⟨z4, y3⟩ : ∃ v, v5 3 = v := ⟨_, rfl⟩
  have y4 : v5 4 = .pointer (some ⟨g5, 0, none⟩) := hR 4 (by omega)
  have y5 : v5 5 = .agg #[.int .i64 f, .int .i64 t] := hR 5 (by omega)
  have y6 : v5 6 = .pointer (some ⟨g5, 2, none⟩) := hR 6 (by omega)
  have y7 : v5 7 = .agg #[.int .i64 rx, .int .i64 ry, .int .i64 rz] := hR 7 (by omega)
  have y8 : v5 8 = .tuple #[.int .i64 M1, .int .i64 M2, .int .i64 M3] := hR 8 (by omega)
  have y9 : v5 9 = .tuple #[.int .i64 M1, .int .i64 M2, .int .i64 M3] := hR 9 (by omega)
  have y10 : v5 10 = .int .i64 M1 := hR 10 (by omega)
  have y11 : v5 11 = .int .i64 M2 := hR 11 (by omega)
  have y12 : v5 12 = .int .i64 M3 := hR 12 (by omega)
  have y13 : v5 13 = .int .i64 M1 := hR 13 (by omega)
  have y14 : v5 14 = .int .i64 M2 := hR 14 (by omega)
  have y15 : v5 15 = .int .i64 M3 := hR 15 (by omega)
  simp only [List.range, List.range.loop, List.foldl_cons, List.foldl_nil, y0, y1, y2, y3, y4, y5, y6, y7, y8, y9, y10, y11, y12, y13, y14, y15, List.drop_succ_cons, List.drop_zero]
  simp only [dstAt, List.getElem?_toArray, List.getElem?_cons_zero, List.getElem?_cons_succ, Option.bind_some, Act.put, List.setIfInBounds_toArray, List.set_cons_zero, List.set_cons_succ]
  clear y0 y1 y2 y3 y4 y5 y6 y7 y8 y9 y10 y11 y12 y13 y14 y15 hR
  have hb := hE.below
  replace HB := Lib.hid (HB.out.trans (hb.mono HB.out.size))
  replace TT := Lib.hid (TT.out.below hb)
  replace X := Lib.hid (X.out.below hb)
  replace U := Lib.hid (U.out.keep hb)
  replace F := Lib.hid (F.out.keep hb)
  replace TB := Lib.hid (TB.out.keep hb)
  replace HT := Lib.hid (HT.out.keep hb)
  replace HL := Lib.hid (HL.out.keep hb)
  clear hb
  clear hE
  go_upto_region 5 with fail
  refine wp_region_growQ 11 9 (by kernel_rfl) (by kernel_rfl) [GR.eq (.agg cs), GR.cp nm sh T sn qn gn, GR.eq (.slice A n c), GR.trkB n l, GR.eq (.pointer (some ⟨g5, 2, none⟩)), GR.eq (.agg #[.int .i64 rx, .int .i64 ry, .int .i64 rz]), GR.eq (.tuple #[.agg #[.int .i64 I1, .int .i64 I2], .int .i64 E3]), GR.eq (.tuple #[.agg #[.int .i64 I1, .int .i64 I2], .int .i64 E3]), GR.eq (.agg #[.int .i64 I1, .int .i64 I2]), GR.eq (.int .i64 E3), GR.boxY w5.heap.size 100 #[.int .i64 0, .int .i64 0]] 151 rfl (by kernel_rfl) (fun c a d v w h => by cases d <;> exact h) ?_ ?_ ?_
  · intro oq a W hoq hE hd
    obtain rfl := Option.some.inj hoq.symm
    have e56 : a.tmps[56]?.getD undef = .tuple #[.agg #[.int .i64 I1, .int .i64 I2], .int .i64 E3] := hd 7 56 (by kernel_rfl) (by kernel_rfl)
    exact ⟨.int .i64 E3, fun w' => by go_simp, rfl⟩
  · refine ⟨?_, ?_, ?_, ?_, ?_, ?_, ?_, ?_, ?_, ?_, ?_, trivial⟩
    · intro a W hE hd ho
      have e3 : a.tmps[3]?.getD undef = .pointer (some ⟨g3, 0, none⟩) := ho 3 (by kernel_rfl)
      exact gs_load 26 (.tmp 3) rfl ⟨g3, 0, none⟩ (.agg cs) ((eval_getD _ _).trans e3) ((TT.out.below hE).lv Tryz.prog Tryz.underlying26 rfl IT.out) rfl
    · intro a W hE hd ho
      have e57 : a.tmps[57]?.getD undef = .agg cs := hd 0 57 (by kernel_rfl) (by kernel_rfl)
      refine gs_call (f := 16) (args := #[.agg cs]) (by go_simp) ?_
      refine (given_ok W (HT.out.keep hE) HD8.out hS.out).mono ?_
      rintro e w9 ⟨cs', A1, c1, A2, c2, A3, c3, rfl, k1, k2⟩
      exact ⟨_, rfl, k2, cs', A1, c1, A2, c2, A3, c3, rfl, k1⟩
    · intro a W hE hd ho
      have e1 : a.tmps[1]?.getD undef = .slice A n c := ho 1 (by kernel_rfl)
      exact gs_same (v := .slice A n c) (by go_simp) rfl
    · intro a W hE hd ho
      have e59 : a.tmps[59]?.getD undef = .slice A n c := hd 2 59 (by kernel_rfl) (by kernel_rfl)
      refine gs_call (f := 36) (args := #[.slice A n c]) (by go_simp) ?_
      refine (fixes_any A n c l W (HL.out.keep hE) (by have := hn17.out; omega)).mono ?_
      rintro e w9 ⟨A', c', rfl, h1, h2, h3⟩
      exact ⟨_, rfl, h3, A', c', rfl, h1, h2⟩
    · intro a W hE hd ho
      have e5 : a.tmps[5]?.getD undef = .pointer (some ⟨g5, 0, none⟩) := ho 5 (by kernel_rfl)
      exact gs_same (v := .pointer (some ⟨g5, 2, none⟩)) (by go_simp) rfl
    · intro a W hE hd ho
      have e61 : a.tmps[61]?.getD undef = .pointer (some ⟨g5, 2, none⟩) := hd 4 61 (by kernel_rfl) (by kernel_rfl)
      have C := X.out.below hE
      have c2 := C.cell 2
      have c3 := C.cell 3
      have c4 := C.cell 4
      simp only [List.getElem?_toArray, List.getElem?_cons_zero, List.getElem?_cons_succ] at c2 c3 c4
      exact gs_same (v := .agg #[.int .i64 rx, .int .i64 ry, .int .i64 rz]) (by go_simp) rfl
    · intro a W hE hd ho
      have e62 : a.tmps[62]?.getD undef = .agg #[.int .i64 rx, .int .i64 ry, .int .i64 rz] := hd 5 62 (by kernel_rfl) (by kernel_rfl)
      obtain ⟨cs', A1, c1, A2, c2, A3, c3, e58, hC⟩ : ∃ cs A1 c1 A2 c2 A3 c3, a.tmps[58]?.getD undef = .agg cs ∧ TyAny W cs nm sh T A1 sn c1 A2 qn c2 A3 gn c3 := hd 1 58 (by kernel_rfl) (by kernel_rfl)
      obtain ⟨A', c', e60, hf, hc1, hc2⟩ : ∃ A c, a.tmps[60]?.getD undef = .slice A n c ∧ TrAt W A n l ∧ n ≤ c ∧ c ≤ 9223372036854775807 := hd 3 60 (by kernel_rfl) (by kernel_rfl)
      refine gs_call (f := 57) (args := #[.agg cs', .slice A' n c', .agg #[.int .i64 rx, .int .i64 ry, .int .i64 rz]]) (by go_simp) ?_
      refine (K3.out hn17.out hC hf hc1 hc2).mono ?_
      rintro e w9 ⟨rfl, hbl⟩
      exact ⟨_, rfl, hbl, rfl⟩
    · intro a W hE hd ho
      have e63 : a.tmps[63]?.getD undef = .tuple #[.agg #[.int .i64 I1, .int .i64 I2], .int .i64 E3] := hd 6 63 (by kernel_rfl) (by kernel_rfl)
      exact gs_same (v := .tuple #[.agg #[.int .i64 I1, .int .i64 I2], .int .i64 E3]) (by go_simp) rfl
    · intro a W hE hd ho
      have e56 : a.tmps[56]?.getD undef = .tuple #[.agg #[.int .i64 I1, .int .i64 I2], .int .i64 E3] := hd 7 56 (by kernel_rfl) (by kernel_rfl)
      exact gs_same (v := .agg #[.int .i64 I1, .int .i64 I2]) (by go_simp) rfl
    · intro a W hE hd ho
      have e56 : a.tmps[56]?.getD undef = .tuple #[.agg #[.int .i64 I1, .int .i64 I2], .int .i64 E3] := hd 7 56 (by kernel_rfl) (by kernel_rfl)
      exact gs_same (v := .int .i64 E3) (by go_simp) rfl
    · intro a W hE hd ho
      exact gs_val (v := .pointer (some ⟨W.heap.size, 0, none⟩)) (W' := W.alloc (.cells #[.int .i64 0, .int .i64 0] 100)) (by go_simp) ((Below.refl _ _).alloc (Nat.le_refl _) _) ⟨_, rfl, Blk.new _ _ _, hE.below.size⟩
  intro v6 w6 hE hR
  have y0 : v6 0 = .agg cs := hR 0 (by omega)
  obtain ⟨x5, y1⟩ : ∃ v, v6 1 = v := ⟨_, rfl⟩
  have y2 : v6 2 = .slice A n c := hR 2 (by omega)
  obtain ⟨z5, y3⟩ : ∃ v, v6 3 = v := ⟨_, rfl⟩
  have y4 : v6 4 = .pointer (some ⟨g5, 2, none⟩) := hR 4 (by omega)
  have y5 : v6 5 = .agg #[.int .i64 rx, .int .i64 ry, .int .i64 rz] := hR 5 (by omega)
  have y6 : v6 6 = .tuple #[.agg #[.int .i64 I1, .int .i64 I2], .int .i64 E3] := hR 6 (by omega)
  have y7 : v6 7 = .tuple #[.agg #[.int .i64 I1, .int .i64 I2], .int .i64 E3] := hR 7 (by omega)
  have y8 : v6 8 = .agg #[.int .i64 I1, .int .i64 I2] := hR 8 (by omega)
  have y9 : v6 9 = .int .i64 E3 := hR 9 (by omega)
  obtain ⟨g12, y10, hb12, hg12⟩ : ∃ g, v6 10 = .pointer (some ⟨g, 0, none⟩) ∧ Blk w6 g 100 #[.int .i64 0, .int .i64 0] ∧ w5.heap.size ≤ g := hR 10 (by omega)
  simp only [List.range, List.range.loop, List.foldl_cons, List.foldl_nil, y0, y1, y2, y3, y4, y5, y6, y7, y8, y9, y10, List.drop_succ_cons, List.drop_zero]
  simp only [dstAt, List.getElem?_toArray, List.getElem?_cons_zero, List.getElem?_cons_succ, Option.bind_some, Act.put, List.setIfInBounds_toArray, List.set_cons_zero, List.set_cons_succ]
  clear y0 y1 y2 y3 y4 y5 y6 y7 y8 y9 y10 hR
  refine any_next (fuel := 1) (k := 11) (by kernel_rfl) rfl rfl ?_
  refine wp_store_row 100 (.tmp 12) (.tmp 64) rfl g12 #[.int .i64 I1, .int .i64 I2] rfl rfl 100 _ hb12 (by kernel_rfl) rfl (by simp [Value.oneCell']) ?_
  obtain ⟨w7, hw7⟩ : ∃ W, W = w6.setRow g12 #[.int .i64 I1, .int .i64 I2] := ⟨_, rfl⟩
  rw [← hw7]
  have hb : Below w5.heap.size w5 w7 := by rw [hw7]; exact hE.below.setRow' hg12 _
  have BI : Hid (Blk w7 g12 100 #[.int .i64 I1, .int .i64 I2]) := by show Blk _ _ _ _; rw [hw7]; exact hb12.setRow _
  clear hw7 hE hb12 hg12 K1 K2 K3
  replace HB := Lib.hid (HB.out.trans (hb.mono HB.out.size))
  replace TT := Lib.hid (TT.out.below hb)
  replace X := Lib.hid (X.out.below hb)
  replace U := Lib.hid (U.out.keep hb)
  replace F := Lib.hid (F.out.keep hb)
  replace TB := Lib.hid (TB.out.keep hb)
  replace HT := Lib.hid (HT.out.keep hb)
  replace HL := Lib.hid (HL.out.keep hb)
  clear hb
  try simp only [Act.put, List.setIfInBounds_toArray, List.set_cons_zero, List.set_cons_succ]
  refine any_take (fuel := 0) (k := 12) (v := .int .i64 E3) rfl (by kernel_rfl) (by kernel_rfl) (by kernel_rfl) (fun _ _ _ h => h) rfl (fun w => by go_simp) ?_
  simp only [Act.put, List.setIfInBounds_toArray, List.set_cons_zero, List.set_cons_succ]
  refine any_done (by kernel_rfl) ?_
  go_upto_region 6 with fail
  go_wp2_with (refine wpList_load_row rfl 26 _ rfl g3 rfl 26 cs (0, 0) _ TT.out Tryz.underlying26 rfl IT.out ?_)
  refine (refType_full _ HT.out HD8.out hS.out).mono ?_
  rw [← HCT.out]
  rintro e w8 ⟨rfl, hb⟩
  replace HB := Lib.hid (HB.out.trans (hb.mono HB.out.size))
  replace TT := Lib.hid (TT.out.below hb)
  replace X := Lib.hid (X.out.below hb)
  replace U := Lib.hid (U.out.keep hb)
  replace F := Lib.hid (F.out.keep hb)
  replace TB := Lib.hid (TB.out.keep hb)
  replace HT := Lib.hid (HT.out.keep hb)
  replace HL := Lib.hid (HL.out.keep hb)
  replace BI := Lib.hid (BI.out.below hb)
  clear hb
  go_wp2_with fail
  refine (refTrack_full A n c l _ HL.out (by have := hn17.out; omega)).mono ?_
  rw [← HCK.out]
  rintro e w9 ⟨rfl, hb⟩
  replace HB := Lib.hid (HB.out.trans (hb.mono HB.out.size))
  replace TT := Lib.hid (TT.out.below hb)
  replace X := Lib.hid (X.out.below hb)
  replace U := Lib.hid (U.out.keep hb)
  replace F := Lib.hid (F.out.keep hb)
  replace TB := Lib.hid (TB.out.keep hb)
  replace HT := Lib.hid (HT.out.keep hb)
  replace HL := Lib.hid (HL.out.keep hb)
  replace BI := Lib.hid (BI.out.below hb)
  clear hb
  go_wp2_with fail
  obtain ⟨w10, hw10⟩ : ∃ W, W = (w9.alloc (.cells #[.int .i64 CT, .int .i64 CK] 3)) := ⟨_, rfl⟩
  rw [← hw10]
  have EA : Hid (Blk w10 (w9.heap.size) 3 #[.int .i64 CT, .int .i64 CK]) := by show Blk _ _ _ _; rw [hw10]; exact Blk.new _ _ _
  have hb : Below w9.heap.size w9 w10 := by rw [hw10]; exact ((Below.refl _ _).alloc (Nat.le_refl _) _)
  obtain ⟨ga1, hga1⟩ : ∃ g, g = w9.heap.size := ⟨_, rfl⟩
  have HGw10 : Hid (ga1 = w9.heap.size) := hga1
  rw [← hga1] at EA
  try rw [← hga1]
  clear hw10 hga1
  clear HGw10
  replace HB := Lib.hid (HB.out.trans (hb.mono HB.out.size))
  replace TT := Lib.hid (TT.out.below hb)
  replace X := Lib.hid (X.out.below hb)
  replace U := Lib.hid (U.out.keep hb)
  replace F := Lib.hid (F.out.keep hb)
  replace TB := Lib.hid (TB.out.keep hb)
  replace HT := Lib.hid (HT.out.keep hb)
  replace HL := Lib.hid (HL.out.keep hb)
  replace BI := Lib.hid (BI.out.below hb)
  clear hb
  refine (lawF2 ga1 2 CT CK w10 (EA.out.cell 0) (EA.out.cell 1)).mono ?_
  rw [← HBAD.out]
  rintro e w11 ⟨rfl, hw⟩
  obtain rfl := hw
  clear EA
  go_upto_region 7 with fail
  refine wp_region_allN 17 rfl (by kernel_rfl) (by kernel_rfl) [GR.eq (.int .i64 BAD), GR.eq (.pointer (some ⟨g5, 0, none⟩)), GR.eq (.agg #[.int .i64 f, .int .i64 t]), GR.eq (.int .i64 CC), GR.eq (.pointer (some ⟨g5, 2, none⟩)), GR.eq (.agg #[.int .i64 rx, .int .i64 ry, .int .i64 rz]), GR.eq (.int .i64 CP), GR.row 3 3 #[.int .i64 BAD, .int .i64 CC, .int .i64 CP], GR.eq (.int .i64 E1), GR.eq (.int .i64 BAD), GR.eq (.pointer (some ⟨g5, 2, none⟩)), GR.eq (.agg #[.int .i64 rx, .int .i64 ry, .int .i64 rz]), GR.eq (.int .i64 CP), GR.row 2 3 #[.int .i64 BAD, .int .i64 CP], GR.eq (.int .i64 E3), GR.eq (.int .i64 E1), GR.eq (.int .i64 E3)] 151 rfl (by kernel_rfl) ?_ ?_
  · refine ⟨?_, ?_, ?_, ?_, ?_, ?_, ?_, ?_, ?_, ?_, ?_, ?_, ?_, ?_, ?_, ?_, ?_, trivial⟩
    · intro a W hE hd ho
      have e14 : a.tmps[14]?.getD undef = .int .i64 BAD := ho 14 (by kernel_rfl)
      exact gs_same (v := .int .i64 BAD) (by go_simp) rfl
    · intro a W hE hd ho
      have e5 : a.tmps[5]?.getD undef = .pointer (some ⟨g5, 0, none⟩) := ho 5 (by kernel_rfl)
      exact gs_same (v := .pointer (some ⟨g5, 0, none⟩)) (by go_simp) rfl
    · intro a W hE hd ho
      have e73 : a.tmps[73]?.getD undef = .pointer (some ⟨g5, 0, none⟩) := hd 1 73 (by kernel_rfl) (by kernel_rfl)
      have C := X.out.below hE
      have c0 := C.cell 0
      have c1 := C.cell 1
      simp only [List.getElem?_toArray, List.getElem?_cons_zero, List.getElem?_cons_succ] at c0 c1
      exact gs_same (v := .agg #[.int .i64 f, .int .i64 t]) (by go_simp) rfl
    · intro a W hE hd ho
      have e74 : a.tmps[74]?.getD undef = .agg #[.int .i64 f, .int .i64 t] := hd 2 74 (by kernel_rfl) (by kernel_rfl)
      refine gs_call (f := 58) (args := #[.agg #[.int .i64 f, .int .i64 t]]) (by go_simp) ?_
      refine (refTicks_any f t W).mono ?_
      rintro e w' ⟨rfl, hb⟩
      exact ⟨_, rfl, hb, by rw [HCC.out]; rfl⟩
    · intro a W hE hd ho
      have e5 : a.tmps[5]?.getD undef = .pointer (some ⟨g5, 0, none⟩) := ho 5 (by kernel_rfl)
      exact gs_same (v := .pointer (some ⟨g5, 2, none⟩)) (by go_simp) rfl
    · intro a W hE hd ho
      have e76 : a.tmps[76]?.getD undef = .pointer (some ⟨g5, 2, none⟩) := hd 4 76 (by kernel_rfl) (by kernel_rfl)
      have C := X.out.below hE
      have c2 := C.cell 2
      have c3 := C.cell 3
      have c4 := C.cell 4
      simp only [List.getElem?_toArray, List.getElem?_cons_zero, List.getElem?_cons_succ] at c2 c3 c4
      exact gs_same (v := .agg #[.int .i64 rx, .int .i64 ry, .int .i64 rz]) (by go_simp) rfl
    · intro a W hE hd ho
      have e77 : a.tmps[77]?.getD undef = .agg #[.int .i64 rx, .int .i64 ry, .int .i64 rz] := hd 5 77 (by kernel_rfl) (by kernel_rfl)
      refine gs_call (f := 26) (args := #[.agg #[.int .i64 rx, .int .i64 ry, .int .i64 rz]]) (by go_simp) ?_
      refine (refPlace_any rx ry rz W).mono ?_
      rintro e w' ⟨rfl, hb⟩
      exact ⟨_, rfl, hb, by rw [HCP.out]; rfl⟩
    · intro a W hE hd ho
      have e72 : a.tmps[72]?.getD undef = .int .i64 BAD := hd 0 72 (by kernel_rfl) (by kernel_rfl)
      have e75 : a.tmps[75]?.getD undef = .int .i64 CC := hd 3 75 (by kernel_rfl) (by kernel_rfl)
      have e78 : a.tmps[78]?.getD undef = .int .i64 CP := hd 6 78 (by kernel_rfl) (by kernel_rfl)
      exact gs_val (v := .slice (some ⟨W.heap.size, 0, none⟩) 3 3) (W' := W.alloc (.cells #[.int .i64 BAD, .int .i64 CC, .int .i64 CP] 3)) (by go_simp) ((Below.refl _ _).alloc (Nat.le_refl _) _) ⟨_, rfl, Blk.new _ _ _⟩
    · intro a W hE hd ho
      obtain ⟨gr, e79, hr⟩ : ∃ g, a.tmps[79]?.getD undef = .slice (some ⟨g, 0, none⟩) 3 3 ∧ Blk W g 3 #[.int .i64 BAD, .int .i64 CC, .int .i64 CP] := hd 7 79 (by kernel_rfl) (by kernel_rfl)
      refine gs_call (f := 21) (args := #[.slice (some ⟨gr, 0, none⟩) 3 3]) (by go_simp) ?_
      refine (lawF3 _ _ BAD CC CP _ (hr.cell 0) (hr.cell 1) (hr.cell 2)).mono ?_
      rintro e w' ⟨rfl, rfl⟩
      exact ⟨_, rfl, Ext.refl _, by rw [HE1.out]; rfl⟩
    · intro a W hE hd ho
      have e14 : a.tmps[14]?.getD undef = .int .i64 BAD := ho 14 (by kernel_rfl)
      exact gs_same (v := .int .i64 BAD) (by go_simp) rfl
    · intro a W hE hd ho
      have e5 : a.tmps[5]?.getD undef = .pointer (some ⟨g5, 0, none⟩) := ho 5 (by kernel_rfl)
      exact gs_same (v := .pointer (some ⟨g5, 2, none⟩)) (by go_simp) rfl
    · intro a W hE hd ho
      have e82 : a.tmps[82]?.getD undef = .pointer (some ⟨g5, 2, none⟩) := hd 10 82 (by kernel_rfl) (by kernel_rfl)
      have C := X.out.below hE
      have c2 := C.cell 2
      have c3 := C.cell 3
      have c4 := C.cell 4
      simp only [List.getElem?_toArray, List.getElem?_cons_zero, List.getElem?_cons_succ] at c2 c3 c4
      exact gs_same (v := .agg #[.int .i64 rx, .int .i64 ry, .int .i64 rz]) (by go_simp) rfl
    · intro a W hE hd ho
      have e83 : a.tmps[83]?.getD undef = .agg #[.int .i64 rx, .int .i64 ry, .int .i64 rz] := hd 11 83 (by kernel_rfl) (by kernel_rfl)
      refine gs_call (f := 26) (args := #[.agg #[.int .i64 rx, .int .i64 ry, .int .i64 rz]]) (by go_simp) ?_
      refine (refPlace_any rx ry rz W).mono ?_
      rintro e w' ⟨rfl, hb⟩
      exact ⟨_, rfl, hb, by rw [HCP.out]; rfl⟩
    · intro a W hE hd ho
      have e81 : a.tmps[81]?.getD undef = .int .i64 BAD := hd 9 81 (by kernel_rfl) (by kernel_rfl)
      have e84 : a.tmps[84]?.getD undef = .int .i64 CP := hd 12 84 (by kernel_rfl) (by kernel_rfl)
      exact gs_val (v := .slice (some ⟨W.heap.size, 0, none⟩) 2 2) (W' := W.alloc (.cells #[.int .i64 BAD, .int .i64 CP] 3)) (by go_simp) ((Below.refl _ _).alloc (Nat.le_refl _) _) ⟨_, rfl, Blk.new _ _ _⟩
    · intro a W hE hd ho
      obtain ⟨gr, e85, hr⟩ : ∃ g, a.tmps[85]?.getD undef = .slice (some ⟨g, 0, none⟩) 2 2 ∧ Blk W g 3 #[.int .i64 BAD, .int .i64 CP] := hd 13 85 (by kernel_rfl) (by kernel_rfl)
      refine gs_call (f := 21) (args := #[.slice (some ⟨gr, 0, none⟩) 2 2]) (by go_simp) ?_
      refine (lawF2 _ _ BAD CP _ (hr.cell 0) (hr.cell 1)).mono ?_
      rintro e w' ⟨rfl, rfl⟩
      exact ⟨_, rfl, Ext.refl _, by rw [HE3.out]; rfl⟩
    · intro a W hE hd ho
      have e80 : a.tmps[80]?.getD undef = .int .i64 E1 := hd 8 80 (by kernel_rfl) (by kernel_rfl)
      exact gs_same (v := .int .i64 E1) (by go_simp) rfl
    · intro a W hE hd ho
      have e86 : a.tmps[86]?.getD undef = .int .i64 E3 := hd 14 86 (by kernel_rfl) (by kernel_rfl)
      exact gs_same (v := .int .i64 E3) (by go_simp) rfl
  intro v12 w12 hE hR
  have y0 : v12 0 = .int .i64 BAD := hR 0 (by omega)
  have y1 : v12 1 = .pointer (some ⟨g5, 0, none⟩) := hR 1 (by omega)
  have y2 : v12 2 = .agg #[.int .i64 f, .int .i64 t] := hR 2 (by omega)
  have y3 : v12 3 = .int .i64 CC := hR 3 (by omega)
  have y4 : v12 4 = .pointer (some ⟨g5, 2, none⟩) := hR 4 (by omega)
  have y5 : v12 5 = .agg #[.int .i64 rx, .int .i64 ry, .int .i64 rz] := hR 5 (by omega)
  have y6 : v12 6 = .int .i64 CP := hR 6 (by omega)
  obtain ⟨z7, y7⟩ : ∃ v, v12 7 = v := ⟨_, rfl⟩
  have y8 : v12 8 = .int .i64 E1 := hR 8 (by omega)
  have y9 : v12 9 = .int .i64 BAD := hR 9 (by omega)
  have y10 : v12 10 = .pointer (some ⟨g5, 2, none⟩) := hR 10 (by omega)
  have y11 : v12 11 = .agg #[.int .i64 rx, .int .i64 ry, .int .i64 rz] := hR 11 (by omega)
  have y12 : v12 12 = .int .i64 CP := hR 12 (by omega)
  obtain ⟨z13, y13⟩ : ∃ v, v12 13 = v := ⟨_, rfl⟩
  have y14 : v12 14 = .int .i64 E3 := hR 14 (by omega)
  have y15 : v12 15 = .int .i64 E1 := hR 15 (by omega)
  have y16 : v12 16 = .int .i64 E3 := hR 16 (by omega)
  simp only [List.range, List.range.loop, List.foldl_cons, List.foldl_nil, y0, y1, y2, y3, y4, y5, y6, y7, y8, y9, y10, y11, y12, y13, y14, y15, y16, List.drop_succ_cons, List.drop_zero]
  simp only [dstAt, List.getElem?_toArray, List.getElem?_cons_zero, List.getElem?_cons_succ, Option.bind_some, Act.put, List.setIfInBounds_toArray, List.set_cons_zero, List.set_cons_succ]
  clear y0 y1 y2 y3 y4 y5 y6 y7 y8 y9 y10 y11 y12 y13 y14 y15 y16 hR
  have hb := hE.below
  replace HB := Lib.hid (HB.out.trans (hb.mono HB.out.size))
  replace TT := Lib.hid (TT.out.below hb)
  replace X := Lib.hid (X.out.below hb)
  replace U := Lib.hid (U.out.keep hb)
  replace F := Lib.hid (F.out.keep hb)
  replace TB := Lib.hid (TB.out.keep hb)
  replace HT := Lib.hid (HT.out.keep hb)
  replace HL := Lib.hid (HL.out.keep hb)
  replace BI := Lib.hid (BI.out.below hb)
  clear hb
  clear hE
  go_upto_region 10 with fail
  go_upto_region 11 with fail
  obtain ⟨w13, hw13⟩ : ∃ W, W = (w12.alloc (.cells #[.int .i64 0, .int .i64 0] 100)) := ⟨_, rfl⟩
  rw [← hw13]
  have BZ : Hid (Blk w13 (w12.heap.size) 100 #[.int .i64 0, .int .i64 0]) := by show Blk _ _ _ _; rw [hw13]; exact Blk.new _ _ _
  have hb : Below w12.heap.size w12 w13 := by rw [hw13]; exact ((Below.refl _ _).alloc (Nat.le_refl _) _)
  obtain ⟨g21, hg21⟩ : ∃ g, g = w12.heap.size := ⟨_, rfl⟩
  have HGw13 : Hid (g21 = w12.heap.size) := hg21
  rw [← hg21] at BZ
  try rw [← hg21]
  clear hw13 hg21
  have HG21 : Hid (w.heap.size ≤ g21 ∧ g12 < g21) := by show _ ∧ _; have h1 := HGw13.out; have h2 := HB.out.size; have h3 := lt_of_block BI.out; omega
  clear HGw13
  replace HB := Lib.hid (HB.out.trans (hb.mono HB.out.size))
  replace TT := Lib.hid (TT.out.below hb)
  replace X := Lib.hid (X.out.below hb)
  replace U := Lib.hid (U.out.keep hb)
  replace F := Lib.hid (F.out.keep hb)
  replace TB := Lib.hid (TB.out.keep hb)
  replace HT := Lib.hid (HT.out.keep hb)
  replace HL := Lib.hid (HL.out.keep hb)
  replace BI := Lib.hid (BI.out.below hb)
  clear hb
  go_upto_if 89 with fail
  go_cut [17, 18, 19, 20] (fun v17 v18 v19 v20 wx => v17 = .int .i64 M3 ∧ v18 = .int .i64 V1 ∧ v19 = .int .i64 M1 ∧ v20 = .int .i64 M2 ∧ Hid (Below w13.heap.size w13 wx))
  case first =>
    by_cases hz : E1 = 0
    · have hz1 : (E1 == 0) = true := by simp [hz]
      have HZ := Lib.hid hz
      clear hz
      have XA := X.out
      have ac0 := XA.cell 0; have af0 := XA.frozen 0; have ac1 := XA.cell 1; have af1 := XA.frozen 1; have ac2 := XA.cell 2; have af2 := XA.frozen 2; have ac3 := XA.cell 3; have af3 := XA.frozen 3; have ac4 := XA.cell 4; have af4 := XA.frozen 4
      simp only [List.getElem?_toArray, List.getElem?_cons_zero, List.getElem?_cons_succ] at ac0 ac1 ac2 ac3 ac4
      clear XA
      obtain ⟨q0, q1, q2⟩ := firstE3_zero (HE1.out.symm.trans HZ.out)
      obtain ⟨c0, k0⟩ := firstE2_zero (HBAD.out.symm.trans q0)
      obtain ⟨qb, qo, gb, go, rfl, rfl, hta, hG⟩ := rty_ok HT.out HD8.out (HCT.out.symm.trans c0)
      have hgt := goodTr_of (HCK.out.symm.trans k0)
      have hlo := hgt.lo
      have hln := HL.out.1
      obtain ⟨b, off, rfl, hfx⟩ := HL.out.2 (by omega)
      have hgp : GoodPl ⟨rx, ry, rz⟩ := placeE_good (HCP.out.symm.trans q2)
      obtain ⟨u0, u1, u2⟩ := ticksE_zero (HCC.out.symm.trans q1)
      have hv1 : V1 = Bell.expoOf T l ⟨rx, ry, rz⟩ f t := by rw [HV1.out, if_pos HZ.out]
      have hm1 : M1 = (maxA T l ⟨rx, ry, rz⟩ f t).1 := by rw [HM1.out]; unfold maxE; rw [if_pos HZ.out]
      have hm2 : M2 = (maxA T l ⟨rx, ry, rz⟩ f t).2.1 := by rw [HM2.out]; unfold maxE; rw [if_pos HZ.out]
      have hm3 : M3 = (maxA T l ⟨rx, ry, rz⟩ f t).2.2 := by rw [HM3.out]; unfold maxE; rw [if_pos HZ.out]
      have KE := Lib.hid (refExposure_any b off n c l f t ⟨rx, ry, rz⟩ w13 hta hG hfx hgt hgp u0 u1 u2)
      have KM := Lib.hid (fun W (hb : Below w13.heap.size w13 W) => refMaximum_any b off n c l f t ⟨rx, ry, rz⟩ W (hta.keep hb) hG (hfx.keep hb) hgt hgp u0 u1 u2)
      unfold plV at KE KM
      simp only [] at KE KM
      rw [← hv1] at KE
      rw [← hm1, ← hm2, ← hm3] at KM
      clear hv1 hm1 hm2 hm3 hta hG hfx hgt hgp hlo hln q0 q1 q2 c0 k0 u0 u1 u2
      go_wp2_with (refine wpList_load_row rfl 26 _ rfl g3 rfl 26 cs (0, 0) _ TT.out Tryz.underlying26 rfl IT.out ?_)
      refine KE.out.mono ?_
      rintro e w14 ⟨rfl, hb⟩
      have HV := Lib.hid hb
      clear KE ac0 ac1 ac2 ac3 ac4 af0 af1 af2 af3 af4
      have hb2 := hb
      replace TT := Lib.hid (TT.out.below hb)
      replace X := Lib.hid (X.out.below hb)
      clear hb
      have XA := X.out
      have ac0 := XA.cell 0; have af0 := XA.frozen 0; have ac1 := XA.cell 1; have af1 := XA.frozen 1; have ac2 := XA.cell 2; have af2 := XA.frozen 2; have ac3 := XA.cell 3; have af3 := XA.frozen 3; have ac4 := XA.cell 4; have af4 := XA.frozen 4
      simp only [List.getElem?_toArray, List.getElem?_cons_zero, List.getElem?_cons_succ] at ac0 ac1 ac2 ac3 ac4
      clear XA
      go_wp2_with (refine wpList_load_row rfl 26 _ rfl g3 rfl 26 cs (0, 0) _ TT.out Tryz.underlying26 rfl IT.out ?_)
      refine (KM.out w14 hb2).mono ?_
      rintro e w15 ⟨rfl, hb3⟩
      go_wp2
      go_meet
      exact ⟨rfl, rfl, rfl, rfl, HV.out.trans (hb3.mono HV.out.size)⟩
    · have hz1 : (E1 == 0) = false := by simp [hz]
      have HZ := Lib.hid hz
      clear hz
      have hv1 : V1 = 0 := by rw [HV1.out, if_neg HZ.out]
      have hm1 : M1 = 0 := by rw [HM1.out]; unfold maxE; rw [if_neg HZ.out]
      have hm2 : M2 = 0 := by rw [HM2.out]; unfold maxE; rw [if_neg HZ.out]
      have hm3 : M3 = E1 := by rw [HM3.out]; unfold maxE; rw [if_neg HZ.out]
      have HVV := Lib.hid (And.intro hv1 (And.intro hm1 (And.intro hm2 hm3)))
      clear hv1 hm1 hm2 hm3
      go_wp2
      go_meet
      exact ⟨by rw [HVV.out.2.2.2], by rw [HVV.out.1], by rw [HVV.out.2.1], by rw [HVV.out.2.2.1], Below.refl _ _⟩
  case rest =>
  obtain ⟨rfl, rfl, rfl, rfl, hbc⟩ := hcut
  have hb := hbc.out
  obtain ⟨w16, hw16⟩ : ∃ W, W = wc := ⟨_, rfl⟩
  rw [← hw16] at hb ⊢
  clear hbc hw16
  replace HB := Lib.hid (HB.out.trans (hb.mono HB.out.size))
  replace TT := Lib.hid (TT.out.below hb)
  replace X := Lib.hid (X.out.below hb)
  replace U := Lib.hid (U.out.keep hb)
  replace F := Lib.hid (F.out.keep hb)
  replace TB := Lib.hid (TB.out.keep hb)
  replace HT := Lib.hid (HT.out.keep hb)
  replace HL := Lib.hid (HL.out.keep hb)
  replace BI := Lib.hid (BI.out.below hb)
  replace BZ := Lib.hid (BZ.out.below hb)
  clear hb
  go_upto_if 109 with fail
  by_cases hz : E3 = 0
  · have hz1 : (E3 == 0) = true := by simp [hz]
    have HZ := Lib.hid hz
    clear hz
    have XA := X.out
    have ac0 := XA.cell 0; have af0 := XA.frozen 0; have ac1 := XA.cell 1; have af1 := XA.frozen 1; have ac2 := XA.cell 2; have af2 := XA.frozen 2; have ac3 := XA.cell 3; have af3 := XA.frozen 3; have ac4 := XA.cell 4; have af4 := XA.frozen 4
    simp only [List.getElem?_toArray, List.getElem?_cons_zero, List.getElem?_cons_succ] at ac0 ac1 ac2 ac3 ac4
    clear XA
    obtain ⟨q0, q2⟩ := firstE2_zero (HE3.out.symm.trans HZ.out)
    obtain ⟨c0, k0⟩ := firstE2_zero (HBAD.out.symm.trans q0)
    obtain ⟨qb, qo, gb, go, rfl, rfl, hta, hG⟩ := rty_ok HT.out HD8.out (HCT.out.symm.trans c0)
    have hgt := goodTr_of (HCK.out.symm.trans k0)
    have hlo := hgt.lo
    have hln := HL.out.1
    obtain ⟨b, off, rfl, hfx⟩ := HL.out.2 (by omega)
    have hgp : GoodPl ⟨rx, ry, rz⟩ := placeE_good (HCP.out.symm.trans q2)
    have hi1 : I1 = Bell.encLow T l ⟨rx, ry, rz⟩ (l.length - 1) := by rw [HI1.out]; unfold encA; rw [if_pos HZ.out]
    have hi2 : I2 = Bell.encHigh T l ⟨rx, ry, rz⟩ (l.length - 1) := by rw [HI2.out]; unfold encA; rw [if_pos HZ.out]
    have KE := Lib.hid (refEnclosed_any b off n c l ⟨rx, ry, rz⟩ w16 hta hG hfx hgt hgp)
    unfold plV at KE
    simp only [] at KE
    rw [← hi1, ← hi2] at KE
    clear hi1 hi2 hta hG hfx hgt hgp hlo hln q0 q2 c0 k0
    go_wp2_with (refine wpList_load_row rfl 26 _ rfl g3 rfl 26 cs (0, 0) _ TT.out Tryz.underlying26 rfl IT.out ?_)
    refine KE.out.mono ?_
    rintro e w17 ⟨rfl, hb⟩
    replace HB := Lib.hid (HB.out.trans (hb.mono HB.out.size))
    replace TT := Lib.hid (TT.out.below hb)
    replace X := Lib.hid (X.out.below hb)
    replace U := Lib.hid (U.out.keep hb)
    replace F := Lib.hid (F.out.keep hb)
    replace TB := Lib.hid (TB.out.keep hb)
    replace BI := Lib.hid (BI.out.below hb)
    replace BZ := Lib.hid (BZ.out.below hb)
    clear hb
    clear KE ac0 ac1 ac2 ac3 ac4 af0 af1 af2 af3 af4
    go_upto_region 16 with (refine wpList_store_row rfl 100 _ _ rfl g21 #[.int .i64 I1, .int .i64 I2] rfl rfl 100 _ BZ.out (by kernel_rfl) rfl (by simp [Value.oneCell']) ?_)
    obtain ⟨w18, hw18⟩ : ∃ W, W = w17.setRow g21 #[.int .i64 I1, .int .i64 I2] := ⟨_, rfl⟩
    rw [← hw18]
    have hg := HG21.out
    have B2 : Hid (Blk w18 g21 100 #[.int .i64 I1, .int .i64 I2]) := by show Blk _ _ _ _; rw [hw18]; exact BZ.out.setRow _
    have B1 : Hid (Blk w18 g12 100 #[.int .i64 I1, .int .i64 I2]) := by show Blk _ _ _ _; rw [hw18]; exact BI.out.setRow_far (by omega) _
    have HB2 : Hid (Below w.heap.size w w18) := by show Below _ _ _; rw [hw18]; exact HB.out.setRow' hg.1 _
    obtain ⟨hu, hf, ht⟩ := HUW.out w18 HB2.out
    replace U := Lib.hid hu
    replace F := Lib.hid hf
    replace TB := Lib.hid ht
    replace BI := B1
    replace BZ := B2
    replace HB := HB2
    clear hw18 hu hf ht B1 B2 HB2 TT X hg
    have i0 := BI.out.cell 0; have i1 := BI.out.cell 1; have j0 := BZ.out.cell 0; have j1 := BZ.out.cell 1
    simp only [List.getElem?_toArray, List.getElem?_cons_zero, List.getElem?_cons_succ] at i0 i1 j0 j1
    have es := fun W => eq_ivl I1 I2 W
    go_wp2_with fail
    refine (awake2_any w18 U.out F.out TB.out).mono ?_
    rintro e wZ ⟨rfl, hb⟩
    replace HB := Lib.hid (HB.out.trans (hb.mono HB.out.size))
    clear hb
    go_wp2
    go_ret
    exact ⟨rfl, HB.out⟩
  · have hz1 : (E3 == 0) = false := by simp [hz]
    have hi1 : I1 = 0 := by rw [HI1.out]; unfold encA; rw [if_neg hz]
    have hi2 : I2 = 0 := by rw [HI2.out]; unfold encA; rw [if_neg hz]
    subst hi1
    subst hi2
    clear hz HI1 HI2
    go_upto_region 16 with fail
    have i0 := BI.out.cell 0; have i1 := BI.out.cell 1; have j0 := BZ.out.cell 0; have j1 := BZ.out.cell 1
    simp only [List.getElem?_toArray, List.getElem?_cons_zero, List.getElem?_cons_succ] at i0 i1 j0 j1
    have es := fun W => eq_ivl 0 0 W
    go_wp2_with fail
    refine (awake2_any w16 U.out F.out TB.out).mono ?_
    rintro e wZ ⟨rfl, hb⟩
    replace HB := Lib.hid (HB.out.trans (hb.mono HB.out.size))
    clear hb
    go_wp2
    go_ret
    exact ⟨rfl, HB.out⟩
end Go.Proofs.YtmafmebcgmegeaaGreatDoor
