/- Texts Wh of the proof. -/
import Derived.Test.YtmafmebcgmegeaaGreatDoorWy41
import Derived.Test.YtmafmebcgmegeaaGreatDoorWy31
namespace Go.Proofs.YtmafmebcgmegeaaGreatDoor
open Go.RowKit Go.Sort
set_option maxHeartbeats 4000000 in
set_option maxRecDepth 100000 in
theorem types_walk {nm : ByteArray} {sh : List Int} {T : Bell.Ty} {sa : Option Addr} {sn sc : Nat} {qa : Option Addr} {qn qc : Nat} {ga : Option Addr} {gn gc : Nat} {cs : Array Value} (pw sq ax ay az hx hy sp rx ry rz dx dy en : Int) (w : World) (hT : RTy w cs nm sh T sa sn sc qa qn qc ga gn gc) (hd8 : T.direct.length = 8) (hm : gn ≤ 140737488351232) (hu : Turned w) (hf : FirstWords w) (ht : Tab w) :
    Calls Tryz.prog 3 #[.agg cs, .agg #[.int .i64 pw, .int .i64 sq, .int .i64 ax, .int .i64 ay, .int .i64 az, .int .i64 hx, .int .i64 hy, .int .i64 sp, .int .i64 rx, .int .i64 ry, .int .i64 rz, .int .i64 dx, .int .i64 dy, .int .i64 en]] w fun e w' => e = .returned (.bool true) ∧ Below w.heap.size w w' := by
  have U := Lib.hid hu
  have F := Lib.hid hf
  have TB := Lib.hid ht
  have HT := Lib.hid hT
  have HD8 := Lib.hid hd8
  have IT : Hid ((Tryz.prog.info? 26).map (·.size) = some cs.size) := by show _ = _; rw [hT.cells]; kernel_rfl
  clear hu hf ht hT hd8
  obtain ⟨BAD, hBAD⟩ : ∃ x, x = Bell.tyE (nameE nm) sh T := ⟨_, rfl⟩
  have HBAD := Lib.hid hBAD
  obtain ⟨C1, hC1⟩ : ∃ x, x = withinE pw 1 100 := ⟨_, rfl⟩
  obtain ⟨C2, hC2⟩ : ∃ x, x = withinE sq 0 100000000000 := ⟨_, rfl⟩
  obtain ⟨C3, hC3⟩ : ∃ x, x = dirE hx hy := ⟨_, rfl⟩
  obtain ⟨C4, hC4⟩ : ∃ x, x = dirE dx dy := ⟨_, rfl⟩
  obtain ⟨C5, hC5⟩ : ∃ x, x = stE ax ay az hx hy sp := ⟨_, rfl⟩
  obtain ⟨C6, hC6⟩ : ∃ x, x = placeE rx ry rz := ⟨_, rfl⟩
  obtain ⟨C7, hC7⟩ : ∃ x, x = checkEnergyE en := ⟨_, rfl⟩
  obtain ⟨E1, hE1⟩ : ∃ x, x = firstE [BAD, C1, C2] := ⟨_, rfl⟩
  obtain ⟨E2, hE2⟩ : ∃ x, x = firstE [C3, C4] := ⟨_, rfl⟩
  obtain ⟨E3, hE3⟩ : ∃ x, x = firstE [BAD, C5, C6] := ⟨_, rfl⟩
  obtain ⟨E4, hE4⟩ : ∃ x, x = firstE [BAD, C7] := ⟨_, rfl⟩
  obtain ⟨V1, hV1⟩ : ∃ x, x = if E1 = 0 then Bell.emis T.sets (Bell.reachOf T.squares sq) pw else 0 := ⟨_, rfl⟩
  obtain ⟨V2, hV2⟩ : ∃ x : Int, x = if E2 = 0 then ((Bell.sectorOf hx hy dx dy : Nat) : Int) else 0 := ⟨_, rfl⟩
  obtain ⟨V3, hV3⟩ : ∃ x, x = if E3 = 0 then Bell.heardOf T ⟨ax, ay, az, hx, hy, sp⟩ ⟨rx, ry, rz⟩ else 0 := ⟨_, rfl⟩
  obtain ⟨L4, hL4⟩ : ∃ x, x = bandsE sh en sn E4 := ⟨_, rfl⟩
  have HC1 := Lib.hid hC1; have HC2 := Lib.hid hC2; have HC3 := Lib.hid hC3; have HC4 := Lib.hid hC4; have HC5 := Lib.hid hC5; have HC6 := Lib.hid hC6; have HC7 := Lib.hid hC7
  have HE1 := Lib.hid hE1; have HE2 := Lib.hid hE2; have HE3 := Lib.hid hE3; have HE4 := Lib.hid hE4
  have HV1 := Lib.hid hV1; have HV2 := Lib.hid hV2; have HV3 := Lib.hid hV3; have HL4 := Lib.hid hL4
  clear hBAD hC1 hC2 hC3 hC4 hC5 hC6 hC7 hE1 hE2 hE3 hE4 hV1 hV2 hV3 hL4
  have K1 : Hid (∀ {W : World} {cs' : Array Value} {A1 : Option Addr} {c1 : Nat} {A2 : Option Addr} {c2 : Nat} {A3 : Option Addr} {c3 : Nat}, TyAny W cs' nm sh T A1 sn c1 A2 qn c2 A3 gn c3 → Calls Tryz.prog 15 #[.agg cs', .int .i64 pw, .int .i64 sq] W fun e w' => e = .returned (.tuple #[.int .i64 V1, .int .i64 E1]) ∧ Below W.heap.size W w') := fun {W cs' A1 c1 A2 c2 A3 c3} h => by
    have := Emission_any pw sq W h
    rwa [← HBAD.out, ← HC1.out, ← HC2.out, ← HE1.out, ← HV1.out] at this
  have K2 : Hid (∀ W, Calls Tryz.prog 17 #[.agg #[.int .i64 hx, .int .i64 hy], .agg #[.int .i64 dx, .int .i64 dy]] W fun e w' => e = .returned (.tuple #[.int .i64 V2, .int .i64 E2]) ∧ Below W.heap.size W w') := fun W => by
    have := Sector_any hx hy dx dy W
    rwa [← HC3.out, ← HC4.out, ← HE2.out, ← HV2.out] at this
  have K3 : Hid (∀ {W : World} {cs' : Array Value} {A1 : Option Addr} {c1 : Nat} {A2 : Option Addr} {c2 : Nat} {A3 : Option Addr} {c3 : Nat}, TyAny W cs' nm sh T A1 sn c1 A2 qn c2 A3 gn c3 → Calls Tryz.prog 18 #[.agg cs', .agg #[.int .i64 ax, .int .i64 ay, .int .i64 az, .int .i64 hx, .int .i64 hy, .int .i64 sp], .agg #[.int .i64 rx, .int .i64 ry, .int .i64 rz]] W fun e w' => e = .returned (.tuple #[.int .i64 V3, .int .i64 E3]) ∧ Below W.heap.size W w') := fun {W cs' A1 c1 A2 c2 A3 c3} h => by
    have := Heard_any ⟨ax, ay, az, hx, hy, sp⟩ ⟨rx, ry, rz⟩ W h
    have e5 : firstE [placeE ax ay az, dirE hx hy, withinE sp 1 100] = C5 := HC5.out.symm
    simp only [] at this
    rwa [← HBAD.out, e5, ← HC6.out, ← HE3.out, ← HV3.out] at this
  have K4 : Hid (∀ {W : World} {cs' : Array Value} {A1 : Option Addr} {c1 : Nat} {A2 : Option Addr} {c2 : Nat} {A3 : Option Addr} {c3 : Nat}, TyAny W cs' nm sh T A1 sn c1 A2 qn c2 A3 gn c3 → Calls Tryz.prog 19 #[.agg cs', .int .i64 en] W fun x w' => ∃ A n c, x = .returned (.tuple #[.slice A n c, .int .i64 E4]) ∧ n ≤ 9 ∧ IntsAt w' A n L4 ∧ Below W.heap.size W w') := fun {W cs' A1 c1 A2 c2 A3 c3} h => by
    have := Banded_any en W h
    rwa [← HBAD.out, ← HC7.out, ← HE4.out, ← HL4.out] at this
  go_enter Tryz.func3, Tryz.ntmps3
  go_upto_region 1 with fail
  obtain ⟨w1, hw1⟩ : ∃ W, W = ((w.alloc (.cells cs 26)).alloc (.cells #[.int .i64 pw, .int .i64 sq, .int .i64 ax, .int .i64 ay, .int .i64 az, .int .i64 hx, .int .i64 hy, .int .i64 sp, .int .i64 rx, .int .i64 ry, .int .i64 rz, .int .i64 dx, .int .i64 dy, .int .i64 en] 34)) := ⟨_, rfl⟩
  rw [← hw1]
  have TT : Hid (Blk w1 (w.heap.size) 26 cs) := by show Blk _ _ _ _; rw [hw1]; exact (Blk.new _ _ _).alloc _
  have X : Hid (Blk w1 (w.heap.size + 1) 34 #[.int .i64 pw, .int .i64 sq, .int .i64 ax, .int .i64 ay, .int .i64 az, .int .i64 hx, .int .i64 hy, .int .i64 sp, .int .i64 rx, .int .i64 ry, .int .i64 rz, .int .i64 dx, .int .i64 dy, .int .i64 en]) := by show Blk _ _ _ _; rw [hw1]; exact Blk.at_size _ _ (by simp)
  have hb : Below w.heap.size w w1 := by rw [hw1]; exact (((Below.refl _ _).alloc (Nat.le_refl _) _).alloc (by simp) _)
  obtain ⟨g2, hg2⟩ : ∃ g, g = w.heap.size := ⟨_, rfl⟩
  obtain ⟨g3, hg3⟩ : ∃ g, g = w.heap.size + 1 := ⟨_, rfl⟩
  have HGw1 : Hid (g2 = w.heap.size ∧ g3 = w.heap.size + 1) := ⟨hg2, hg3⟩
  rw [← hg3] at X
  try rw [← hg3]
  rw [← hg2] at TT
  try rw [← hg2]
  clear hw1 hg2 hg3
  have HB := Lib.hid hb
  replace U := Lib.hid (U.out.keep hb)
  replace F := Lib.hid (F.out.keep hb)
  replace TB := Lib.hid (TB.out.keep hb)
  replace HT := Lib.hid (HT.out.keep hb)
  clear hb HGw1
  go_wp2_with (refine wpList_load_row rfl 26 _ rfl g2 rfl 26 cs (0, 0) _ TT.out Tryz.underlying26 rfl IT.out ?_)
  refine (refShortTy_any w1 HT.out hm).mono ?_
  rintro e w2 ⟨⟨b, rfl, hsh⟩, hb⟩
  replace HB := Lib.hid (HB.out.trans (hb.mono HB.out.size))
  replace TT := Lib.hid (TT.out.below hb)
  replace X := Lib.hid (X.out.below hb)
  replace U := Lib.hid (U.out.keep hb)
  replace F := Lib.hid (F.out.keep hb)
  replace TB := Lib.hid (TB.out.keep hb)
  replace HT := Lib.hid (HT.out.keep hb)
  clear hb
  cases b
  case false =>
    go_wp2_with fail
    refine (awake2_any w2 U.out F.out TB.out).mono ?_
    rintro e wZ ⟨rfl, hb⟩
    replace HB := Lib.hid (HB.out.trans (hb.mono HB.out.size))
    clear hb
    go_wp2
    go_ret
    exact ⟨rfl, HB.out⟩
  have hS := Lib.hid (hsh rfl)
  clear hsh
  go_upto_region 3 with fail
  refine wp_region_allN 12 rfl (by kernel_rfl) (by kernel_rfl) [GR.eq (.agg cs), GR.cp nm sh T sn qn gn, GR.eq (.pointer (some ⟨g3, 0, none⟩)), GR.eq (.int .i64 pw), GR.eq (.pointer (some ⟨g3, 1, none⟩)), GR.eq (.int .i64 sq), GR.eq (.tuple #[.int .i64 V1, .int .i64 E1]), GR.eq (.tuple #[.int .i64 V1, .int .i64 E1]), GR.eq (.int .i64 V1), GR.eq (.int .i64 E1), GR.eq (.int .i64 V1), GR.eq (.int .i64 E1)] 176 rfl (by kernel_rfl) ?_ ?_
  · refine ⟨?_, ?_, ?_, ?_, ?_, ?_, ?_, ?_, ?_, ?_, ?_, ?_, trivial⟩
    · intro a W hE hd ho
      have e2 : a.tmps[2]?.getD undef = .pointer (some ⟨g2, 0, none⟩) := ho 2 (by kernel_rfl)
      exact gs_load 26 (.tmp 2) rfl ⟨g2, 0, none⟩ (.agg cs) ((eval_getD _ _).trans e2) ((TT.out.below hE).lv Tryz.prog Tryz.underlying26 rfl IT.out) rfl
    · intro a W hE hd ho
      have e27 : a.tmps[27]?.getD undef = .agg cs := hd 0 27 (by kernel_rfl) (by kernel_rfl)
      refine gs_call (f := 16) (args := #[.agg cs]) (by go_simp) ?_
      refine (given_ok W (HT.out.keep hE) HD8.out hS.out).mono ?_
      rintro e w9 ⟨cs', A1, c1, A2, c2, A3, c3, rfl, k1, k2⟩
      exact ⟨_, rfl, k2, cs', A1, c1, A2, c2, A3, c3, rfl, k1⟩
    · intro a W hE hd ho
      have e3 : a.tmps[3]?.getD undef = .pointer (some ⟨g3, 0, none⟩) := ho 3 (by kernel_rfl)
      exact gs_same (v := .pointer (some ⟨g3, 0, none⟩)) (by go_simp) rfl
    · intro a W hE hd ho
      have e29 : a.tmps[29]?.getD undef = .pointer (some ⟨g3, 0, none⟩) := hd 2 29 (by kernel_rfl) (by kernel_rfl)
      have c0 := (X.out.below hE).cell 0
      simp only [List.getElem?_toArray, List.getElem?_cons_zero, List.getElem?_cons_succ] at c0
      exact gs_same (v := .int .i64 pw) (by go_simp) rfl
    · intro a W hE hd ho
      have e3 : a.tmps[3]?.getD undef = .pointer (some ⟨g3, 0, none⟩) := ho 3 (by kernel_rfl)
      exact gs_same (v := .pointer (some ⟨g3, 1, none⟩)) (by go_simp) rfl
    · intro a W hE hd ho
      have e31 : a.tmps[31]?.getD undef = .pointer (some ⟨g3, 1, none⟩) := hd 4 31 (by kernel_rfl) (by kernel_rfl)
      have c1 := (X.out.below hE).cell 1
      simp only [List.getElem?_toArray, List.getElem?_cons_zero, List.getElem?_cons_succ] at c1
      exact gs_same (v := .int .i64 sq) (by go_simp) rfl
    · intro a W hE hd ho
      have e30 : a.tmps[30]?.getD undef = .int .i64 pw := hd 3 30 (by kernel_rfl) (by kernel_rfl)
      have e32 : a.tmps[32]?.getD undef = .int .i64 sq := hd 5 32 (by kernel_rfl) (by kernel_rfl)
      obtain ⟨cs', A1, c1, A2, c2, A3, c3, e28, hC⟩ : ∃ cs A1 c1 A2 c2 A3 c3, a.tmps[28]?.getD undef = .agg cs ∧ TyAny W cs nm sh T A1 sn c1 A2 qn c2 A3 gn c3 := hd 1 28 (by kernel_rfl) (by kernel_rfl)
      refine gs_call (f := 15) (args := #[.agg cs', .int .i64 pw, .int .i64 sq]) (by go_simp) ?_
      refine (K1.out hC).mono ?_
      rintro e w9 ⟨rfl, hbl⟩
      exact ⟨_, rfl, hbl, rfl⟩
    · intro a W hE hd ho
      have e33 : a.tmps[33]?.getD undef = .tuple #[.int .i64 V1, .int .i64 E1] := hd 6 33 (by kernel_rfl) (by kernel_rfl)
      exact gs_same (v := .tuple #[.int .i64 V1, .int .i64 E1]) (by go_simp) rfl
    · intro a W hE hd ho
      have e26 : a.tmps[26]?.getD undef = .tuple #[.int .i64 V1, .int .i64 E1] := hd 7 26 (by kernel_rfl) (by kernel_rfl)
      exact gs_same (v := .int .i64 V1) (by go_simp) rfl
    · intro a W hE hd ho
      have e26 : a.tmps[26]?.getD undef = .tuple #[.int .i64 V1, .int .i64 E1] := hd 7 26 (by kernel_rfl) (by kernel_rfl)
      exact gs_same (v := .int .i64 E1) (by go_simp) rfl
    · intro a W hE hd ho
      have e34 : a.tmps[34]?.getD undef = .int .i64 V1 := hd 8 34 (by kernel_rfl) (by kernel_rfl)
      exact gs_same (v := .int .i64 V1) (by go_simp) rfl
    · intro a W hE hd ho
      have e35 : a.tmps[35]?.getD undef = .int .i64 E1 := hd 9 35 (by kernel_rfl) (by kernel_rfl)
      exact gs_same (v := .int .i64 E1) (by go_simp) rfl
  intro v3 w3 hE hR
  have y0 : v3 0 = .agg cs := hR 0 (by omega)
  obtain ⟨x3, y1⟩ : ∃ v, v3 1 = v := ⟨_, rfl⟩
  have y2 : v3 2 = .pointer (some ⟨g3, 0, none⟩) := hR 2 (by omega)
  have y3 : v3 3 = .int .i64 pw := hR 3 (by omega)
  have y4 : v3 4 = .pointer (some ⟨g3, 1, none⟩) := hR 4 (by omega)
  have y5 : v3 5 = .int .i64 sq := hR 5 (by omega)
  have y6 : v3 6 = .tuple #[.int .i64 V1, .int .i64 E1] := hR 6 (by omega)
  have y7 : v3 7 = .tuple #[.int .i64 V1, .int .i64 E1] := hR 7 (by omega)
  have y8 : v3 8 = .int .i64 V1 := hR 8 (by omega)
  have y9 : v3 9 = .int .i64 E1 := hR 9 (by omega)
  have y10 : v3 10 = .int .i64 V1 := hR 10 (by omega)
  have y11 : v3 11 = .int .i64 E1 := hR 11 (by omega)
  simp only [List.range, List.range.loop, List.foldl_cons, List.foldl_nil, y0, y1, y2, y3, y4, y5, y6, y7, y8, y9, y10, y11, List.drop_succ_cons, List.drop_zero]
  simp only [dstAt, List.getElem?_toArray, List.getElem?_cons_zero, List.getElem?_cons_succ, Option.bind_some, Act.put, List.setIfInBounds_toArray, List.set_cons_zero, List.set_cons_succ]
  clear y0 y1 y2 y3 y4 y5 y6 y7 y8 y9 y10 y11 hR
  have hb := hE.below
  replace HB := Lib.hid (HB.out.trans (hb.mono HB.out.size))
  replace TT := Lib.hid (TT.out.below hb)
  replace X := Lib.hid (X.out.below hb)
  replace U := Lib.hid (U.out.keep hb)
  replace F := Lib.hid (F.out.keep hb)
  replace TB := Lib.hid (TB.out.keep hb)
  replace HT := Lib.hid (HT.out.keep hb)
  clear hb
  clear hE
  have XX := X.out
  have xc0 := XX.cell 0; have xf0 := XX.frozen 0; have xc1 := XX.cell 1; have xf1 := XX.frozen 1; have xc2 := XX.cell 2; have xf2 := XX.frozen 2; have xc3 := XX.cell 3; have xf3 := XX.frozen 3; have xc4 := XX.cell 4; have xf4 := XX.frozen 4; have xc5 := XX.cell 5; have xf5 := XX.frozen 5; have xc6 := XX.cell 6; have xf6 := XX.frozen 6; have xc7 := XX.cell 7; have xf7 := XX.frozen 7; have xc8 := XX.cell 8; have xf8 := XX.frozen 8; have xc9 := XX.cell 9; have xf9 := XX.frozen 9; have xc10 := XX.cell 10; have xf10 := XX.frozen 10; have xc11 := XX.cell 11; have xf11 := XX.frozen 11; have xc12 := XX.cell 12; have xf12 := XX.frozen 12; have xc13 := XX.cell 13; have xf13 := XX.frozen 13
  simp only [List.getElem?_toArray, List.getElem?_cons_zero, List.getElem?_cons_succ] at xc0 xc1 xc2 xc3 xc4 xc5 xc6 xc7 xc8 xc9 xc10 xc11 xc12 xc13
  clear XX
  go_upto_region 4 with fail
  go_wp2_with fail
  refine (K2.out _).mono ?_
  rintro e w4 ⟨rfl, hb⟩
  replace HB := Lib.hid (HB.out.trans (hb.mono HB.out.size))
  replace TT := Lib.hid (TT.out.below hb)
  replace X := Lib.hid (X.out.below hb)
  replace U := Lib.hid (U.out.keep hb)
  replace F := Lib.hid (F.out.keep hb)
  replace TB := Lib.hid (TB.out.keep hb)
  replace HT := Lib.hid (HT.out.keep hb)
  clear hb
  go_upto_region 5 with fail
  refine wp_region_allN 12 rfl (by kernel_rfl) (by kernel_rfl) [GR.eq (.agg cs), GR.cp nm sh T sn qn gn, GR.eq (.pointer (some ⟨g3, 2, none⟩)), GR.eq (.agg #[.int .i64 ax, .int .i64 ay, .int .i64 az, .int .i64 hx, .int .i64 hy, .int .i64 sp]), GR.eq (.pointer (some ⟨g3, 8, none⟩)), GR.eq (.agg #[.int .i64 rx, .int .i64 ry, .int .i64 rz]), GR.eq (.tuple #[.int .i64 V3, .int .i64 E3]), GR.eq (.tuple #[.int .i64 V3, .int .i64 E3]), GR.eq (.int .i64 V3), GR.eq (.int .i64 E3), GR.eq (.int .i64 V3), GR.eq (.int .i64 E3)] 176 rfl (by kernel_rfl) ?_ ?_
  · refine ⟨?_, ?_, ?_, ?_, ?_, ?_, ?_, ?_, ?_, ?_, ?_, ?_, trivial⟩
    · intro a W hE hd ho
      have e2 : a.tmps[2]?.getD undef = .pointer (some ⟨g2, 0, none⟩) := ho 2 (by kernel_rfl)
      exact gs_load 26 (.tmp 2) rfl ⟨g2, 0, none⟩ (.agg cs) ((eval_getD _ _).trans e2) ((TT.out.below hE).lv Tryz.prog Tryz.underlying26 rfl IT.out) rfl
    · intro a W hE hd ho
      have e46 : a.tmps[46]?.getD undef = .agg cs := hd 0 46 (by kernel_rfl) (by kernel_rfl)
      refine gs_call (f := 16) (args := #[.agg cs]) (by go_simp) ?_
      refine (given_ok W (HT.out.keep hE) HD8.out hS.out).mono ?_
      rintro e w9 ⟨cs', A1, c1, A2, c2, A3, c3, rfl, k1, k2⟩
      exact ⟨_, rfl, k2, cs', A1, c1, A2, c2, A3, c3, rfl, k1⟩
    · intro a W hE hd ho
      have e3 : a.tmps[3]?.getD undef = .pointer (some ⟨g3, 0, none⟩) := ho 3 (by kernel_rfl)
      exact gs_same (v := .pointer (some ⟨g3, 2, none⟩)) (by go_simp) rfl
    · intro a W hE hd ho
      have e48 : a.tmps[48]?.getD undef = .pointer (some ⟨g3, 2, none⟩) := hd 2 48 (by kernel_rfl) (by kernel_rfl)
      have C := X.out.below hE
      have c2 := C.cell 2
      have c3 := C.cell 3
      have c4 := C.cell 4
      have c5 := C.cell 5
      have c6 := C.cell 6
      have c7 := C.cell 7
      simp only [List.getElem?_toArray, List.getElem?_cons_zero, List.getElem?_cons_succ] at c2 c3 c4 c5 c6 c7
      exact gs_same (v := .agg #[.int .i64 ax, .int .i64 ay, .int .i64 az, .int .i64 hx, .int .i64 hy, .int .i64 sp]) (by go_simp) rfl
    · intro a W hE hd ho
      have e3 : a.tmps[3]?.getD undef = .pointer (some ⟨g3, 0, none⟩) := ho 3 (by kernel_rfl)
      exact gs_same (v := .pointer (some ⟨g3, 8, none⟩)) (by go_simp) rfl
    · intro a W hE hd ho
      have e50 : a.tmps[50]?.getD undef = .pointer (some ⟨g3, 8, none⟩) := hd 4 50 (by kernel_rfl) (by kernel_rfl)
      have C := X.out.below hE
      have c8 := C.cell 8
      have c9 := C.cell 9
      have c10 := C.cell 10
      simp only [List.getElem?_toArray, List.getElem?_cons_zero, List.getElem?_cons_succ] at c8 c9 c10
      exact gs_same (v := .agg #[.int .i64 rx, .int .i64 ry, .int .i64 rz]) (by go_simp) rfl
    · intro a W hE hd ho
      have e49 : a.tmps[49]?.getD undef = .agg #[.int .i64 ax, .int .i64 ay, .int .i64 az, .int .i64 hx, .int .i64 hy, .int .i64 sp] := hd 3 49 (by kernel_rfl) (by kernel_rfl)
      have e51 : a.tmps[51]?.getD undef = .agg #[.int .i64 rx, .int .i64 ry, .int .i64 rz] := hd 5 51 (by kernel_rfl) (by kernel_rfl)
      obtain ⟨cs', A1, c1, A2, c2, A3, c3, e47, hC⟩ : ∃ cs A1 c1 A2 c2 A3 c3, a.tmps[47]?.getD undef = .agg cs ∧ TyAny W cs nm sh T A1 sn c1 A2 qn c2 A3 gn c3 := hd 1 47 (by kernel_rfl) (by kernel_rfl)
      refine gs_call (f := 18) (args := #[.agg cs', .agg #[.int .i64 ax, .int .i64 ay, .int .i64 az, .int .i64 hx, .int .i64 hy, .int .i64 sp], .agg #[.int .i64 rx, .int .i64 ry, .int .i64 rz]]) (by go_simp) ?_
      refine (K3.out hC).mono ?_
      rintro e w9 ⟨rfl, hbl⟩
      exact ⟨_, rfl, hbl, rfl⟩
    · intro a W hE hd ho
      have e52 : a.tmps[52]?.getD undef = .tuple #[.int .i64 V3, .int .i64 E3] := hd 6 52 (by kernel_rfl) (by kernel_rfl)
      exact gs_same (v := .tuple #[.int .i64 V3, .int .i64 E3]) (by go_simp) rfl
    · intro a W hE hd ho
      have e45 : a.tmps[45]?.getD undef = .tuple #[.int .i64 V3, .int .i64 E3] := hd 7 45 (by kernel_rfl) (by kernel_rfl)
      exact gs_same (v := .int .i64 V3) (by go_simp) rfl
    · intro a W hE hd ho
      have e45 : a.tmps[45]?.getD undef = .tuple #[.int .i64 V3, .int .i64 E3] := hd 7 45 (by kernel_rfl) (by kernel_rfl)
      exact gs_same (v := .int .i64 E3) (by go_simp) rfl
    · intro a W hE hd ho
      have e53 : a.tmps[53]?.getD undef = .int .i64 V3 := hd 8 53 (by kernel_rfl) (by kernel_rfl)
      exact gs_same (v := .int .i64 V3) (by go_simp) rfl
    · intro a W hE hd ho
      have e54 : a.tmps[54]?.getD undef = .int .i64 E3 := hd 9 54 (by kernel_rfl) (by kernel_rfl)
      exact gs_same (v := .int .i64 E3) (by go_simp) rfl
  intro v5 w5 hE hR
  have y0 : v5 0 = .agg cs := hR 0 (by omega)
  obtain ⟨x5, y1⟩ : ∃ v, v5 1 = v := ⟨_, rfl⟩
  have y2 : v5 2 = .pointer (some ⟨g3, 2, none⟩) := hR 2 (by omega)
  have y3 : v5 3 = .agg #[.int .i64 ax, .int .i64 ay, .int .i64 az, .int .i64 hx, .int .i64 hy, .int .i64 sp] := hR 3 (by omega)
  have y4 : v5 4 = .pointer (some ⟨g3, 8, none⟩) := hR 4 (by omega)
  have y5 : v5 5 = .agg #[.int .i64 rx, .int .i64 ry, .int .i64 rz] := hR 5 (by omega)
  have y6 : v5 6 = .tuple #[.int .i64 V3, .int .i64 E3] := hR 6 (by omega)
  have y7 : v5 7 = .tuple #[.int .i64 V3, .int .i64 E3] := hR 7 (by omega)
  have y8 : v5 8 = .int .i64 V3 := hR 8 (by omega)
  have y9 : v5 9 = .int .i64 E3 := hR 9 (by omega)
  have y10 : v5 10 = .int .i64 V3 := hR 10 (by omega)
  have y11 : v5 11 = .int .i64 E3 := hR 11 (by omega)
  simp only [List.range, List.range.loop, List.foldl_cons, List.foldl_nil, y0, y1, y2, y3, y4, y5, y6, y7, y8, y9, y10, y11, List.drop_succ_cons, List.drop_zero]
  simp only [dstAt, List.getElem?_toArray, List.getElem?_cons_zero, List.getElem?_cons_succ, Option.bind_some, Act.put, List.setIfInBounds_toArray, List.set_cons_zero, List.set_cons_succ]
  clear y0 y1 y2 y3 y4 y5 y6 y7 y8 y9 y10 y11 hR
  have hb := hE.below
  replace HB := Lib.hid (HB.out.trans (hb.mono HB.out.size))
  replace TT := Lib.hid (TT.out.below hb)
  replace X := Lib.hid (X.out.below hb)
  replace U := Lib.hid (U.out.keep hb)
  replace F := Lib.hid (F.out.keep hb)
  replace TB := Lib.hid (TB.out.keep hb)
  replace HT := Lib.hid (HT.out.keep hb)
  clear hb
  clear hE
  go_upto_region 6 with fail
  refine wp_region_allN 10 rfl (by kernel_rfl) (by kernel_rfl) [GR.eq (.agg cs), GR.cp nm sh T sn qn gn, GR.eq (.pointer (some ⟨g3, 13, none⟩)), GR.eq (.int .i64 en), GR.bnd L4 E4, GR.bnd L4 E4, GR.bndS L4, GR.eq (.int .i64 E4), GR.bndS L4, GR.eq (.int .i64 E4)] 176 rfl (by kernel_rfl) ?_ ?_
  · refine ⟨?_, ?_, ?_, ?_, ?_, ?_, ?_, ?_, ?_, ?_, trivial⟩
    · intro a W hE hd ho
      have e2 : a.tmps[2]?.getD undef = .pointer (some ⟨g2, 0, none⟩) := ho 2 (by kernel_rfl)
      exact gs_load 26 (.tmp 2) rfl ⟨g2, 0, none⟩ (.agg cs) ((eval_getD _ _).trans e2) ((TT.out.below hE).lv Tryz.prog Tryz.underlying26 rfl IT.out) rfl
    · intro a W hE hd ho
      have e56 : a.tmps[56]?.getD undef = .agg cs := hd 0 56 (by kernel_rfl) (by kernel_rfl)
      refine gs_call (f := 16) (args := #[.agg cs]) (by go_simp) ?_
      refine (given_ok W (HT.out.keep hE) HD8.out hS.out).mono ?_
      rintro e w9 ⟨cs', A1, c1, A2, c2, A3, c3, rfl, k1, k2⟩
      exact ⟨_, rfl, k2, cs', A1, c1, A2, c2, A3, c3, rfl, k1⟩
    · intro a W hE hd ho
      have e3 : a.tmps[3]?.getD undef = .pointer (some ⟨g3, 0, none⟩) := ho 3 (by kernel_rfl)
      exact gs_same (v := .pointer (some ⟨g3, 13, none⟩)) (by go_simp) rfl
    · intro a W hE hd ho
      have e58 : a.tmps[58]?.getD undef = .pointer (some ⟨g3, 13, none⟩) := hd 2 58 (by kernel_rfl) (by kernel_rfl)
      have c13 := (X.out.below hE).cell 13
      simp only [List.getElem?_toArray, List.getElem?_cons_zero, List.getElem?_cons_succ] at c13
      exact gs_same (v := .int .i64 en) (by go_simp) rfl
    · intro a W hE hd ho
      have e59 : a.tmps[59]?.getD undef = .int .i64 en := hd 3 59 (by kernel_rfl) (by kernel_rfl)
      obtain ⟨cs', A1, c1, A2, c2, A3, c3, e57, hC⟩ : ∃ cs A1 c1 A2 c2 A3 c3, a.tmps[57]?.getD undef = .agg cs ∧ TyAny W cs nm sh T A1 sn c1 A2 qn c2 A3 gn c3 := hd 1 57 (by kernel_rfl) (by kernel_rfl)
      refine gs_call (f := 19) (args := #[.agg cs', .int .i64 en]) (by go_simp) ?_
      refine (K4.out hC).mono ?_
      rintro e w9 ⟨A, n, c, rfl, h9, hI, hbl⟩
      exact ⟨_, rfl, hbl, A, n, c, rfl, h9, hI⟩
    · intro a W hE hd ho
      obtain ⟨A, n, c, e60, h9, hI⟩ : ∃ A n c, a.tmps[60]?.getD undef = .tuple #[.slice A n c, .int .i64 E4] ∧ n ≤ 9 ∧ IntsAt W A n L4 := hd 4 60 (by kernel_rfl) (by kernel_rfl)
      exact gs_same (v := .tuple #[.slice A n c, .int .i64 E4]) (by go_simp) ⟨A, n, c, rfl, h9, hI⟩
    · intro a W hE hd ho
      obtain ⟨A, n, c, e55, h9, hI⟩ : ∃ A n c, a.tmps[55]?.getD undef = .tuple #[.slice A n c, .int .i64 E4] ∧ n ≤ 9 ∧ IntsAt W A n L4 := hd 5 55 (by kernel_rfl) (by kernel_rfl)
      exact gs_same (v := .slice A n c) (by go_simp) ⟨A, n, c, rfl, h9, hI⟩
    · intro a W hE hd ho
      obtain ⟨A, n, c, e55, h9, hI⟩ : ∃ A n c, a.tmps[55]?.getD undef = .tuple #[.slice A n c, .int .i64 E4] ∧ n ≤ 9 ∧ IntsAt W A n L4 := hd 5 55 (by kernel_rfl) (by kernel_rfl)
      exact gs_same (v := .int .i64 E4) (by go_simp) rfl
    · intro a W hE hd ho
      obtain ⟨A, n, c, e61, h9, hI⟩ : ∃ A n c, a.tmps[61]?.getD undef = .slice A n c ∧ n ≤ 9 ∧ IntsAt W A n L4 := hd 6 61 (by kernel_rfl) (by kernel_rfl)
      exact gs_same (v := .slice A n c) (by go_simp) ⟨A, n, c, rfl, h9, hI⟩
    · intro a W hE hd ho
      have e62 : a.tmps[62]?.getD undef = .int .i64 E4 := hd 7 62 (by kernel_rfl) (by kernel_rfl)
      exact gs_same (v := .int .i64 E4) (by go_simp) rfl
  intro v6 w6 hE hR
  have y0 : v6 0 = .agg cs := hR 0 (by omega)
  obtain ⟨x6, y1⟩ : ∃ v, v6 1 = v := ⟨_, rfl⟩
  have y2 : v6 2 = .pointer (some ⟨g3, 13, none⟩) := hR 2 (by omega)
  have y3 : v6 3 = .int .i64 en := hR 3 (by omega)
  obtain ⟨z4, y4⟩ : ∃ v, v6 4 = v := ⟨_, rfl⟩
  obtain ⟨z5, y5⟩ : ∃ v, v6 5 = v := ⟨_, rfl⟩
  obtain ⟨z6, y6⟩ : ∃ v, v6 6 = v := ⟨_, rfl⟩
  have y7 : v6 7 = .int .i64 E4 := hR 7 (by omega)
  obtain ⟨A4, n4, c4, y8, hn4, hI4⟩ : ∃ A n c, v6 8 = .slice A n c ∧ n ≤ 9 ∧ IntsAt w6 A n L4 := hR 8 (by omega)
  have y9 : v6 9 = .int .i64 E4 := hR 9 (by omega)
  simp only [List.range, List.range.loop, List.foldl_cons, List.foldl_nil, y0, y1, y2, y3, y4, y5, y6, y7, y8, y9, List.drop_succ_cons, List.drop_zero]
  simp only [dstAt, List.getElem?_toArray, List.getElem?_cons_zero, List.getElem?_cons_succ, Option.bind_some, Act.put, List.setIfInBounds_toArray, List.set_cons_zero, List.set_cons_succ]
  clear y0 y1 y2 y3 y4 y5 y6 y7 y8 y9 hR
  have hb := hE.below
  replace HB := Lib.hid (HB.out.trans (hb.mono HB.out.size))
  replace TT := Lib.hid (TT.out.below hb)
  replace X := Lib.hid (X.out.below hb)
  replace U := Lib.hid (U.out.keep hb)
  replace F := Lib.hid (F.out.keep hb)
  replace TB := Lib.hid (TB.out.keep hb)
  replace HT := Lib.hid (HT.out.keep hb)
  clear hb
  clear hE
  have I4 := Lib.hid hI4
  have N4 := Lib.hid hn4
  clear hI4 hn4
  go_upto_region 7 with fail
  go_wp2_with (refine wpList_load_row rfl 26 _ rfl g2 rfl 26 cs (0, 0) _ TT.out Tryz.underlying26 rfl IT.out ?_)
  refine (refType_full _ HT.out HD8.out hS.out).mono ?_
  rw [← HBAD.out]
  rintro e w7 ⟨rfl, hb⟩
  replace HB := Lib.hid (HB.out.trans (hb.mono HB.out.size))
  replace TT := Lib.hid (TT.out.below hb)
  replace X := Lib.hid (X.out.below hb)
  replace U := Lib.hid (U.out.keep hb)
  replace F := Lib.hid (F.out.keep hb)
  replace TB := Lib.hid (TB.out.keep hb)
  replace HT := Lib.hid (HT.out.keep hb)
  replace I4 := Lib.hid (I4.out.keep hb)
  clear hb
  go_upto_region 8 with fail
  refine wp_region_allN 20 rfl (by kernel_rfl) (by kernel_rfl) [GR.eq (.int .i64 BAD), GR.eq (.pointer (some ⟨g3, 0, none⟩)), GR.eq (.int .i64 pw), GR.eq (.int .i64 C1), GR.eq (.pointer (some ⟨g3, 1, none⟩)), GR.eq (.int .i64 sq), GR.eq (.int .i64 C2), GR.row 3 3 #[.int .i64 BAD, .int .i64 C1, .int .i64 C2], GR.eq (.int .i64 E1), GR.eq (.pointer (some ⟨g3, 2, none⟩)), GR.eq (.pointer (some ⟨g3, 5, none⟩)), GR.eq (.agg #[.int .i64 hx, .int .i64 hy]), GR.eq (.int .i64 C3), GR.eq (.pointer (some ⟨g3, 11, none⟩)), GR.eq (.agg #[.int .i64 dx, .int .i64 dy]), GR.eq (.int .i64 C4), GR.row 2 3 #[.int .i64 C3, .int .i64 C4], GR.eq (.int .i64 E2), GR.eq (.int .i64 E1), GR.eq (.int .i64 E2)] 176 rfl (by kernel_rfl) ?_ ?_
  · refine ⟨?_, ?_, ?_, ?_, ?_, ?_, ?_, ?_, ?_, ?_, ?_, ?_, ?_, ?_, ?_, ?_, ?_, ?_, ?_, ?_, trivial⟩
    · intro a W hE hd ho
      have e13 : a.tmps[13]?.getD undef = .int .i64 BAD := ho 13 (by kernel_rfl)
      exact gs_same (v := .int .i64 BAD) (by go_simp) rfl
    · intro a W hE hd ho
      have e3 : a.tmps[3]?.getD undef = .pointer (some ⟨g3, 0, none⟩) := ho 3 (by kernel_rfl)
      exact gs_same (v := .pointer (some ⟨g3, 0, none⟩)) (by go_simp) rfl
    · intro a W hE hd ho
      have e66 : a.tmps[66]?.getD undef = .pointer (some ⟨g3, 0, none⟩) := hd 1 66 (by kernel_rfl) (by kernel_rfl)
      have c0 := (X.out.below hE).cell 0
      simp only [List.getElem?_toArray, List.getElem?_cons_zero, List.getElem?_cons_succ] at c0
      exact gs_same (v := .int .i64 pw) (by go_simp) rfl
    · intro a W hE hd ho
      have e67 : a.tmps[67]?.getD undef = .int .i64 pw := hd 2 67 (by kernel_rfl) (by kernel_rfl)
      refine gs_call (f := 22) (args := #[.int .i64 pw]) (by go_simp) ?_
      refine (refPower_st pw W).mono ?_
      rintro e w' ⟨rfl, rfl⟩
      exact ⟨_, rfl, Ext.refl _, by rw [HC1.out]; rfl⟩
    · intro a W hE hd ho
      have e3 : a.tmps[3]?.getD undef = .pointer (some ⟨g3, 0, none⟩) := ho 3 (by kernel_rfl)
      exact gs_same (v := .pointer (some ⟨g3, 1, none⟩)) (by go_simp) rfl
    · intro a W hE hd ho
      have e69 : a.tmps[69]?.getD undef = .pointer (some ⟨g3, 1, none⟩) := hd 4 69 (by kernel_rfl) (by kernel_rfl)
      have c1 := (X.out.below hE).cell 1
      simp only [List.getElem?_toArray, List.getElem?_cons_zero, List.getElem?_cons_succ] at c1
      exact gs_same (v := .int .i64 sq) (by go_simp) rfl
    · intro a W hE hd ho
      have e70 : a.tmps[70]?.getD undef = .int .i64 sq := hd 5 70 (by kernel_rfl) (by kernel_rfl)
      refine gs_call (f := 23) (args := #[.int .i64 sq]) (by go_simp) ?_
      refine (refSquare_st sq W).mono ?_
      rintro e w' ⟨rfl, rfl⟩
      exact ⟨_, rfl, Ext.refl _, by rw [HC2.out]; rfl⟩
    · intro a W hE hd ho
      have e65 : a.tmps[65]?.getD undef = .int .i64 BAD := hd 0 65 (by kernel_rfl) (by kernel_rfl)
      have e68 : a.tmps[68]?.getD undef = .int .i64 C1 := hd 3 68 (by kernel_rfl) (by kernel_rfl)
      have e71 : a.tmps[71]?.getD undef = .int .i64 C2 := hd 6 71 (by kernel_rfl) (by kernel_rfl)
      exact gs_val (v := .slice (some ⟨W.heap.size, 0, none⟩) 3 3) (W' := W.alloc (.cells #[.int .i64 BAD, .int .i64 C1, .int .i64 C2] 3)) (by go_simp) ((Below.refl _ _).alloc (Nat.le_refl _) _) ⟨_, rfl, Blk.new _ _ _⟩
    · intro a W hE hd ho
      obtain ⟨gr, e72, hr⟩ : ∃ g, a.tmps[72]?.getD undef = .slice (some ⟨g, 0, none⟩) 3 3 ∧ Blk W g 3 #[.int .i64 BAD, .int .i64 C1, .int .i64 C2] := hd 7 72 (by kernel_rfl) (by kernel_rfl)
      refine gs_call (f := 21) (args := #[.slice (some ⟨gr, 0, none⟩) 3 3]) (by go_simp) ?_
      refine (lawF3 _ _ BAD C1 C2 _ (hr.cell 0) (hr.cell 1) (hr.cell 2)).mono ?_
      rintro e w' ⟨rfl, rfl⟩
      exact ⟨_, rfl, Ext.refl _, by rw [HE1.out]; rfl⟩
    · intro a W hE hd ho
      have e3 : a.tmps[3]?.getD undef = .pointer (some ⟨g3, 0, none⟩) := ho 3 (by kernel_rfl)
      exact gs_same (v := .pointer (some ⟨g3, 2, none⟩)) (by go_simp) rfl
    · intro a W hE hd ho
      have e74 : a.tmps[74]?.getD undef = .pointer (some ⟨g3, 2, none⟩) := hd 9 74 (by kernel_rfl) (by kernel_rfl)
      exact gs_same (v := .pointer (some ⟨g3, 5, none⟩)) (by go_simp) rfl
    · intro a W hE hd ho
      have e75 : a.tmps[75]?.getD undef = .pointer (some ⟨g3, 5, none⟩) := hd 10 75 (by kernel_rfl) (by kernel_rfl)
      have C := X.out.below hE
      have c5 := C.cell 5
      have c6 := C.cell 6
      simp only [List.getElem?_toArray, List.getElem?_cons_zero, List.getElem?_cons_succ] at c5 c6
      exact gs_same (v := .agg #[.int .i64 hx, .int .i64 hy]) (by go_simp) rfl
    · intro a W hE hd ho
      have e76 : a.tmps[76]?.getD undef = .agg #[.int .i64 hx, .int .i64 hy] := hd 11 76 (by kernel_rfl) (by kernel_rfl)
      refine gs_call (f := 24) (args := #[.agg #[.int .i64 hx, .int .i64 hy]]) (by go_simp) ?_
      refine (refDirection_any hx hy W).mono ?_
      rintro e w' ⟨rfl, hb⟩
      exact ⟨_, rfl, hb, by rw [HC3.out]; rfl⟩
    · intro a W hE hd ho
      have e3 : a.tmps[3]?.getD undef = .pointer (some ⟨g3, 0, none⟩) := ho 3 (by kernel_rfl)
      exact gs_same (v := .pointer (some ⟨g3, 11, none⟩)) (by go_simp) rfl
    · intro a W hE hd ho
      have e78 : a.tmps[78]?.getD undef = .pointer (some ⟨g3, 11, none⟩) := hd 13 78 (by kernel_rfl) (by kernel_rfl)
      have C := X.out.below hE
      have c11 := C.cell 11
      have c12 := C.cell 12
      simp only [List.getElem?_toArray, List.getElem?_cons_zero, List.getElem?_cons_succ] at c11 c12
      exact gs_same (v := .agg #[.int .i64 dx, .int .i64 dy]) (by go_simp) rfl
    · intro a W hE hd ho
      have e79 : a.tmps[79]?.getD undef = .agg #[.int .i64 dx, .int .i64 dy] := hd 14 79 (by kernel_rfl) (by kernel_rfl)
      refine gs_call (f := 24) (args := #[.agg #[.int .i64 dx, .int .i64 dy]]) (by go_simp) ?_
      refine (refDirection_any dx dy W).mono ?_
      rintro e w' ⟨rfl, hb⟩
      exact ⟨_, rfl, hb, by rw [HC4.out]; rfl⟩
    · intro a W hE hd ho
      have e77 : a.tmps[77]?.getD undef = .int .i64 C3 := hd 12 77 (by kernel_rfl) (by kernel_rfl)
      have e80 : a.tmps[80]?.getD undef = .int .i64 C4 := hd 15 80 (by kernel_rfl) (by kernel_rfl)
      exact gs_val (v := .slice (some ⟨W.heap.size, 0, none⟩) 2 2) (W' := W.alloc (.cells #[.int .i64 C3, .int .i64 C4] 3)) (by go_simp) ((Below.refl _ _).alloc (Nat.le_refl _) _) ⟨_, rfl, Blk.new _ _ _⟩
    · intro a W hE hd ho
      obtain ⟨gr, e81, hr⟩ : ∃ g, a.tmps[81]?.getD undef = .slice (some ⟨g, 0, none⟩) 2 2 ∧ Blk W g 3 #[.int .i64 C3, .int .i64 C4] := hd 16 81 (by kernel_rfl) (by kernel_rfl)
      refine gs_call (f := 21) (args := #[.slice (some ⟨gr, 0, none⟩) 2 2]) (by go_simp) ?_
      refine (lawF2 _ _ C3 C4 _ (hr.cell 0) (hr.cell 1)).mono ?_
      rintro e w' ⟨rfl, rfl⟩
      exact ⟨_, rfl, Ext.refl _, by rw [HE2.out]; rfl⟩
    · intro a W hE hd ho
      have e73 : a.tmps[73]?.getD undef = .int .i64 E1 := hd 8 73 (by kernel_rfl) (by kernel_rfl)
      exact gs_same (v := .int .i64 E1) (by go_simp) rfl
    · intro a W hE hd ho
      have e82 : a.tmps[82]?.getD undef = .int .i64 E2 := hd 17 82 (by kernel_rfl) (by kernel_rfl)
      exact gs_same (v := .int .i64 E2) (by go_simp) rfl
  intro v8 w8 hE hR
  have y0 : v8 0 = .int .i64 BAD := hR 0 (by omega)
  have y1 : v8 1 = .pointer (some ⟨g3, 0, none⟩) := hR 1 (by omega)
  have y2 : v8 2 = .int .i64 pw := hR 2 (by omega)
  have y3 : v8 3 = .int .i64 C1 := hR 3 (by omega)
  have y4 : v8 4 = .pointer (some ⟨g3, 1, none⟩) := hR 4 (by omega)
  have y5 : v8 5 = .int .i64 sq := hR 5 (by omega)
  have y6 : v8 6 = .int .i64 C2 := hR 6 (by omega)
  obtain ⟨z7, y7⟩ : ∃ v, v8 7 = v := ⟨_, rfl⟩
  have y8 : v8 8 = .int .i64 E1 := hR 8 (by omega)
  have y9 : v8 9 = .pointer (some ⟨g3, 2, none⟩) := hR 9 (by omega)
  have y10 : v8 10 = .pointer (some ⟨g3, 5, none⟩) := hR 10 (by omega)
  have y11 : v8 11 = .agg #[.int .i64 hx, .int .i64 hy] := hR 11 (by omega)
  have y12 : v8 12 = .int .i64 C3 := hR 12 (by omega)
  have y13 : v8 13 = .pointer (some ⟨g3, 11, none⟩) := hR 13 (by omega)
  have y14 : v8 14 = .agg #[.int .i64 dx, .int .i64 dy] := hR 14 (by omega)
  have y15 : v8 15 = .int .i64 C4 := hR 15 (by omega)
  obtain ⟨z16, y16⟩ : ∃ v, v8 16 = v := ⟨_, rfl⟩
  have y17 : v8 17 = .int .i64 E2 := hR 17 (by omega)
  have y18 : v8 18 = .int .i64 E1 := hR 18 (by omega)
  have y19 : v8 19 = .int .i64 E2 := hR 19 (by omega)
  simp only [List.range, List.range.loop, List.foldl_cons, List.foldl_nil, y0, y1, y2, y3, y4, y5, y6, y7, y8, y9, y10, y11, y12, y13, y14, y15, y16, y17, y18, y19, List.drop_succ_cons, List.drop_zero]
  simp only [dstAt, List.getElem?_toArray, List.getElem?_cons_zero, List.getElem?_cons_succ, Option.bind_some, Act.put, List.setIfInBounds_toArray, List.set_cons_zero, List.set_cons_succ]
  clear y0 y1 y2 y3 y4 y5 y6 y7 y8 y9 y10 y11 y12 y13 y14 y15 y16 y17 y18 y19 hR
  have hb := hE.below
  replace HB := Lib.hid (HB.out.trans (hb.mono HB.out.size))
  replace TT := Lib.hid (TT.out.below hb)
  replace X := Lib.hid (X.out.below hb)
  replace U := Lib.hid (U.out.keep hb)
  replace F := Lib.hid (F.out.keep hb)
  replace TB := Lib.hid (TB.out.keep hb)
  replace HT := Lib.hid (HT.out.keep hb)
  replace I4 := Lib.hid (I4.out.keep hb)
  clear hb
  clear hE
  go_upto_region 9 with fail
  refine wp_region_allN 17 rfl (by kernel_rfl) (by kernel_rfl) [GR.eq (.int .i64 BAD), GR.eq (.pointer (some ⟨g3, 2, none⟩)), GR.eq (.agg #[.int .i64 ax, .int .i64 ay, .int .i64 az, .int .i64 hx, .int .i64 hy, .int .i64 sp]), GR.eq (.int .i64 C5), GR.eq (.pointer (some ⟨g3, 8, none⟩)), GR.eq (.agg #[.int .i64 rx, .int .i64 ry, .int .i64 rz]), GR.eq (.int .i64 C6), GR.row 3 3 #[.int .i64 BAD, .int .i64 C5, .int .i64 C6], GR.eq (.int .i64 E3), GR.eq (.int .i64 BAD), GR.eq (.pointer (some ⟨g3, 13, none⟩)), GR.eq (.int .i64 en), GR.eq (.int .i64 C7), GR.row 2 3 #[.int .i64 BAD, .int .i64 C7], GR.eq (.int .i64 E4), GR.eq (.int .i64 E3), GR.eq (.int .i64 E4)] 176 rfl (by kernel_rfl) ?_ ?_
  · refine ⟨?_, ?_, ?_, ?_, ?_, ?_, ?_, ?_, ?_, ?_, ?_, ?_, ?_, ?_, ?_, ?_, ?_, trivial⟩
    · intro a W hE hd ho
      have e13 : a.tmps[13]?.getD undef = .int .i64 BAD := ho 13 (by kernel_rfl)
      exact gs_same (v := .int .i64 BAD) (by go_simp) rfl
    · intro a W hE hd ho
      have e3 : a.tmps[3]?.getD undef = .pointer (some ⟨g3, 0, none⟩) := ho 3 (by kernel_rfl)
      exact gs_same (v := .pointer (some ⟨g3, 2, none⟩)) (by go_simp) rfl
    · intro a W hE hd ho
      have e84 : a.tmps[84]?.getD undef = .pointer (some ⟨g3, 2, none⟩) := hd 1 84 (by kernel_rfl) (by kernel_rfl)
      have C := X.out.below hE
      have c2 := C.cell 2
      have c3 := C.cell 3
      have c4 := C.cell 4
      have c5 := C.cell 5
      have c6 := C.cell 6
      have c7 := C.cell 7
      simp only [List.getElem?_toArray, List.getElem?_cons_zero, List.getElem?_cons_succ] at c2 c3 c4 c5 c6 c7
      exact gs_same (v := .agg #[.int .i64 ax, .int .i64 ay, .int .i64 az, .int .i64 hx, .int .i64 hy, .int .i64 sp]) (by go_simp) rfl
    · intro a W hE hd ho
      have e85 : a.tmps[85]?.getD undef = .agg #[.int .i64 ax, .int .i64 ay, .int .i64 az, .int .i64 hx, .int .i64 hy, .int .i64 sp] := hd 2 85 (by kernel_rfl) (by kernel_rfl)
      refine gs_call (f := 25) (args := #[.agg #[.int .i64 ax, .int .i64 ay, .int .i64 az, .int .i64 hx, .int .i64 hy, .int .i64 sp]]) (by go_simp) ?_
      refine (refState_any ax ay az hx hy sp W).mono ?_
      rintro e w' ⟨rfl, hb⟩
      exact ⟨_, rfl, hb, by rw [HC5.out]; rfl⟩
    · intro a W hE hd ho
      have e3 : a.tmps[3]?.getD undef = .pointer (some ⟨g3, 0, none⟩) := ho 3 (by kernel_rfl)
      exact gs_same (v := .pointer (some ⟨g3, 8, none⟩)) (by go_simp) rfl
    · intro a W hE hd ho
      have e87 : a.tmps[87]?.getD undef = .pointer (some ⟨g3, 8, none⟩) := hd 4 87 (by kernel_rfl) (by kernel_rfl)
      have C := X.out.below hE
      have c8 := C.cell 8
      have c9 := C.cell 9
      have c10 := C.cell 10
      simp only [List.getElem?_toArray, List.getElem?_cons_zero, List.getElem?_cons_succ] at c8 c9 c10
      exact gs_same (v := .agg #[.int .i64 rx, .int .i64 ry, .int .i64 rz]) (by go_simp) rfl
    · intro a W hE hd ho
      have e88 : a.tmps[88]?.getD undef = .agg #[.int .i64 rx, .int .i64 ry, .int .i64 rz] := hd 5 88 (by kernel_rfl) (by kernel_rfl)
      refine gs_call (f := 26) (args := #[.agg #[.int .i64 rx, .int .i64 ry, .int .i64 rz]]) (by go_simp) ?_
      refine (refPlace_any rx ry rz W).mono ?_
      rintro e w' ⟨rfl, hb⟩
      exact ⟨_, rfl, hb, by rw [HC6.out]; rfl⟩
    · intro a W hE hd ho
      have e83 : a.tmps[83]?.getD undef = .int .i64 BAD := hd 0 83 (by kernel_rfl) (by kernel_rfl)
      have e86 : a.tmps[86]?.getD undef = .int .i64 C5 := hd 3 86 (by kernel_rfl) (by kernel_rfl)
      have e89 : a.tmps[89]?.getD undef = .int .i64 C6 := hd 6 89 (by kernel_rfl) (by kernel_rfl)
      exact gs_val (v := .slice (some ⟨W.heap.size, 0, none⟩) 3 3) (W' := W.alloc (.cells #[.int .i64 BAD, .int .i64 C5, .int .i64 C6] 3)) (by go_simp) ((Below.refl _ _).alloc (Nat.le_refl _) _) ⟨_, rfl, Blk.new _ _ _⟩
    · intro a W hE hd ho
      obtain ⟨gr, e90, hr⟩ : ∃ g, a.tmps[90]?.getD undef = .slice (some ⟨g, 0, none⟩) 3 3 ∧ Blk W g 3 #[.int .i64 BAD, .int .i64 C5, .int .i64 C6] := hd 7 90 (by kernel_rfl) (by kernel_rfl)
      refine gs_call (f := 21) (args := #[.slice (some ⟨gr, 0, none⟩) 3 3]) (by go_simp) ?_
      refine (lawF3 _ _ BAD C5 C6 _ (hr.cell 0) (hr.cell 1) (hr.cell 2)).mono ?_
      rintro e w' ⟨rfl, rfl⟩
      exact ⟨_, rfl, Ext.refl _, by rw [HE3.out]; rfl⟩
    · intro a W hE hd ho
      have e13 : a.tmps[13]?.getD undef = .int .i64 BAD := ho 13 (by kernel_rfl)
      exact gs_same (v := .int .i64 BAD) (by go_simp) rfl
    · intro a W hE hd ho
      have e3 : a.tmps[3]?.getD undef = .pointer (some ⟨g3, 0, none⟩) := ho 3 (by kernel_rfl)
      exact gs_same (v := .pointer (some ⟨g3, 13, none⟩)) (by go_simp) rfl
    · intro a W hE hd ho
      have e93 : a.tmps[93]?.getD undef = .pointer (some ⟨g3, 13, none⟩) := hd 10 93 (by kernel_rfl) (by kernel_rfl)
      have c13 := (X.out.below hE).cell 13
      simp only [List.getElem?_toArray, List.getElem?_cons_zero, List.getElem?_cons_succ] at c13
      exact gs_same (v := .int .i64 en) (by go_simp) rfl
    · intro a W hE hd ho
      have e94 : a.tmps[94]?.getD undef = .int .i64 en := hd 11 94 (by kernel_rfl) (by kernel_rfl)
      refine gs_call (f := 27) (args := #[.int .i64 en]) (by go_simp) ?_
      refine (refCheckEnergy_any en W).mono ?_
      rintro e w' ⟨rfl, rfl⟩
      exact ⟨_, rfl, Ext.refl _, by rw [HC7.out]; rfl⟩
    · intro a W hE hd ho
      have e92 : a.tmps[92]?.getD undef = .int .i64 BAD := hd 9 92 (by kernel_rfl) (by kernel_rfl)
      have e95 : a.tmps[95]?.getD undef = .int .i64 C7 := hd 12 95 (by kernel_rfl) (by kernel_rfl)
      exact gs_val (v := .slice (some ⟨W.heap.size, 0, none⟩) 2 2) (W' := W.alloc (.cells #[.int .i64 BAD, .int .i64 C7] 3)) (by go_simp) ((Below.refl _ _).alloc (Nat.le_refl _) _) ⟨_, rfl, Blk.new _ _ _⟩
    · intro a W hE hd ho
      obtain ⟨gr, e96, hr⟩ : ∃ g, a.tmps[96]?.getD undef = .slice (some ⟨g, 0, none⟩) 2 2 ∧ Blk W g 3 #[.int .i64 BAD, .int .i64 C7] := hd 13 96 (by kernel_rfl) (by kernel_rfl)
      refine gs_call (f := 21) (args := #[.slice (some ⟨gr, 0, none⟩) 2 2]) (by go_simp) ?_
      refine (lawF2 _ _ BAD C7 _ (hr.cell 0) (hr.cell 1)).mono ?_
      rintro e w' ⟨rfl, rfl⟩
      exact ⟨_, rfl, Ext.refl _, by rw [HE4.out]; rfl⟩
    · intro a W hE hd ho
      have e91 : a.tmps[91]?.getD undef = .int .i64 E3 := hd 8 91 (by kernel_rfl) (by kernel_rfl)
      exact gs_same (v := .int .i64 E3) (by go_simp) rfl
    · intro a W hE hd ho
      have e97 : a.tmps[97]?.getD undef = .int .i64 E4 := hd 14 97 (by kernel_rfl) (by kernel_rfl)
      exact gs_same (v := .int .i64 E4) (by go_simp) rfl
  intro v9 w9 hE hR
  have y0 : v9 0 = .int .i64 BAD := hR 0 (by omega)
  have y1 : v9 1 = .pointer (some ⟨g3, 2, none⟩) := hR 1 (by omega)
  have y2 : v9 2 = .agg #[.int .i64 ax, .int .i64 ay, .int .i64 az, .int .i64 hx, .int .i64 hy, .int .i64 sp] := hR 2 (by omega)
  have y3 : v9 3 = .int .i64 C5 := hR 3 (by omega)
  have y4 : v9 4 = .pointer (some ⟨g3, 8, none⟩) := hR 4 (by omega)
  have y5 : v9 5 = .agg #[.int .i64 rx, .int .i64 ry, .int .i64 rz] := hR 5 (by omega)
  have y6 : v9 6 = .int .i64 C6 := hR 6 (by omega)
  obtain ⟨z7, y7⟩ : ∃ v, v9 7 = v := ⟨_, rfl⟩
  have y8 : v9 8 = .int .i64 E3 := hR 8 (by omega)
  have y9 : v9 9 = .int .i64 BAD := hR 9 (by omega)
  have y10 : v9 10 = .pointer (some ⟨g3, 13, none⟩) := hR 10 (by omega)
  have y11 : v9 11 = .int .i64 en := hR 11 (by omega)
  have y12 : v9 12 = .int .i64 C7 := hR 12 (by omega)
  obtain ⟨z13, y13⟩ : ∃ v, v9 13 = v := ⟨_, rfl⟩
  have y14 : v9 14 = .int .i64 E4 := hR 14 (by omega)
  have y15 : v9 15 = .int .i64 E3 := hR 15 (by omega)
  have y16 : v9 16 = .int .i64 E4 := hR 16 (by omega)
  simp only [List.range, List.range.loop, List.foldl_cons, List.foldl_nil, y0, y1, y2, y3, y4, y5, y6, y7, y8, y9, y10, y11, y12, y13, y14, y15, y16, List.drop_succ_cons, List.drop_zero]
  simp only [dstAt, List.getElem?_toArray, List.getElem?_cons_zero, List.getElem?_cons_succ, Option.bind_some, Act.put, List.setIfInBounds_toArray, List.set_cons_zero, List.set_cons_succ]
  clear y0 y1 y2 y3 y4 y5 y6 y7 y8 y9 y10 y11 y12 y13 y14 y15 y16 hR
  have hb := hE.below
  replace HB := Lib.hid (HB.out.trans (hb.mono HB.out.size))
  replace TT := Lib.hid (TT.out.below hb)
  replace X := Lib.hid (X.out.below hb)
  replace U := Lib.hid (U.out.keep hb)
  replace F := Lib.hid (F.out.keep hb)
  replace TB := Lib.hid (TB.out.keep hb)
  replace HT := Lib.hid (HT.out.keep hb)
  replace I4 := Lib.hid (I4.out.keep hb)
  clear hb
  clear hE
  go_upto_if 99 with fail
  go_cut [18] (fun v wx => v = .int .i64 V1 ∧ Hid (Below w9.heap.size w9 wx))
  case first =>
    by_cases hz : E1 = 0
    · have hz1 : (E1 == 0) = true := by simp [hz]
      have HZ := Lib.hid hz
      clear hz
      have XA := X.out
      have ac0 := XA.cell 0; have af0 := XA.frozen 0; have ac1 := XA.cell 1; have af1 := XA.frozen 1; have ac2 := XA.cell 2; have af2 := XA.frozen 2; have ac3 := XA.cell 3; have af3 := XA.frozen 3; have ac4 := XA.cell 4; have af4 := XA.frozen 4; have ac5 := XA.cell 5; have af5 := XA.frozen 5; have ac6 := XA.cell 6; have af6 := XA.frozen 6; have ac7 := XA.cell 7; have af7 := XA.frozen 7; have ac8 := XA.cell 8; have af8 := XA.frozen 8; have ac9 := XA.cell 9; have af9 := XA.frozen 9; have ac10 := XA.cell 10; have af10 := XA.frozen 10; have ac11 := XA.cell 11; have af11 := XA.frozen 11; have ac12 := XA.cell 12; have af12 := XA.frozen 12; have ac13 := XA.cell 13; have af13 := XA.frozen 13
      simp only [List.getElem?_toArray, List.getElem?_cons_zero, List.getElem?_cons_succ] at ac0 ac1 ac2 ac3 ac4 ac5 ac6 ac7 ac8 ac9 ac10 ac11 ac12 ac13
      clear XA
      obtain ⟨q0, q1, q2⟩ := firstE3_zero (HE1.out.symm.trans HZ.out)
      obtain ⟨qb, qo, gb, go, rfl, rfl, hta, hG⟩ := rty_ok HT.out HD8.out (HBAD.out.symm.trans q0)
      have hv : Hid (V1 = Bell.emis T.sets (Bell.reachOf T.squares sq) pw) := by show _ = _; rw [HV1.out, if_pos HZ.out]
      have KE := Lib.hid (refEmission_any pw sq w9 hta hG (withinE_zero (HC1.out.symm.trans q1)))
      rw [← hv.out] at KE
      clear hv hta hG q0 q1 q2
      go_wp2_with (refine wpList_load_row rfl 26 _ rfl g2 rfl 26 cs (0, 0) _ TT.out Tryz.underlying26 rfl IT.out ?_)
      refine KE.out.mono ?_
      rintro e w10 ⟨rfl, hb⟩
      go_wp2
      go_meet
      exact ⟨rfl, hb⟩
    · have hz1 : (E1 == 0) = false := by simp [hz]
      have HZ := Lib.hid hz
      clear hz
      have hv : Hid (V1 = 0) := by show _ = _; rw [HV1.out, if_neg HZ.out]
      go_wp2
      go_meet
      exact ⟨by rw [hv.out], Below.refl _ _⟩
  case rest =>
  obtain ⟨rfl, hbc⟩ := hcut
  have hb := hbc.out
  obtain ⟨wd, hwd⟩ : ∃ W, W = wc := ⟨_, rfl⟩
  rw [← hwd] at hb ⊢
  clear hbc hwd
  replace HB := Lib.hid (HB.out.trans (hb.mono HB.out.size))
  replace TT := Lib.hid (TT.out.below hb)
  replace X := Lib.hid (X.out.below hb)
  replace U := Lib.hid (U.out.keep hb)
  replace F := Lib.hid (F.out.keep hb)
  replace TB := Lib.hid (TB.out.keep hb)
  replace HT := Lib.hid (HT.out.keep hb)
  replace I4 := Lib.hid (I4.out.keep hb)
  clear hb
  go_upto_if 107 with fail
  go_cut [19] (fun v wx => v = .int .i64 V2 ∧ Hid (Below wd.heap.size wd wx))
  case first =>
    by_cases hz : E2 = 0
    · have hz1 : (E2 == 0) = true := by simp [hz]
      have HZ := Lib.hid hz
      clear hz
      have XA := X.out
      have ac0 := XA.cell 0; have af0 := XA.frozen 0; have ac1 := XA.cell 1; have af1 := XA.frozen 1; have ac2 := XA.cell 2; have af2 := XA.frozen 2; have ac3 := XA.cell 3; have af3 := XA.frozen 3; have ac4 := XA.cell 4; have af4 := XA.frozen 4; have ac5 := XA.cell 5; have af5 := XA.frozen 5; have ac6 := XA.cell 6; have af6 := XA.frozen 6; have ac7 := XA.cell 7; have af7 := XA.frozen 7; have ac8 := XA.cell 8; have af8 := XA.frozen 8; have ac9 := XA.cell 9; have af9 := XA.frozen 9; have ac10 := XA.cell 10; have af10 := XA.frozen 10; have ac11 := XA.cell 11; have af11 := XA.frozen 11; have ac12 := XA.cell 12; have af12 := XA.frozen 12; have ac13 := XA.cell 13; have af13 := XA.frozen 13
      simp only [List.getElem?_toArray, List.getElem?_cons_zero, List.getElem?_cons_succ] at ac0 ac1 ac2 ac3 ac4 ac5 ac6 ac7 ac8 ac9 ac10 ac11 ac12 ac13
      clear XA
      obtain ⟨q1, q2⟩ := firstE2_zero (HE2.out.symm.trans HZ.out)
      obtain ⟨d1, d2⟩ := dirE_zero (HC3.out.symm.trans q1)
      obtain ⟨d3, d4⟩ := dirE_zero (HC4.out.symm.trans q2)
      have hv : Hid (V2 = ((Bell.sectorOf hx hy dx dy : Nat) : Int)) := by show _ = _; rw [HV2.out, if_pos HZ.out]
      have KE := Lib.hid (refSector_any hx hy dx dy wd (by omega) (by omega) (by omega) (by omega))
      rw [← hv.out] at KE
      clear hv q1 q2 d1 d2 d3 d4
      go_wp2_with fail
      refine KE.out.mono ?_
      rintro e w10 ⟨rfl, hb⟩
      go_wp2
      go_meet
      exact ⟨rfl, hb⟩
    · have hz1 : (E2 == 0) = false := by simp [hz]
      have HZ := Lib.hid hz
      clear hz
      have hv : Hid (V2 = 0) := by show _ = _; rw [HV2.out, if_neg HZ.out]
      go_wp2
      go_meet
      exact ⟨by rw [hv.out], Below.refl _ _⟩
  case rest =>
  obtain ⟨rfl, hbc⟩ := hcut
  have hb := hbc.out
  obtain ⟨we, hwe⟩ : ∃ W, W = wc := ⟨_, rfl⟩
  rw [← hwe] at hb ⊢
  clear hbc hwe
  replace HB := Lib.hid (HB.out.trans (hb.mono HB.out.size))
  replace TT := Lib.hid (TT.out.below hb)
  replace X := Lib.hid (X.out.below hb)
  replace U := Lib.hid (U.out.keep hb)
  replace F := Lib.hid (F.out.keep hb)
  replace TB := Lib.hid (TB.out.keep hb)
  replace HT := Lib.hid (HT.out.keep hb)
  replace I4 := Lib.hid (I4.out.keep hb)
  clear hb
  go_upto_if 115 with fail
  go_cut [20] (fun v wx => v = .int .i64 V3 ∧ Hid (Below we.heap.size we wx))
  case first =>
    by_cases hz : E3 = 0
    · have hz1 : (E3 == 0) = true := by simp [hz]
      have HZ := Lib.hid hz
      clear hz
      have XA := X.out
      have ac0 := XA.cell 0; have af0 := XA.frozen 0; have ac1 := XA.cell 1; have af1 := XA.frozen 1; have ac2 := XA.cell 2; have af2 := XA.frozen 2; have ac3 := XA.cell 3; have af3 := XA.frozen 3; have ac4 := XA.cell 4; have af4 := XA.frozen 4; have ac5 := XA.cell 5; have af5 := XA.frozen 5; have ac6 := XA.cell 6; have af6 := XA.frozen 6; have ac7 := XA.cell 7; have af7 := XA.frozen 7; have ac8 := XA.cell 8; have af8 := XA.frozen 8; have ac9 := XA.cell 9; have af9 := XA.frozen 9; have ac10 := XA.cell 10; have af10 := XA.frozen 10; have ac11 := XA.cell 11; have af11 := XA.frozen 11; have ac12 := XA.cell 12; have af12 := XA.frozen 12; have ac13 := XA.cell 13; have af13 := XA.frozen 13
      simp only [List.getElem?_toArray, List.getElem?_cons_zero, List.getElem?_cons_succ] at ac0 ac1 ac2 ac3 ac4 ac5 ac6 ac7 ac8 ac9 ac10 ac11 ac12 ac13
      clear XA
      obtain ⟨q0, q1, q2⟩ := firstE3_zero (HE3.out.symm.trans HZ.out)
      obtain ⟨qb, qo, gb, go, rfl, rfl, hta, hG⟩ := rty_ok HT.out HD8.out (HBAD.out.symm.trans q0)
      obtain ⟨k1, k2, k3⟩ := stE_zero (HC5.out.symm.trans q1)
      obtain ⟨p1, p2, p3⟩ := placeE_zero k1
      obtain ⟨d1, d2⟩ := dirE_zero k2
      have q3 := withinE_zero k3
      have hv : Hid (V3 = Bell.heardOf T ⟨ax, ay, az, hx, hy, sp⟩ ⟨rx, ry, rz⟩) := by show _ = _; rw [HV3.out, if_pos HZ.out]
      have KE := Lib.hid (refHeard_any ⟨ax, ay, az, hx, hy, sp⟩ ⟨rx, ry, rz⟩ we hta hG ⟨p1.1, p1.2, p2.1, p2.2, p3.1, p3.2, d1.1, d1.2, d2.1, d2.2, q3.1, q3.2⟩ (placeE_good (HC6.out.symm.trans q2)))
      rw [← hv.out] at KE
      unfold stV plV at KE
      simp only [] at KE
      clear hv hta hG q0 q1 q2 q3 k1 k2 k3 p1 p2 p3 d1 d2
      go_wp2_with (refine wpList_load_row rfl 26 _ rfl g2 rfl 26 cs (0, 0) _ TT.out Tryz.underlying26 rfl IT.out ?_)
      refine KE.out.mono ?_
      rintro e w10 ⟨rfl, hb⟩
      go_wp2
      go_meet
      exact ⟨rfl, hb⟩
    · have hz1 : (E3 == 0) = false := by simp [hz]
      have HZ := Lib.hid hz
      clear hz
      have hv : Hid (V3 = 0) := by show _ = _; rw [HV3.out, if_neg HZ.out]
      go_wp2
      go_meet
      exact ⟨by rw [hv.out], Below.refl _ _⟩
  case rest =>
  obtain ⟨rfl, hbc⟩ := hcut
  have hb := hbc.out
  obtain ⟨wf, hwf⟩ : ∃ W, W = wc := ⟨_, rfl⟩
  rw [← hwf] at hb ⊢
  clear hbc hwf
  replace HB := Lib.hid (HB.out.trans (hb.mono HB.out.size))
  replace TT := Lib.hid (TT.out.below hb)
  replace X := Lib.hid (X.out.below hb)
  replace U := Lib.hid (U.out.keep hb)
  replace F := Lib.hid (F.out.keep hb)
  replace TB := Lib.hid (TB.out.keep hb)
  replace HT := Lib.hid (HT.out.keep hb)
  replace I4 := Lib.hid (I4.out.keep hb)
  clear hb
  go_upto_if 123 with fail
  go_cut [21] (fun v wx => Hid (∃ A n c, v = .slice A n c ∧ n ≤ 9 ∧ IntsAt wx A n L4) ∧ Hid (Below wf.heap.size wf wx))
  case first =>
    by_cases hz : E4 = 0
    · have hz1 : (E4 == 0) = true := by simp [hz]
      have HZ := Lib.hid hz
      clear hz
      have XA := X.out
      have ac0 := XA.cell 0; have af0 := XA.frozen 0; have ac1 := XA.cell 1; have af1 := XA.frozen 1; have ac2 := XA.cell 2; have af2 := XA.frozen 2; have ac3 := XA.cell 3; have af3 := XA.frozen 3; have ac4 := XA.cell 4; have af4 := XA.frozen 4; have ac5 := XA.cell 5; have af5 := XA.frozen 5; have ac6 := XA.cell 6; have af6 := XA.frozen 6; have ac7 := XA.cell 7; have af7 := XA.frozen 7; have ac8 := XA.cell 8; have af8 := XA.frozen 8; have ac9 := XA.cell 9; have af9 := XA.frozen 9; have ac10 := XA.cell 10; have af10 := XA.frozen 10; have ac11 := XA.cell 11; have af11 := XA.frozen 11; have ac12 := XA.cell 12; have af12 := XA.frozen 12; have ac13 := XA.cell 13; have af13 := XA.frozen 13
      simp only [List.getElem?_toArray, List.getElem?_cons_zero, List.getElem?_cons_succ] at ac0 ac1 ac2 ac3 ac4 ac5 ac6 ac7 ac8 ac9 ac10 ac11 ac12 ac13
      clear XA
      obtain ⟨q0, q1⟩ := firstE2_zero (HE4.out.symm.trans HZ.out)
      obtain ⟨qb, qo, gb, go, rfl, rfl, hta, hG⟩ := rty_ok HT.out HD8.out (HBAD.out.symm.trans q0)
      have hv : Hid (L4 = bandL sh en sn) := by show _ = _; rw [HL4.out]; unfold bandsE; rw [if_pos HZ.out]
      have KE := Lib.hid (refBanded_any en wf hta hG (withinE_zero (HC7.out.symm.trans q1)))
      have h8 : sn ≤ 8 := by have h := hG.sh.cnt.2; rw [hta.shares.1] at h; exact h
      clear hta hG q0 q1
      go_wp2_with (refine wpList_load_row rfl 26 _ rfl g2 rfl 26 cs (0, 0) _ TT.out Tryz.underlying26 rfl IT.out ?_)
      refine KE.out.mono ?_
      rintro e w10 ⟨g, c, rfl, hc, hb⟩
      go_wp2
      go_meet
      exact ⟨⟨_, _, _, rfl, by omega, by rw [hv.out]; exact bandL_at hc⟩, hb⟩
    · have hz1 : (E4 == 0) = false := by simp [hz]
      have HZ := Lib.hid hz
      clear hz
      have hv : Hid (L4 = []) := by show _ = _; rw [HL4.out]; unfold bandsE; rw [if_neg HZ.out]
      go_wp2
      go_meet
      exact ⟨⟨none, 0, 0, rfl, by omega, by rw [hv.out]; exact ⟨rfl, fun h => absurd h (by omega)⟩⟩, Below.refl _ _⟩
  case rest =>
  obtain ⟨hcv, hbc⟩ := hcut
  have hb := hbc.out
  obtain ⟨wg, hwg⟩ : ∃ W, W = wc := ⟨_, rfl⟩
  rw [← hwg] at hb ⊢
  obtain ⟨A5, n5, c5, rfl, hn5, hI5⟩ := hcv.out
  rw [← hwg] at hI5
  have I5 := Lib.hid hI5
  have N5 := Lib.hid hn5
  clear hcv hI5 hn5
  clear hbc hwg
  replace HB := Lib.hid (HB.out.trans (hb.mono HB.out.size))
  replace TT := Lib.hid (TT.out.below hb)
  replace X := Lib.hid (X.out.below hb)
  replace U := Lib.hid (U.out.keep hb)
  replace F := Lib.hid (F.out.keep hb)
  replace TB := Lib.hid (TB.out.keep hb)
  replace HT := Lib.hid (HT.out.keep hb)
  replace I4 := Lib.hid (I4.out.keep hb)
  clear hb
  go_upto_region 20 with fail
  go_wp2_with (refine wpList_load_row rfl 26 _ rfl g2 rfl 26 cs (0, 0) _ TT.out Tryz.underlying26 rfl IT.out ?_)
  refine (given_ok wg HT.out HD8.out hS.out).mono ?_
  rintro e w20 ⟨cs', A1, c1, A2, c2, A3, c3, rfl, k1, hb⟩
  replace HB := Lib.hid (HB.out.trans (hb.mono HB.out.size))
  replace TT := Lib.hid (TT.out.below hb)
  replace X := Lib.hid (X.out.below hb)
  replace U := Lib.hid (U.out.keep hb)
  replace F := Lib.hid (F.out.keep hb)
  replace TB := Lib.hid (TB.out.keep hb)
  replace HT := Lib.hid (HT.out.keep hb)
  replace I4 := Lib.hid (I4.out.keep hb)
  replace I5 := Lib.hid (I5.out.keep hb)
  clear hb
  have KC := k1.check
  rw [← HBAD.out] at KC
  have KD := Lib.hid KC
  clear KC k1
  go_wp2_with fail
  refine KD.out.mono ?_
  rintro e w21 ⟨rfl, hb⟩
  replace HB := Lib.hid (HB.out.trans (hb.mono HB.out.size))
  replace TT := Lib.hid (TT.out.below hb)
  replace X := Lib.hid (X.out.below hb)
  replace U := Lib.hid (U.out.keep hb)
  replace F := Lib.hid (F.out.keep hb)
  replace TB := Lib.hid (TB.out.keep hb)
  replace HT := Lib.hid (HT.out.keep hb)
  replace I4 := Lib.hid (I4.out.keep hb)
  replace I5 := Lib.hid (I5.out.keep hb)
  clear hb
  go_wp2_with fail
  refine (sameInts_any A4 A5 n4 n5 c4 c5 L4 L4 _ (by have := N4.out; omega) (by have := N5.out; omega) I4.out I5.out).mono ?_
  rw [sameB_true rfl]
  rintro e w22 ⟨rfl, hw⟩
  obtain ⟨qq, hw⟩ := hw
  have hb : Below w21.heap.size w21 w22 := by rw [hw]; exact below_drewN' (Below.refl _ _) _
  clear hw
  replace HB := Lib.hid (HB.out.trans (hb.mono HB.out.size))
  replace U := Lib.hid (U.out.keep hb)
  replace F := Lib.hid (F.out.keep hb)
  replace TB := Lib.hid (TB.out.keep hb)
  clear hb
  go_wp2_with fail
  refine (awake2_any w22 U.out F.out TB.out).mono ?_
  rintro e wZ ⟨rfl, hb⟩
  replace HB := Lib.hid (HB.out.trans (hb.mono HB.out.size))
  clear hb
  go_wp2
  go_ret
  exact ⟨rfl, HB.out⟩
end Go.Proofs.YtmafmebcgmegeaaGreatDoor
