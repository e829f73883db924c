/- Texts Fb of the proof. -/
import Derived.Test.YtmafmebcgmegeaaGreatDoorFz25
import Derived.Test.YtmafmebcgmegeaaGreatDoorFz30
namespace Go.Proofs.YtmafmebcgmegeaaGreatDoor
open Go.RowKit Go.Sort
noncomputable def cfE (ts : List Tq) (tn : Nat) (fs : List Fl) : Int := andE (namedE ts tn) (flsE (kqTo ts tn) fs)
noncomputable def exE (ts : List Tq) (tn : Nat) (fs : List Fl) (r : Bell.Pl) : Int := andE (namedE ts tn) (firstE [flsE (kqTo ts tn) fs, placeE r.x r.y r.z])
set_option maxHeartbeats 1000000 in
set_option maxRecDepth 100000 in
theorem CheckFlights_any (A : Option Addr) (tn tc : Nat) (ts : List Tq) (FA : Option Addr) (fn fc : Nat) (fs : List Fl) (w : World) (hts : TqsAt w A tn ts) (hfs : FlsAt w FA fn fs) :
    Calls Tryz.prog 72 #[.slice A tn tc, .slice FA fn fc] w fun e w' => e = .returned (.int .i64 (cfE ts tn fs)) ∧ Below w.heap.size w w' := by
  have HFS := Lib.hid hfs; have HN := Lib.hid (named_any A tn tc ts w hts); obtain ⟨Z, hZ⟩ : ∃ z, z = cfE ts tn fs := ⟨_, rfl⟩; obtain ⟨N0, hN0⟩ : ∃ z, z = namedE ts tn := ⟨_, rfl⟩; obtain ⟨N1, hN1⟩ : ∃ z, z = flsE (kqTo ts tn) fs := ⟨_, rfl⟩; have HZ : Hid (Z = andE N0 N1) := by show _ = _; rw [hZ, hN0, hN1]; rfl
  rw [← hZ]; rw [← hN0] at HN; have HN1 := Lib.hid hN1; clear hts hfs hZ hN0 hN1
  go_enter Tryz.func72, Tryz.ntmps72
  go_wp2_with fail
  refine HN.out.mono ?_; rintro e w1 ⟨v, rfl, hk, hb⟩; have HB := Lib.hid hb
  by_cases h0 : N0 = 0
  · subst h0; obtain ⟨mb, rfl, hkn⟩ := hk rfl; have HKN := Lib.hid hkn; have hv : Hid (Z = N1) := by show _ = _; rw [HZ.out, andE_0 rfl]
    clear hk hkn hb HN
    go_wp2_with fail
    refine (checkListed_any FA fn fc fs mb (kqTo ts tn) w1 (HFS.out.keep HB.out) HKN.out).mono ?_; rw [← HN1.out, ← hv.out]; rintro e w2 ⟨rfl, hb⟩; replace HB := Lib.hid (HB.out.trans (hb.mono HB.out.size)); clear hb; go_wp2; go_ret; exact ⟨rfl, HB.out⟩
  · have hv : Hid (Z = N0) := by show _ = _; rw [HZ.out, andE_n h0]
    clear hk hb HN; go_wp2; go_ret; exact ⟨ret_int hv.out.symm, HB.out⟩
set_option maxHeartbeats 1000000 in
set_option maxRecDepth 100000 in
theorem exposed_err (A : Option Addr) (tn tc : Nat) (ts : List Tq) (FA : Option Addr) (fn fc : Nat) (fs : List Fl) (r : Bell.Pl) (w : World) (hts : TqsAt w A tn ts) (hfs : FlsAt w FA fn fs) (hz : exE ts tn fs r ≠ 0) :
    Calls Tryz.prog 139 #[.slice A tn tc, .slice FA fn fc, .agg (plV r)] w fun e w' => e = .returned (.tuple #[.slice none 0 0, .int .i64 (exE ts tn fs r)]) ∧ Below w.heap.size w w' := by
  have HFS := Lib.hid hfs; have HN := Lib.hid (fun W (hb : Below w.heap.size w W) => named_any A tn tc ts W (hts.keep hb)); have HP := Lib.hid (fun W => checkPlace_any r.x r.y r.z W); obtain ⟨Z, hZ⟩ : ∃ z, z = exE ts tn fs r := ⟨_, rfl⟩; obtain ⟨N0, hN0⟩ : ∃ z, z = namedE ts tn := ⟨_, rfl⟩; obtain ⟨N1, hN1⟩ : ∃ z, z = flsE (kqTo ts tn) fs := ⟨_, rfl⟩; obtain ⟨N2, hN2⟩ : ∃ z, z = placeE r.x r.y r.z := ⟨_, rfl⟩; obtain ⟨N3, hN3⟩ : ∃ z, z = firstE [N1, N2] := ⟨_, rfl⟩; have HZ : Hid (Z = andE N0 N3) := by show _ = _; rw [hZ, hN3, hN0, hN1, hN2]; rfl
  rw [← hZ] at hz ⊢; rw [← hN0] at HN; rw [← hN2] at HP; have HN1 := Lib.hid hN1; have HN3 := Lib.hid hN3; have HNZ := Lib.hid hz; unfold plV; clear hts hfs hZ hN0 hN1 hN2 hN3 hz
  go_enter Tryz.func139, Tryz.ntmps139
  go_upto_region 1 with fail
  obtain ⟨w1, hw1⟩ : ∃ W, W = (w.alloc (.cells #[.int .i64 r.x, .int .i64 r.y, .int .i64 r.z] 28)) := ⟨_, rfl⟩; rw [← hw1]; have B5 : Hid (Blk w1 (w.heap.size) 28 #[.int .i64 r.x, .int .i64 r.y, .int .i64 r.z]) := by show Blk _ _ _ _; rw [hw1]; exact Blk.new _ _ _
  have hb1 : Below w.heap.size w w1 := by rw [hw1]; exact ((Below.refl _ _).alloc (Nat.le_refl _) _)
  obtain ⟨g5, hg5⟩ : ∃ g, g = w.heap.size := ⟨_, rfl⟩; have HGw1 : Hid (g5 = w.heap.size) := hg5; rw [← hg5] at B5
  try rw [← hg5]
  clear hw1 hg5; have HB : Hid (Below w.heap.size w w1) := hb1; clear hb1
  go_wp2_with fail
  refine (HN.out w1 HB.out).mono ?_; rintro e w2 ⟨v, rfl, hk, hb⟩
  by_cases h0 : N0 = 0
  · subst h0; obtain ⟨mb, rfl, hkn⟩ := hk rfl; have HKN := Lib.hid hkn; have hv : Hid (Z = N3) := by show _ = _; rw [HZ.out, andE_0 rfl]
    have hz3 : Hid (N3 ≠ 0) := by show _ ≠ _; rw [← hv.out]; exact HNZ.out
    replace HB := Lib.hid (HB.out.trans (hb.mono HB.out.size)); replace B5 := Lib.hid (B5.out.below hb); clear hb; clear hk hkn HN HNZ HZ
    go_upto_region 2 with fail
    obtain ⟨w3, hw3⟩ : ∃ W, W = (w2.alloc (.cells #[.map (some mb)] 219)) := ⟨_, rfl⟩; rw [← hw3]; have B8 : Hid (Blk w3 (w2.heap.size) 219 #[.map (some mb)]) := by show Blk _ _ _ _; rw [hw3]; exact Blk.new _ _ _
    have hb3 : Below w2.heap.size w2 w3 := by rw [hw3]; exact ((Below.refl _ _).alloc (Nat.le_refl _) _)
    obtain ⟨g8, hg8⟩ : ∃ g, g = w2.heap.size := ⟨_, rfl⟩; have HGw3 : Hid (g8 = w2.heap.size) := hg8; rw [← hg8] at B8
    try rw [← hg8]
    clear hw3 hg8; replace HB := Lib.hid (HB.out.trans (hb3.mono HB.out.size)); replace B5 := Lib.hid (B5.out.below hb3); replace HKN := Lib.hid (HKN.out.keep hb3); clear hb3
    go_upto_region 4 with fail
    have HC := Lib.hid (fun (W : World) (hb : Below w3.heap.size w3 W) => by
      have := checkListed_any FA fn fc fs mb (kqTo ts tn) W (HFS.out.keep (HB.out.trans (hb.mono HB.out.size))) (HKN.out.keep hb)
      rwa [← HN1.out] at this)
    refine wp_region_grow 5 (by kernel_rfl) (by kernel_rfl) [GR.eq (.map (some mb)), GR.eq (.slice FA fn fc), GR.eq (.int .i64 N1), GR.eq (.agg #[.int .i64 r.x, .int .i64 r.y, .int .i64 r.z]), GR.eq (.int .i64 N2)] 34 rfl (by kernel_rfl) ?_ ?_
    · refine ⟨?_, ?_, ?_, ?_, ?_, trivial⟩
      · intro a W hE hd ho; have e8 : a.tmps[8]?.getD undef = .pointer (some ⟨g8, 0, none⟩) := ho 8 (by kernel_rfl); have C := (B8.out.below hE); have k0 := C.cell 0; simp only [List.getElem?_toArray, List.getElem?_cons_zero] at k0; exact gs_same (v := .map (some mb)) (by go_simp) rfl
      · intro a W hE hd ho; have e1 : a.tmps[1]?.getD undef = .slice FA fn fc := ho 1 (by kernel_rfl); exact gs_same (v := .slice FA fn fc) (by go_simp) rfl
      · intro a W hE hd ho; have e20 : a.tmps[20]?.getD undef = .map (some mb) := hd 0 20 (by kernel_rfl) (by kernel_rfl); have e21 : a.tmps[21]?.getD undef = .slice FA fn fc := hd 1 21 (by kernel_rfl) (by kernel_rfl); refine gs_call (f := 146) (args := #[.map (some mb), .slice FA fn fc]) (by go_simp) ?_; refine (HC.out W hE).mono ?_; rintro e w' ⟨rfl, hb⟩; exact ⟨_, rfl, hb, rfl⟩
      · intro a W hE hd ho; have e5 : a.tmps[5]?.getD undef = .pointer (some ⟨g5, 0, none⟩) := ho 5 (by kernel_rfl); have C := (B5.out.below hE); have k0 := C.cell 0; have k1 := C.cell 1; have k2 := C.cell 2; simp only [List.getElem?_toArray, List.getElem?_cons_zero, List.getElem?_cons_succ] at k0 k1 k2; exact gs_same (v := .agg #[.int .i64 r.x, .int .i64 r.y, .int .i64 r.z]) (by go_simp) rfl
      · intro a W hE hd ho; have e23 : a.tmps[23]?.getD undef = .agg #[.int .i64 r.x, .int .i64 r.y, .int .i64 r.z] := hd 3 23 (by kernel_rfl) (by kernel_rfl); refine gs_call (f := 94) (args := #[.agg #[.int .i64 r.x, .int .i64 r.y, .int .i64 r.z]]) (by go_simp) ?_; refine (HP.out W).mono ?_; rintro e w' ⟨rfl, hb⟩; exact ⟨_, rfl, hb, rfl⟩
    intro vs w4 hE hR; have y0 : vs 0 = .map (some mb) := hR 0 (by omega); have y1 : vs 1 = .slice FA fn fc := hR 1 (by omega); have y2 : vs 2 = .int .i64 N1 := hR 2 (by omega); have y3 : vs 3 = .agg #[.int .i64 r.x, .int .i64 r.y, .int .i64 r.z] := hR 3 (by omega); have y4 : vs 4 = .int .i64 N2 := hR 4 (by omega); simp only [List.range, List.range.loop, List.foldl_cons, List.foldl_nil, y0, y1, y2, y3, y4, List.drop_succ_cons, List.drop_zero]; simp only [dstAt, List.getElem?_toArray, List.getElem?_cons_zero, List.getElem?_cons_succ, Option.bind_some, Act.put, List.setIfInBounds_toArray, List.set_cons_zero, List.set_cons_succ]; clear y0 y1 y2 y3 y4 hR; have HE2 := hE; replace HB := Lib.hid (HB.out.trans (HE2.mono HB.out.size)); clear HE2; clear hE HC HP
    go_wp2_with fail
    obtain ⟨w5, hw5⟩ : ∃ W, W = (w4.alloc (.cells #[.int .i64 N1, .int .i64 N2] 37)) := ⟨_, rfl⟩; rw [← hw5]; have ES : Hid (Blk w5 (w4.heap.size) 37 #[.int .i64 N1, .int .i64 N2]) := by show Blk _ _ _ _; rw [hw5]; exact Blk.new _ _ _
    have hb5 : Below w4.heap.size w4 w5 := by rw [hw5]; exact ((Below.refl _ _).alloc (Nat.le_refl _) _)
    obtain ⟨ge, hge⟩ : ∃ g, g = w4.heap.size := ⟨_, rfl⟩; have HGw5 : Hid (ge = w4.heap.size) := hge; rw [← hge] at ES
    try rw [← hge]
    clear hw5 hge; replace HB := Lib.hid (HB.out.trans (hb5.mono HB.out.size)); clear hb5; refine (first2 _ _ N1 N2 _ (ES.out.cell 0) (ES.out.cell 1)).mono ?_; rw [← HN3.out]; rintro e w6 ⟨rfl, rfl⟩; clear ES; have hz4 := hz3.out; go_wp2
    (try simp only [Exit.inBlock, Exit.then])
    refine bodyPost_ret (v := .tuple #[.slice none 0 0, .int .i64 N3]) (by simp [results, Tryz.results139, go_sem, asAddr]) rfl ?_; exact ⟨by rw [hv.out], HB.out⟩
  · have hv : Hid (Z = N0) := by show _ = _; rw [HZ.out, andE_n h0]
    replace HB := Lib.hid (HB.out.trans (hb.mono HB.out.size)); clear hb; clear hk HN HNZ HZ
    go_upto_region 2 with fail
    obtain ⟨w3, hw3⟩ : ∃ W, W = (w2.alloc (.cells #[.map v] 219)) := ⟨_, rfl⟩; rw [← hw3]; have B8 : Hid (Blk w3 (w2.heap.size) 219 #[.map v]) := by show Blk _ _ _ _; rw [hw3]; exact Blk.new _ _ _
    have hb3 : Below w2.heap.size w2 w3 := by rw [hw3]; exact ((Below.refl _ _).alloc (Nat.le_refl _) _)
    obtain ⟨g8, hg8⟩ : ∃ g, g = w2.heap.size := ⟨_, rfl⟩; have HGw3 : Hid (g8 = w2.heap.size) := hg8; rw [← hg8] at B8
    try rw [← hg8]
    clear hw3 hg8; replace HB := Lib.hid (HB.out.trans (hb3.mono HB.out.size)); clear hb3; go_wp2
    (try simp only [Exit.inBlock, Exit.then])
    refine bodyPost_ret (v := .tuple #[.slice none 0 0, .int .i64 N0]) (by simp [results, Tryz.results139, go_sem, asAddr]) rfl ?_; exact ⟨by rw [hv.out], HB.out⟩
set_option maxHeartbeats 1000000 in
set_option maxRecDepth 100000 in
theorem Total_err (A : Option Addr) (tn tc : Nat) (ts : List Tq) (FA : Option Addr) (fn fc : Nat) (fs : List Fl) (r : Bell.Pl) (w : World) (hts : TqsAt w A tn ts) (hfs : FlsAt w FA fn fs) (hz : exE ts tn fs r ≠ 0) :
    Calls Tryz.prog 63 #[.slice A tn tc, .slice FA fn fc, .agg (plV r)] w fun e w' => e = .returned (.tuple #[.int .i64 0, .int .i64 (exE ts tn fs r)]) ∧ Below w.heap.size w w' := by
  have HX := Lib.hid (fun W (hb : Below w.heap.size w W) => exposed_err A tn tc ts FA fn fc fs r W (hts.keep hb) (hfs.keep hb) hz); obtain ⟨Z, hZ⟩ : ∃ z, z = exE ts tn fs r := ⟨_, rfl⟩; rw [← hZ] at hz HX ⊢; unfold plV at HX ⊢; clear hts hfs hZ
  go_enter Tryz.func63, Tryz.ntmps63
  go_upto_region 1 with fail
  obtain ⟨w1, hw1⟩ : ∃ W, W = (w.alloc (.cells #[.int .i64 r.x, .int .i64 r.y, .int .i64 r.z] 28)) := ⟨_, rfl⟩; rw [← hw1]; have B5 : Hid (Blk w1 (w.heap.size) 28 #[.int .i64 r.x, .int .i64 r.y, .int .i64 r.z]) := by show Blk _ _ _ _; rw [hw1]; exact Blk.new _ _ _
  have hb1 : Below w.heap.size w w1 := by rw [hw1]; exact ((Below.refl _ _).alloc (Nat.le_refl _) _)
  obtain ⟨g5, hg5⟩ : ∃ g, g = w.heap.size := ⟨_, rfl⟩; have HGw1 : Hid (g5 = w.heap.size) := hg5; rw [← hg5] at B5
  try rw [← hg5]
  clear hw1 hg5; have HB : Hid (Below w.heap.size w w1) := hb1; have BB := B5.out; have zc0 := BB.cell 0; have zf0 := BB.frozen 0; have zc1 := BB.cell 1; have zf1 := BB.frozen 1; have zc2 := BB.cell 2; have zf2 := BB.frozen 2; simp only [List.getElem?_toArray, List.getElem?_cons_zero, List.getElem?_cons_succ] at zc0 zc1 zc2; clear BB; clear hb1
  go_wp2_with fail
  refine (HX.out w1 HB.out).mono ?_; rintro e w2 ⟨rfl, hb⟩; replace HB := Lib.hid (HB.out.trans (hb.mono HB.out.size)); clear hb; clear zc0 zc1 zc2 zf0 zf1 zf2 HX B5; go_wp2
  (try simp only [Exit.inBlock, Exit.then])
  refine bodyPost_ret (v := .tuple #[.int .i64 0, .int .i64 Z]) (by simp [results, Tryz.results63, go_sem, asAddr]) rfl ?_; exact ⟨rfl, HB.out⟩
set_option maxHeartbeats 1000000 in
set_option maxRecDepth 100000 in
theorem Parts_err (A : Option Addr) (tn tc : Nat) (ts : List Tq) (FA : Option Addr) (fn fc : Nat) (fs : List Fl) (r : Bell.Pl) (w : World) (hts : TqsAt w A tn ts) (hfs : FlsAt w FA fn fs) (hz : exE ts tn fs r ≠ 0) :
    Calls Tryz.prog 66 #[.slice A tn tc, .slice FA fn fc, .agg (plV r)] w fun e w' => e = .returned (.tuple #[.slice none 0 0, .int .i64 (exE ts tn fs r)]) ∧ Below w.heap.size w w' := by
  have HX := Lib.hid (fun W (hb : Below w.heap.size w W) => exposed_err A tn tc ts FA fn fc fs r W (hts.keep hb) (hfs.keep hb) hz); obtain ⟨Z, hZ⟩ : ∃ z, z = exE ts tn fs r := ⟨_, rfl⟩; rw [← hZ] at hz HX ⊢; unfold plV at HX ⊢; clear hts hfs hZ
  go_enter Tryz.func66, Tryz.ntmps66
  go_upto_region 1 with fail
  obtain ⟨w1, hw1⟩ : ∃ W, W = (w.alloc (.cells #[.int .i64 r.x, .int .i64 r.y, .int .i64 r.z] 28)) := ⟨_, rfl⟩; rw [← hw1]; have B5 : Hid (Blk w1 (w.heap.size) 28 #[.int .i64 r.x, .int .i64 r.y, .int .i64 r.z]) := by show Blk _ _ _ _; rw [hw1]; exact Blk.new _ _ _
  have hb1 : Below w.heap.size w w1 := by rw [hw1]; exact ((Below.refl _ _).alloc (Nat.le_refl _) _)
  obtain ⟨g5, hg5⟩ : ∃ g, g = w.heap.size := ⟨_, rfl⟩; have HGw1 : Hid (g5 = w.heap.size) := hg5; rw [← hg5] at B5
  try rw [← hg5]
  clear hw1 hg5; have HB : Hid (Below w.heap.size w w1) := hb1; have BB := B5.out; have zc0 := BB.cell 0; have zf0 := BB.frozen 0; have zc1 := BB.cell 1; have zf1 := BB.frozen 1; have zc2 := BB.cell 2; have zf2 := BB.frozen 2; simp only [List.getElem?_toArray, List.getElem?_cons_zero, List.getElem?_cons_succ] at zc0 zc1 zc2; clear BB; clear hb1
  go_wp2_with fail
  refine (HX.out w1 HB.out).mono ?_; rintro e w2 ⟨rfl, hb⟩; replace HB := Lib.hid (HB.out.trans (hb.mono HB.out.size)); clear hb; clear zc0 zc1 zc2 zf0 zf1 zf2 HX B5; go_wp2
  (try simp only [Exit.inBlock, Exit.then])
  refine bodyPost_ret (v := .tuple #[.slice none 0 0, .int .i64 Z]) (by simp [results, Tryz.results66, go_sem, asAddr]) rfl ?_; exact ⟨rfl, HB.out⟩
set_option maxHeartbeats 1000000 in
set_option maxRecDepth 100000 in
theorem Loudest_err (A : Option Addr) (tn tc : Nat) (ts : List Tq) (FA : Option Addr) (fn fc : Nat) (fs : List Fl) (r : Bell.Pl) (w : World) (hts : TqsAt w A tn ts) (hfs : FlsAt w FA fn fs) (hz : exE ts tn fs r ≠ 0) :
    Calls Tryz.prog 67 #[.slice A tn tc, .slice FA fn fc, .agg (plV r)] w fun e w' => e = .returned (.tuple #[.string ⟨#[]⟩, .int .i64 (exE ts tn fs r)]) ∧ Below w.heap.size w w' := by
  have HX := Lib.hid (fun W (hb : Below w.heap.size w W) => exposed_err A tn tc ts FA fn fc fs r W (hts.keep hb) (hfs.keep hb) hz); obtain ⟨Z, hZ⟩ : ∃ z, z = exE ts tn fs r := ⟨_, rfl⟩; rw [← hZ] at hz HX ⊢; unfold plV at HX ⊢; clear hts hfs hZ
  go_enter Tryz.func67, Tryz.ntmps67
  go_upto_region 1 with fail
  obtain ⟨w1, hw1⟩ : ∃ W, W = (w.alloc (.cells #[.int .i64 r.x, .int .i64 r.y, .int .i64 r.z] 28)) := ⟨_, rfl⟩; rw [← hw1]; have B5 : Hid (Blk w1 (w.heap.size) 28 #[.int .i64 r.x, .int .i64 r.y, .int .i64 r.z]) := by show Blk _ _ _ _; rw [hw1]; exact Blk.new _ _ _
  have hb1 : Below w.heap.size w w1 := by rw [hw1]; exact ((Below.refl _ _).alloc (Nat.le_refl _) _)
  obtain ⟨g5, hg5⟩ : ∃ g, g = w.heap.size := ⟨_, rfl⟩; have HGw1 : Hid (g5 = w.heap.size) := hg5; rw [← hg5] at B5
  try rw [← hg5]
  clear hw1 hg5; have HB : Hid (Below w.heap.size w w1) := hb1; have BB := B5.out; have zc0 := BB.cell 0; have zf0 := BB.frozen 0; have zc1 := BB.cell 1; have zf1 := BB.frozen 1; have zc2 := BB.cell 2; have zf2 := BB.frozen 2; simp only [List.getElem?_toArray, List.getElem?_cons_zero, List.getElem?_cons_succ] at zc0 zc1 zc2; clear BB; clear hb1
  go_wp2_with fail
  refine (HX.out w1 HB.out).mono ?_; rintro e w2 ⟨rfl, hb⟩; replace HB := Lib.hid (HB.out.trans (hb.mono HB.out.size)); clear hb; clear zc0 zc1 zc2 zf0 zf1 zf2 HX B5; go_wp2
  (try simp only [Exit.inBlock, Exit.then])
  refine bodyPost_ret (v := .tuple #[.string ⟨#[]⟩, .int .i64 Z]) (by simp [results, Tryz.results67, go_sem, asAddr]) rfl ?_; exact ⟨rfl, HB.out⟩
end Go.Proofs.YtmafmebcgmegeaaGreatDoor
