/- Texts Wb Wc Ql Qn Qp of the proof. -/
import Derived.Test.YtmafmebcgmegeaaGreatDoorWy36
import Derived.Test.YtmafmebcgmegeaaGreatDoorWy24
import Derived.Test.YtmafmebcgmegeaaGreatDoorWy25
import Derived.BigQuiet
import Derived.Test.YtmafmebcgmegeaaGreatDoorWy23
import Derived.Test.YtmafmebcgmegeaaGreatDoorWy18
namespace Go.Proofs.YtmafmebcgmegeaaGreatDoor
open Go.RowKit Go.Sort
/-- Any type that a law hands on: its cells, and sizes that fit. -/
structure TyAny (w : World) (cs : Array Value) (nm : ByteArray) (sh : List Int) (T : Bell.Ty) (sa : Option Addr) (sn sc : Nat) (qa : Option Addr) (qn qc : Nat) (ga : Option Addr) (gn gc : Nat) : Prop where
  rty : RTy w cs nm sh T sa sn sc qa qn qc ga gn gc
  d8 : T.direct.length = 8
  nsz : nm.size ≤ 140737488351232
  ssz : sn ≤ 140737488351232
  qsz : qn ≤ 140737488351232
  cap : qn ≤ qc ∧ qc ≤ 9223372036854775807
  esz : ∀ k, k < gn → ((T.sets.getD k (0, [])).2).length ≤ 140737488351232
theorem TyAny.keep {w w' : World} {cs : Array Value} {nm : ByteArray} {sh : List Int} {T : Bell.Ty} {sa : Option Addr} {sn sc : Nat} {qa : Option Addr} {qn qc : Nat} {ga : Option Addr} {gn gc : Nat} (h : TyAny w cs nm sh T sa sn sc qa qn qc ga gn gc) (hb : Below w.heap.size w w') : TyAny w' cs nm sh T sa sn sc qa qn qc ga gn gc :=
  ⟨h.rty.keep hb, h.d8, h.nsz, h.ssz, h.qsz, h.cap, h.esz⟩
theorem TyAny.info {w : World} {cs : Array Value} {nm : ByteArray} {sh : List Int} {T : Bell.Ty} {sa : Option Addr} {sn sc : Nat} {qa : Option Addr} {qn qc : Nat} {ga : Option Addr} {gn gc : Nat} (h : TyAny w cs nm sh T sa sn sc qa qn qc ga gn gc) : (Tryz.prog.info? 42).map (·.size) = some cs.size := by rw [h.rty.cells]; kernel_rfl
theorem TyAny.check {w : World} {cs : Array Value} {nm : ByteArray} {sh : List Int} {T : Bell.Ty} {sa : Option Addr} {sn sc : Nat} {qa : Option Addr} {qn qc : Nat} {ga : Option Addr} {gn gc : Nat} (h : TyAny w cs nm sh T sa sn sc qa qn qc ga gn gc) :
    Calls Tryz.prog 32 #[.agg cs] w fun e w' => e = .returned (.int .i64 (Bell.tyE (nameE nm) sh T)) ∧ Below w.heap.size w w' :=
  CheckType_any w h.rty h.d8 h.nsz h.ssz h.qsz h.cap h.esz
theorem nameE_zero {s : ByteArray} (h : nameE s = 0) : nameB s = true := by
  unfold nameE at h
  split at h
  · assumption
  · omega
theorem tyE_split {e : Int} {sh : List Int} {T : Bell.Ty} (h : Bell.tyE e sh T = 0) : e = 0 ∧ Bell.tyE 0 sh T = 0 := by
  have h1 := h
  unfold Bell.tyE at h1
  rw [Bell.thenE_zero, Bell.firstE_zero] at h1
  obtain rfl := h1.1 e (by simp)
  exact ⟨rfl, h⟩
theorem TyAny.ok {w : World} {cs : Array Value} {nm : ByteArray} {sh : List Int} {T : Bell.Ty} {sa : Option Addr} {sn sc : Nat} {qa : Option Addr} {qn qc : Nat} {ga : Option Addr} {gn gc : Nat} (h : TyAny w cs nm sh T sa sn sc qa qn qc ga gn gc) (h0 : Bell.tyE (nameE nm) sh T = 0) : ∃ qb qo gb go, qa = some ⟨qb, qo, none⟩ ∧ ga = some ⟨gb, go, none⟩ ∧ TyOk w cs nm sh T sa sn sc qb qo qn qc gb go gn gc := by
  obtain ⟨e1, e2⟩ := tyE_split h0
  have hG : GoodT sh T := ⟨h.d8, e2⟩
  obtain ⟨⟨c1, c2⟩, c3, c4⟩ := hG.cnt
  obtain ⟨qb, qo, rfl, hq⟩ := h.rty.squares.2 (by rw [← h.rty.squares.1]; exact c3)
  obtain ⟨gb, go, rfl, hs⟩ := h.rty.sets.2 (by rw [← h.rty.sets.1]; exact c1)
  exact ⟨qb, qo, gb, go, rfl, rfl, ⟨h.rty.cells, h.rty.shares, h.rty.squares, hs⟩, hG, nameE_zero e1, h.nsz, h.cap⟩
set_option maxHeartbeats 4000000 in
set_option maxRecDepth 100000 in
theorem Emission_err {cs : Array Value} {nm : ByteArray} {sh : List Int} {T : Bell.Ty} {sa : Option Addr} {sn sc : Nat} {qa : Option Addr} {qn qc : Nat} {ga : Option Addr} {gn gc : Nat} (p q : Int) (w : World) (hT : TyAny w cs nm sh T sa sn sc qa qn qc ga gn gc) (hz : firstE [Bell.tyE (nameE nm) sh T, withinE p 1 100, withinE q 0 100000000000] ≠ 0) :
    Calls Tryz.prog 15 #[.agg cs, .int .i64 p, .int .i64 q] w fun e w' => e = .returned (.tuple #[.int .i64 0, .int .i64 (firstE [Bell.tyE (nameE nm) sh T, withinE p 1 100, withinE q 0 100000000000])]) ∧ Below w.heap.size w w' := by
  have HO := Lib.hid hT
  have IT := Lib.hid hT.info
  obtain ⟨N0, hN0⟩ : ∃ x, x = Bell.tyE (nameE nm) sh T := ⟨_, rfl⟩
  obtain ⟨N1, hN1⟩ : ∃ x, x = withinE p 1 100 := ⟨_, rfl⟩
  obtain ⟨N2, hN2⟩ : ∃ x, x = withinE q 0 100000000000 := ⟨_, rfl⟩
  rw [← hN0, ← hN1, ← hN2] at hz ⊢
  obtain ⟨Z, hZ⟩ : ∃ x, x = firstE [N0, N1, N2] := ⟨_, rfl⟩
  rw [← hZ] at hz ⊢
  have HP0 := Lib.hid hN0; have HP1 := Lib.hid hN1; have HP2 := Lib.hid hN2; have HZ := Lib.hid hZ
  clear hT hN0 hN1 hN2 hZ
  go_enter Tryz.func15, Tryz.ntmps15
  go_upto_region 1 with fail
  obtain ⟨w1, hw1⟩ : ∃ W, W = (w.alloc (.cells cs 42)) := ⟨_, rfl⟩
  rw [← hw1]
  have B3 : Hid (Blk w1 (w.heap.size) 42 cs) := by show Blk _ _ _ _; rw [hw1]; exact Blk.new _ _ _
  have hb1 : Below w.heap.size w w1 := by rw [hw1]; exact ((Below.refl _ _).alloc (Nat.le_refl _) _)
  obtain ⟨g3, hg3⟩ : ∃ g, g = w.heap.size := ⟨_, rfl⟩
  have HGw1 : Hid (g3 = w.heap.size) := hg3
  rw [← hg3] at B3
  try rw [← hg3]
  clear hw1 hg3
  have HB : Hid (Below w.heap.size w w1) := hb1
  clear hb1
  go_wp2_with (refine wpList_load_row rfl 42 _ rfl g3 rfl 42 cs (0, 0) _ B3.out Tryz.underlying42 rfl IT.out ?_)
  refine (HO.out.keep HB.out).check.mono ?_
  rw [← HP0.out]
  rintro e w2 ⟨rfl, hb⟩
  replace HB := Lib.hid (HB.out.trans (hb.mono HB.out.size))
  replace B3 := Lib.hid (B3.out.below hb)
  clear hb
  go_wp2_with fail
  refine (srcPower_st p w2).mono ?_
  rw [← HP1.out]
  rintro e w3 ⟨rfl, rfl⟩
  go_wp2_with fail
  refine (srcSquare_st q w3).mono ?_
  rw [← HP2.out]
  rintro e w4 ⟨rfl, rfl⟩
  go_wp2_with fail
  obtain ⟨w5, hw5⟩ : ∃ W, W = (w4.alloc (.cells #[.int .i64 N0, .int .i64 N1, .int .i64 N2] 37)) := ⟨_, rfl⟩
  rw [← hw5]
  have ES : Hid (Blk w5 (w4.heap.size) 37 #[.int .i64 N0, .int .i64 N1, .int .i64 N2]) := by show Blk _ _ _ _; rw [hw5]; exact Blk.new _ _ _
  have hb5 : Below w4.heap.size w4 w5 := by rw [hw5]; exact ((Below.refl _ _).alloc (Nat.le_refl _) _)
  obtain ⟨ge, hge⟩ : ∃ g, g = w4.heap.size := ⟨_, rfl⟩
  have HGw5 : Hid (ge = w4.heap.size) := hge
  rw [← hge] at ES
  try rw [← hge]
  clear hw5 hge
  replace HB := Lib.hid (HB.out.trans (hb5.mono HB.out.size))
  replace B3 := Lib.hid (B3.out.below hb5)
  clear hb5
  refine (first3 _ _ N0 N1 N2 _ (ES.out.cell 0) (ES.out.cell 1) (ES.out.cell 2)).mono ?_
  rw [← HZ.out]
  rintro e w6 ⟨rfl, rfl⟩
  clear ES
  go_wp2
  (try simp only [Exit.inBlock, Exit.then])
  refine bodyPost_ret (v := .tuple #[.int .i64 0, .int .i64 Z]) (by simp [results, Tryz.results15, go_sem, asAddr]) rfl ?_
  exact ⟨rfl, HB.out⟩
theorem Emission_any {cs : Array Value} {nm : ByteArray} {sh : List Int} {T : Bell.Ty} {sa : Option Addr} {sn sc : Nat} {qa : Option Addr} {qn qc : Nat} {ga : Option Addr} {gn gc : Nat} (p q : Int) (w : World) (hT : TyAny w cs nm sh T sa sn sc qa qn qc ga gn gc) :
    Calls Tryz.prog 15 #[.agg cs, .int .i64 p, .int .i64 q] w fun e w' => e = .returned (.tuple #[.int .i64 (if firstE [Bell.tyE (nameE nm) sh T, withinE p 1 100, withinE q 0 100000000000] = 0 then Bell.emis T.sets (Bell.reachOf T.squares q) p else 0), .int .i64 (firstE [Bell.tyE (nameE nm) sh T, withinE p 1 100, withinE q 0 100000000000])]) ∧ Below w.heap.size w w' := by
  by_cases hz : firstE [Bell.tyE (nameE nm) sh T, withinE p 1 100, withinE q 0 100000000000] = 0
  · obtain ⟨h1, h2, h3⟩ := firstE3_zero hz
    obtain ⟨qb, qo, gb, go, rfl, rfl, hk⟩ := hT.ok h1
    rw [if_pos hz, hz]
    exact Emission_ok p q w hk (withinE_zero h2) (withinE_zero h3)
  · rw [if_neg hz]
    exact Emission_err p q w hT hz
set_option maxHeartbeats 4000000 in
set_option maxRecDepth 100000 in
theorem Sector_err (hx hy x y : Int) (w : World) (hz : firstE [dirE hx hy, dirE x y] ≠ 0) :
    Calls Tryz.prog 17 #[.agg #[.int .i64 hx, .int .i64 hy], .agg #[.int .i64 x, .int .i64 y]] w fun e w' => e = .returned (.tuple #[.int .i64 0, .int .i64 (firstE [dirE hx hy, dirE x y])]) ∧ Below w.heap.size w w' := by
  have HD1 := Lib.hid (fun W => checkDirection_any hx hy W)
  have HD2 := Lib.hid (fun W => checkDirection_any x y W)
  obtain ⟨N1, hN1⟩ : ∃ z, z = dirE hx hy := ⟨_, rfl⟩
  obtain ⟨N2, hN2⟩ : ∃ z, z = dirE x y := ⟨_, rfl⟩
  rw [← hN1] at HD1
  rw [← hN2] at HD2
  rw [← hN1, ← hN2] at hz ⊢
  obtain ⟨Z, hZ⟩ : ∃ z, z = firstE [N1, N2] := ⟨_, rfl⟩
  rw [← hZ] at hz ⊢
  have HZ := Lib.hid hZ
  clear hN1 hN2 hZ
  go_enter Tryz.func17, Tryz.ntmps17
  go_upto_region 1 with fail
  obtain ⟨w1, hw1⟩ : ∃ W, W = ((w.alloc (.cells #[.int .i64 hx, .int .i64 hy] 30)).alloc (.cells #[.int .i64 x, .int .i64 y] 30)) := ⟨_, rfl⟩
  rw [← hw1]
  have B2 : Hid (Blk w1 (w.heap.size) 30 #[.int .i64 hx, .int .i64 hy]) := by show Blk _ _ _ _; rw [hw1]; exact (Blk.new _ _ _).alloc _
  have B3 : Hid (Blk w1 (w.heap.size + 1) 30 #[.int .i64 x, .int .i64 y]) := by show Blk _ _ _ _; rw [hw1]; exact Blk.at_size _ _ (by simp)
  have hb1 : Below w.heap.size w w1 := by rw [hw1]; exact (((Below.refl _ _).alloc (Nat.le_refl _) _).alloc (by simp) _)
  obtain ⟨g2, hg2⟩ : ∃ g, g = w.heap.size := ⟨_, rfl⟩
  obtain ⟨g3, hg3⟩ : ∃ g, g = w.heap.size + 1 := ⟨_, rfl⟩
  have HGw1 : Hid (g2 = w.heap.size ∧ g3 = w.heap.size + 1) := ⟨hg2, hg3⟩
  rw [← hg3] at B3
  try rw [← hg3]
  rw [← hg2] at B2
  try rw [← hg2]
  clear hw1 hg2 hg3
  have HB : Hid (Below w.heap.size w w1) := hb1
  clear hb1
  refine wp_region_grow 4 (by kernel_rfl) (by kernel_rfl) [GR.eq (.agg #[.int .i64 hx, .int .i64 hy]), GR.eq (.int .i64 N1), GR.eq (.agg #[.int .i64 x, .int .i64 y]), GR.eq (.int .i64 N2)] 19 rfl (by kernel_rfl) ?_ ?_
  · refine ⟨?_, ?_, ?_, ?_, trivial⟩
    · intro a W hE hd ho
      have e2 : a.tmps[2]?.getD undef = .pointer (some ⟨g2, 0, none⟩) := ho 2 (by kernel_rfl)
      have C := (B2.out.below hE)
      have k0 := C.cell 0
      have k1 := C.cell 1
      simp only [List.getElem?_toArray, List.getElem?_cons_zero, List.getElem?_cons_succ] at k0 k1
      exact gs_same (v := .agg #[.int .i64 hx, .int .i64 hy]) (by go_simp) rfl
    · intro a W hE hd ho
      have e7 : a.tmps[7]?.getD undef = .agg #[.int .i64 hx, .int .i64 hy] := hd 0 7 (by kernel_rfl) (by kernel_rfl)
      refine gs_call (f := 91) (args := #[.agg #[.int .i64 hx, .int .i64 hy]]) (by go_simp) ?_
      refine (HD1.out W).mono ?_
      rintro e w' ⟨rfl, hb⟩
      exact ⟨_, rfl, hb, rfl⟩
    · intro a W hE hd ho
      have e3 : a.tmps[3]?.getD undef = .pointer (some ⟨g3, 0, none⟩) := ho 3 (by kernel_rfl)
      have C := (B3.out.below hE)
      have k0 := C.cell 0
      have k1 := C.cell 1
      simp only [List.getElem?_toArray, List.getElem?_cons_zero, List.getElem?_cons_succ] at k0 k1
      exact gs_same (v := .agg #[.int .i64 x, .int .i64 y]) (by go_simp) rfl
    · intro a W hE hd ho
      have e9 : a.tmps[9]?.getD undef = .agg #[.int .i64 x, .int .i64 y] := hd 2 9 (by kernel_rfl) (by kernel_rfl)
      refine gs_call (f := 91) (args := #[.agg #[.int .i64 x, .int .i64 y]]) (by go_simp) ?_
      refine (HD2.out W).mono ?_
      rintro e w' ⟨rfl, hb⟩
      exact ⟨_, rfl, hb, rfl⟩
  intro vs wq hE hR
  have y0 : vs 0 = .agg #[.int .i64 hx, .int .i64 hy] := hR 0 (by omega)
  have y1 : vs 1 = .int .i64 N1 := hR 1 (by omega)
  have y2 : vs 2 = .agg #[.int .i64 x, .int .i64 y] := hR 2 (by omega)
  have y3 : vs 3 = .int .i64 N2 := hR 3 (by omega)
  simp only [List.range, List.range.loop, List.foldl_cons, List.foldl_nil, y0, y1, y2, y3, List.drop_succ_cons, List.drop_zero]
  simp only [dstAt, List.getElem?_toArray, List.getElem?_cons_zero, List.getElem?_cons_succ, Option.bind_some, Act.put, List.setIfInBounds_toArray, List.set_cons_zero, List.set_cons_succ]
  clear y0 y1 y2 y3 hR
  have HE2 := hE
  replace HB := Lib.hid (HB.out.trans (HE2.mono HB.out.size))
  replace B2 := Lib.hid (B2.out.below HE2)
  replace B3 := Lib.hid (B3.out.below HE2)
  clear HE2
  clear hE HD1 HD2
  go_wp2_with fail
  obtain ⟨w4, hw4⟩ : ∃ W, W = (wq.alloc (.cells #[.int .i64 N1, .int .i64 N2] 37)) := ⟨_, rfl⟩
  rw [← hw4]
  have ES : Hid (Blk w4 (wq.heap.size) 37 #[.int .i64 N1, .int .i64 N2]) := by show Blk _ _ _ _; rw [hw4]; exact Blk.new _ _ _
  have hb4 : Below wq.heap.size wq w4 := by rw [hw4]; exact ((Below.refl _ _).alloc (Nat.le_refl _) _)
  obtain ⟨ge, hge⟩ : ∃ g, g = wq.heap.size := ⟨_, rfl⟩
  have HGw4 : Hid (ge = wq.heap.size) := hge
  rw [← hge] at ES
  try rw [← hge]
  clear hw4 hge
  replace HB := Lib.hid (HB.out.trans (hb4.mono HB.out.size))
  replace B2 := Lib.hid (B2.out.below hb4)
  replace B3 := Lib.hid (B3.out.below hb4)
  clear hb4
  refine (first2 _ _ N1 N2 _ (ES.out.cell 0) (ES.out.cell 1)).mono ?_
  rw [← HZ.out]
  rintro e w5 ⟨rfl, rfl⟩
  clear ES
  go_wp2
  (try simp only [Exit.inBlock, Exit.then])
  refine bodyPost_ret (v := .tuple #[.int .i64 0, .int .i64 Z]) (by simp [results, Tryz.results17, go_sem, asAddr]) rfl ?_
  exact ⟨rfl, HB.out⟩
theorem Sector_any (hx hy x y : Int) (w : World) :
    Calls Tryz.prog 17 #[.agg #[.int .i64 hx, .int .i64 hy], .agg #[.int .i64 x, .int .i64 y]] w fun e w' => e = .returned (.tuple #[.int .i64 (if firstE [dirE hx hy, dirE x y] = 0 then (Bell.sectorOf hx hy x y : Nat) else 0), .int .i64 (firstE [dirE hx hy, dirE x y])]) ∧ Below w.heap.size w w' := by
  by_cases hz : firstE [dirE hx hy, dirE x y] = 0
  · obtain ⟨h1, h2⟩ := firstE2_zero hz
    rw [if_pos hz, hz]
    exact Sector_ok hx hy x y w (dirE_zero h1).1 (dirE_zero h1).2 (dirE_zero h2).1 (dirE_zero h2).2
  · rw [if_neg hz]
    exact Sector_err hx hy x y w hz
set_option maxHeartbeats 4000000 in
set_option maxRecDepth 100000 in
theorem Heard_err {cs : Array Value} {nm : ByteArray} {sh : List Int} {T : Bell.Ty} {sa : Option Addr} {sn sc : Nat} {qa : Option Addr} {qn qc : Nat} {ga : Option Addr} {gn gc : Nat} (s : Bell.St) (r : Bell.Pl) (w : World) (hT : TyAny w cs nm sh T sa sn sc qa qn qc ga gn gc) (hz : firstE [Bell.tyE (nameE nm) sh T, firstE [placeE s.x s.y s.z, dirE s.hx s.hy, withinE s.p 1 100], placeE r.x r.y r.z] ≠ 0) :
    Calls Tryz.prog 18 #[.agg cs, .agg (stV s), .agg (plV r)] w fun e w' => e = .returned (.tuple #[.int .i64 0, .int .i64 (firstE [Bell.tyE (nameE nm) sh T, firstE [placeE s.x s.y s.z, dirE s.hx s.hy, withinE s.p 1 100], placeE r.x r.y r.z])]) ∧ Below w.heap.size w w' := by
  have HO := Lib.hid hT
  clear hT
  have HSC := Lib.hid (fun W => stateCheck_any s W)
  have HPC := Lib.hid (fun W => checkPlace_any r.x r.y r.z W)
  obtain ⟨N0, hN0⟩ : ∃ x, x = Bell.tyE (nameE nm) sh T := ⟨_, rfl⟩
  obtain ⟨N1, hN1⟩ : ∃ x, x = firstE [placeE s.x s.y s.z, dirE s.hx s.hy, withinE s.p 1 100] := ⟨_, rfl⟩
  obtain ⟨N2, hN2⟩ : ∃ x, x = placeE r.x r.y r.z := ⟨_, rfl⟩
  rw [← hN1] at HSC
  rw [← hN2] at HPC
  rw [← hN0, ← hN1, ← hN2] at hz ⊢
  obtain ⟨Z, hZ⟩ : ∃ x, x = firstE [N0, N1, N2] := ⟨_, rfl⟩
  rw [← hZ] at hz ⊢
  have HP0 := Lib.hid hN0; have HZ := Lib.hid hZ
  clear hN0 hN1 hN2 hZ
  obtain ⟨sv, hsv⟩ : ∃ v, v = stV s := ⟨_, rfl⟩
  obtain ⟨rv, hrv⟩ : ∃ v, v = plV r := ⟨_, rfl⟩
  have is : Hid ((Tryz.prog.info? 46).map (·.size) = some sv.size) := by show _ = _; rw [hsv]; kernel_rfl
  have ir : Hid ((Tryz.prog.info? 28).map (·.size) = some rv.size) := by show _ = _; rw [hrv]; kernel_rfl
  rw [← hsv] at HSC ⊢
  rw [← hrv] at ⊢
  have hrv2 : Hid (#[.int .i64 r.x, .int .i64 r.y, .int .i64 r.z] = rv) := by show _ = _; rw [hrv]; rfl
  rw [hrv2.out] at HPC
  clear hsv hrv hrv2
  go_enter Tryz.func18, Tryz.ntmps18
  go_upto_region 1 with fail
  obtain ⟨w1, hw1⟩ : ∃ W, W = ((w.alloc (.cells cs 42)).alloc (.cells sv 46)).alloc (.cells rv 28) := ⟨_, rfl⟩
  rw [← hw1]
  have T1 : Hid (Blk w1 w.heap.size 42 cs) := by show Blk _ _ _ _; rw [hw1]; exact ((Blk.new _ _ _).alloc _).alloc _
  have S1 : Hid (Blk w1 (w.heap.size + 1) 46 sv) := by show Blk _ _ _ _; rw [hw1]; exact (Blk.at_size _ _ (by simp)).alloc _
  have R1 : Hid (Blk w1 (w.heap.size + 1 + 1) 28 rv) := by show Blk _ _ _ _; rw [hw1]; exact Blk.at_size _ _ (by simp)
  have HB1 : Hid (Below w.heap.size w w1) := by show Below _ _ _; rw [hw1]; exact (((Below.refl _ _).alloc (Nat.le_refl _) _).alloc (by simp) _).alloc (by simp; omega) _
  obtain ⟨g, hg⟩ : ∃ g, g = w.heap.size := ⟨_, rfl⟩
  rw [← hg] at T1 S1 R1 ⊢
  clear hw1 hg
  have bw : ∀ d os, Below w1.heap.size w1 (grow (redrawn w1 d) os) := fun d os => below_regrown w1 d os
  have kp : ∀ d os, Below w.heap.size w (grow (redrawn w1 d) os) := fun d os => HB1.out.trans ((bw d os).mono HB1.out.size)
  have lT := fun d os => (T1.out.below (bw d os)).lv Tryz.prog (T := 42) Tryz.underlying42 rfl HO.out.info
  have lS := fun d os => (S1.out.below (bw d os)).lv Tryz.prog (T := 46) Tryz.underlying46 rfl is.out
  have lR := fun d os => (R1.out.below (bw d os)).lv Tryz.prog (T := 28) Tryz.underlying28 rfl ir.out
  have c1 := fun d os => Calls.regrown_of ((HO.out.keep (kp d os)).check)
  have c2 := fun d os => Calls.regrown_of (HSC.out (grow (redrawn w1 d) os))
  have c3 := fun d os => Calls.regrown_of (HPC.out (grow (redrawn w1 d) os))
  simp only [← HP0.out] at c1
  refine wp_region_below_tail 6 (by kernel_rfl) (by kernel_rfl) ?_
  simp only [List.take_succ_cons, List.take_zero, List.drop_succ_cons, List.drop_zero]
  refine quiet_load _ _ rfl (by rfl) _ _ rfl lT ?_
  quiet_step (exact c1 _ _)
  refine quiet_load _ _ rfl (by rfl) _ _ rfl lS ?_
  quiet_step (exact c2 _ _)
  refine quiet_load _ _ rfl (by rfl) _ _ rfl lR ?_
  quiet_step (exact c3 _ _)
  refine wpQuiet_nil ?_
  intro w2 hw'
  obtain ⟨⟨dq, osq⟩, hw''⟩ := hw'
  have hb2 := bw dq osq
  rw [← hw''] at hb2
  have T2 := Lib.hid (T1.out.below hb2)
  have S2 := Lib.hid (S1.out.below hb2)
  have R2 := Lib.hid (R1.out.below hb2)
  have HB2 := Lib.hid (HB1.out.trans (hb2.mono HB1.out.size))
  clear hw'' hb2 lT lS lR c1 c2 c3 bw kp T1 S1 R1 HB1 HSC HPC
  go_wp2_with fail
  refine (first3 _ _ N0 N1 N2 _ (by go_simp) (by go_simp) (by go_simp)).mono ?_
  rw [← HZ.out]
  rintro e w3 ⟨rfl, rfl⟩
  obtain ⟨w4, hw4⟩ : ∃ W, W = w2.alloc (.cells #[.int .i64 N0, .int .i64 N1, .int .i64 N2] 37) := ⟨_, rfl⟩
  rw [← hw4]
  have hb4 : Below w2.heap.size w2 w4 := by rw [hw4]; exact (Below.refl _ _).alloc (Nat.le_refl _) _
  have T4 := Lib.hid (T2.out.below hb4)
  have S4 := Lib.hid (S2.out.below hb4)
  have R4 := Lib.hid (R2.out.below hb4)
  have HB4 := Lib.hid (HB2.out.trans (hb4.mono HB2.out.size))
  clear hw4 hb4 T2 S2 R2 HB2
  go_wp2
  go_ret2
  exact ⟨rfl, HB4.out⟩
theorem Heard_any {cs : Array Value} {nm : ByteArray} {sh : List Int} {T : Bell.Ty} {sa : Option Addr} {sn sc : Nat} {qa : Option Addr} {qn qc : Nat} {ga : Option Addr} {gn gc : Nat} (s : Bell.St) (r : Bell.Pl) (w : World) (hT : TyAny w cs nm sh T sa sn sc qa qn qc ga gn gc) :
    Calls Tryz.prog 18 #[.agg cs, .agg (stV s), .agg (plV r)] w fun e w' => e = .returned (.tuple #[.int .i64 (if firstE [Bell.tyE (nameE nm) sh T, firstE [placeE s.x s.y s.z, dirE s.hx s.hy, withinE s.p 1 100], placeE r.x r.y r.z] = 0 then Bell.heardOf T s r else 0), .int .i64 (firstE [Bell.tyE (nameE nm) sh T, firstE [placeE s.x s.y s.z, dirE s.hx s.hy, withinE s.p 1 100], placeE r.x r.y r.z])]) ∧ Below w.heap.size w w' := by
  by_cases hz : firstE [Bell.tyE (nameE nm) sh T, firstE [placeE s.x s.y s.z, dirE s.hx s.hy, withinE s.p 1 100], placeE r.x r.y r.z] = 0
  · obtain ⟨h1, h2, h3⟩ := firstE3_zero hz
    obtain ⟨k1, k2, k3⟩ := firstE3_zero h2
    obtain ⟨qb, qo, gb, go, rfl, rfl, hk⟩ := hT.ok h1
    obtain ⟨p1, p2, p3⟩ := placeE_zero k1
    obtain ⟨d1, d2⟩ := dirE_zero k2
    have q1 := withinE_zero k3
    rw [if_pos hz, hz]
    exact Heard_ok s r w hk ⟨p1.1, p1.2, p2.1, p2.2, p3.1, p3.2, d1.1, d1.2, d2.1, d2.2, q1.1, q1.2⟩ (placeE_good h3)
  · rw [if_neg hz]
    exact Heard_err s r w hT hz
set_option maxHeartbeats 4000000 in
set_option maxRecDepth 100000 in
theorem Banded_err {cs : Array Value} {nm : ByteArray} {sh : List Int} {T : Bell.Ty} {sa : Option Addr} {sn sc : Nat} {qa : Option Addr} {qn qc : Nat} {ga : Option Addr} {gn gc : Nat} (e : Int) (w : World) (hT : TyAny w cs nm sh T sa sn sc qa qn qc ga gn gc) (hz : firstE [Bell.tyE (nameE nm) sh T, checkEnergyE e] ≠ 0) :
    Calls Tryz.prog 19 #[.agg cs, .int .i64 e] w fun x w' => x = .returned (.tuple #[.slice none 0 0, .int .i64 (firstE [Bell.tyE (nameE nm) sh T, checkEnergyE e])]) ∧ Below w.heap.size w w' := by
  have HO := Lib.hid hT
  obtain ⟨N1, hN1⟩ : ∃ x, x = Bell.tyE (nameE nm) sh T := ⟨_, rfl⟩
  obtain ⟨N2, hN2⟩ : ∃ x, x = checkEnergyE e := ⟨_, rfl⟩
  have HCE : Hid (∀ W, Calls Tryz.prog 96 #[.int .i64 e] W fun x w' => x = .returned (.int .i64 N2) ∧ Below W.heap.size W w') := fun W =>
    (checkEnergy_any e W).mono fun x w' h => by
      obtain ⟨rfl, rfl⟩ := h
      exact ⟨by rw [hN2], Below.refl _ _⟩
  rw [← hN1, ← hN2] at hz ⊢
  obtain ⟨Z, hZ⟩ : ∃ x, x = firstE [N1, N2] := ⟨_, rfl⟩
  rw [← hZ] at hz ⊢
  have HP0 := Lib.hid hN1; have HZ := Lib.hid hZ
  clear hN1 hN2 hZ hT
  go_enter Tryz.func19, Tryz.ntmps19
  go_upto_region 1 with fail
  obtain ⟨w1, hw1⟩ : ∃ W, W = ((w.alloc (.cells cs 42)).alloc (.cells #[.int .i64 e] 3)) := ⟨_, rfl⟩
  rw [← hw1]
  have B2 : Hid (Blk w1 (w.heap.size) 42 cs) := by show Blk _ _ _ _; rw [hw1]; exact (Blk.new _ _ _).alloc _
  have B3 : Hid (Blk w1 (w.heap.size + 1) 3 #[.int .i64 e]) := by show Blk _ _ _ _; rw [hw1]; exact Blk.at_size _ _ (by simp)
  have hb1 : Below w.heap.size w w1 := by rw [hw1]; exact (((Below.refl _ _).alloc (Nat.le_refl _) _).alloc (by simp) _)
  obtain ⟨g2, hg2⟩ : ∃ g, g = w.heap.size := ⟨_, rfl⟩
  obtain ⟨g3, hg3⟩ : ∃ g, g = w.heap.size + 1 := ⟨_, rfl⟩
  have HGw1 : Hid (g2 = w.heap.size ∧ g3 = w.heap.size + 1) := ⟨hg2, hg3⟩
  rw [← hg3] at B3
  try rw [← hg3]
  rw [← hg2] at B2
  try rw [← hg2]
  clear hw1 hg2 hg3
  have HB : Hid (Below w.heap.size w w1) := hb1
  have HG3 : Hid (g2 ≠ g3) := by show _ ≠ _; rw [HGw1.out.1, HGw1.out.2]; omega
  clear hb1
  have lT := fun d os => (B2.out.below (below_regrown w1 d os)).lv Tryz.prog (T := 42) Tryz.underlying42 rfl HO.out.info
  have s0 := fun d os => cell_regrown (B3.out.cell 0) d os
  have c1 := fun nd ns => Calls.regrown_of (((HO.out.keep (HB.out.trans ((below_regrown w1 nd ns).mono HB.out.size))).check))
  have c2 := fun nd ns => Calls.regrown_of ((HCE.out (grow (redrawn w1 nd) ns)))
  simp only [← HP0.out] at c1
  refine wp_region_below_tail 4 (by kernel_rfl) (by kernel_rfl) ?_
  simp only [List.take_succ_cons, List.take_zero, List.drop_succ_cons, List.drop_zero]
  refine quiet_load _ _ rfl (by rfl) _ _ rfl lT ?_
  quiet_step (exact c1 _ _)
  iterate 1 (quiet_step (fail))
  quiet_step (exact c2 _ _)
  refine wpQuiet_nil ?_
  intro w2 hq1
  obtain ⟨⟨dq, osq⟩, hq2⟩ := hq1
  have hb2 := below_regrown w1 dq osq
  rw [← hq2] at hb2
  clear hq2
  replace HB := Lib.hid (HB.out.trans (hb2.mono HB.out.size))
  replace B2 := Lib.hid (B2.out.below hb2)
  replace B3 := Lib.hid (B3.out.below hb2)
  clear hb2
  clear lT s0 c1 c2 HCE
  go_wp2_with fail
  obtain ⟨w3, hw3⟩ : ∃ W, W = (w2.alloc (.cells #[.int .i64 N1, .int .i64 N2] 37)) := ⟨_, rfl⟩
  rw [← hw3]
  have ES : Hid (Blk w3 (w2.heap.size) 37 #[.int .i64 N1, .int .i64 N2]) := by show Blk _ _ _ _; rw [hw3]; exact Blk.new _ _ _
  have hb3 : Below w2.heap.size w2 w3 := by rw [hw3]; exact ((Below.refl _ _).alloc (Nat.le_refl _) _)
  obtain ⟨ge, hge⟩ : ∃ g, g = w2.heap.size := ⟨_, rfl⟩
  have HGw3 : Hid (ge = w2.heap.size) := hge
  rw [← hge] at ES
  try rw [← hge]
  clear hw3 hge
  replace HB := Lib.hid (HB.out.trans (hb3.mono HB.out.size))
  replace B2 := Lib.hid (B2.out.below hb3)
  replace B3 := Lib.hid (B3.out.below hb3)
  clear hb3
  refine (first2 _ _ N1 N2 _ (ES.out.cell 0) (ES.out.cell 1)).mono ?_
  rw [← HZ.out]
  rintro x w4 ⟨rfl, rfl⟩
  clear ES
  go_wp2
  (try simp only [Exit.inBlock, Exit.then])
  refine bodyPost_ret (v := .tuple #[.slice none 0 0, .int .i64 Z]) (by simp [results, Tryz.results19, go_sem, asAddr]) rfl ?_
  exact ⟨rfl, HB.out⟩
end Go.Proofs.YtmafmebcgmegeaaGreatDoor

namespace Go.Proofs.YtmafmebcgmegeaaGreatDoor
open Go.RowKit Go.Sort
theorem turn_stop {k : Nat} {u v : Int} {n : Nat} (h : u > 0 ∧ v ≥ 0) : Bell.turnR (k + 1) u v n = (u, v, n) := by
  rw [Bell.turnR, if_pos h]
theorem turn_go {k : Nat} {u v : Int} {n : Nat} (h : ¬ (u > 0 ∧ v ≥ 0)) : Bell.turnR (k + 1) u v n = Bell.turnR k v (-u) (n + 2) := by
  rw [Bell.turnR, if_neg h]
theorem sector_end {u v p q : Int} {n : Nat} (h0 : ¬ (u = 0 ∧ v = 0)) (h : Bell.turnR 4 u v 0 = (p, q, n)) : (p ≤ q → Bell.secOf u v = n + 1) ∧ (¬ p ≤ q → Bell.secOf u v = n) := by
  rw [← Bell.sectorR_is]
  unfold Bell.sectorR
  rw [if_neg h0, h]
  exact ⟨fun k => if_pos k, fun k => if_neg k⟩
set_option maxHeartbeats 4000000 in
set_option maxRecDepth 100000 in
theorem refSector_any (hx hy x y : Int) (w : World) (h1 : -1000000 ≤ hx ∧ hx ≤ 1000000) (h2 : -1000000 ≤ hy ∧ hy ≤ 1000000) (h3 : -1000000 ≤ x ∧ x ≤ 1000000) (h4 : -1000000 ≤ y ∧ y ≤ 1000000) :
    Calls Tryz.prog 29 #[.agg #[.int .i64 hx, .int .i64 hy], .agg #[.int .i64 x, .int .i64 y]] w fun e w' => e = .returned (.int .i64 (Bell.sectorOf hx hy x y : Nat)) ∧ Below w.heap.size w w' := by
  obtain ⟨a1, a2⟩ := mul_in h1.1 h1.2 h3.1 h3.2
  obtain ⟨b1, b2⟩ := mul_in h2.1 h2.2 h4.1 h4.2
  obtain ⟨c1, c2⟩ := mul_in h1.1 h1.2 h4.1 h4.2
  obtain ⟨d1, d2⟩ := mul_in h2.1 h2.2 h3.1 h3.2
  rw [Bell.sector_is]
  obtain ⟨m1, hm1⟩ : ∃ m, m = hx * x := ⟨_, rfl⟩
  obtain ⟨m2, hm2⟩ : ∃ m, m = hy * y := ⟨_, rfl⟩
  obtain ⟨m3, hm3⟩ : ∃ m, m = hx * y := ⟨_, rfl⟩
  obtain ⟨m4, hm4⟩ : ∃ m, m = hy * x := ⟨_, rfl⟩
  rw [← hm1] at a1 a2
  rw [← hm2] at b1 b2
  rw [← hm3] at c1 c2
  rw [← hm4] at d1 d2
  rw [← hm1, ← hm2, ← hm3, ← hm4]
  obtain ⟨u, hu⟩ : ∃ u, u = m1 + m2 := ⟨_, rfl⟩
  obtain ⟨v, hv⟩ : ∃ v, v = m3 - m4 := ⟨_, rfl⟩
  have u1 : -2000000000000 ≤ u ∧ u ≤ 2000000000000 := by omega
  have v1 : -2000000000000 ≤ v ∧ v ≤ 2000000000000 := by omega
  have w1 : IntKind.i64.wrap (hx * x) = m1 := by rw [hm1]; exact IntWalk.i64_in _ (by omega)
  have w2 : IntKind.i64.wrap (hy * y) = m2 := by rw [hm2]; exact IntWalk.i64_in _ (by omega)
  have w3 : IntKind.i64.wrap (hx * y) = m3 := by rw [hm3]; exact IntWalk.i64_in _ (by omega)
  have w4 : IntKind.i64.wrap (hy * x) = m4 := by rw [hm4]; exact IntWalk.i64_in _ (by omega)
  have w5 : IntKind.i64.wrap (m1 + m2) = u := by rw [hu]; exact IntWalk.i64_in _ (by omega)
  have w6 : IntKind.i64.wrap (m3 - m4) = v := by rw [hv]; exact IntWalk.i64_in _ (by omega)
  rw [← hu, ← hv]
  obtain ⟨S, hS⟩ : ∃ S, S = Bell.secOf u v := ⟨_, rfl⟩
  rw [← hS]
  have HS := Lib.hid hS
  have HU := Lib.hid u1
  have HV := Lib.hid v1
  clear hS h1 h2 h3 h4 a1 a2 b1 b2 c1 c2 d1 d2 hm1 hm2 hm3 hm4 hu hv u1 v1
  go_enter Tryz.func29, Tryz.ntmps29
  go_upto_region 1 with fail
  obtain ⟨wn, hwn⟩ : ∃ W, W = ((w.alloc (.cells #[.int .i64 hx, .int .i64 hy] 30)).alloc (.cells #[.int .i64 x, .int .i64 y] 30)) := ⟨_, rfl⟩
  rw [← hwn]
  have B2 : Hid (Blk wn (w.heap.size) 30 #[.int .i64 hx, .int .i64 hy]) := by show Blk _ _ _ _; rw [hwn]; exact (Blk.new _ _ _).alloc _
  have B3 : Hid (Blk wn (w.heap.size + 1) 30 #[.int .i64 x, .int .i64 y]) := by show Blk _ _ _ _; rw [hwn]; exact Blk.at_size _ _ (by simp)
  have hb1 : Below w.heap.size w wn := by rw [hwn]; exact (((Below.refl _ _).alloc (Nat.le_refl _) _).alloc (by simp) _)
  obtain ⟨g2, hg2⟩ : ∃ g, g = w.heap.size := ⟨_, rfl⟩
  obtain ⟨g3, hg3⟩ : ∃ g, g = w.heap.size + 1 := ⟨_, rfl⟩
  have HGwn : Hid (g2 = w.heap.size ∧ g3 = w.heap.size + 1) := ⟨hg2, hg3⟩
  rw [← hg3] at B3
  try rw [← hg3]
  rw [← hg2] at B2
  try rw [← hg2]
  clear hwn hg2 hg3
  have HB : Hid (Below w.heap.size w wn) := hb1
  clear hb1
  have AA := B2.out
  have BB := B3.out
  have ac0 := AA.cell 0; have af0 := AA.frozen 0; have ac1 := AA.cell 1; have af1 := AA.frozen 1
  simp only [List.getElem?_toArray, List.getElem?_cons_zero, List.getElem?_cons_succ] at ac0 ac1
  clear AA
  have bc0 := BB.cell 0; have bf0 := BB.frozen 0; have bc1 := BB.cell 1; have bf1 := BB.frozen 1
  simp only [List.getElem?_toArray, List.getElem?_cons_zero, List.getElem?_cons_succ] at bc0 bc1
  clear BB
  go_upto_region 1 with fail
  go_big_quiet (fail)
  clear w1 w2 w3 w4 w5 w6
  obtain ⟨w9, hw9⟩ : ∃ W, W = wn.drewN nq := ⟨_, rfl⟩
  rw [← hw9]
  have hb9 : Below wn.heap.size wn w9 := by rw [hw9]; exact below_drewN' (Below.refl _ _) _
  replace HB := Lib.hid (HB.out.trans (hb9.mono HB.out.size))
  clear hb9
  clear hw9 B2 B3
  by_cases hz : u = 0 ∧ v = 0
  · obtain ⟨rfl, rfl⟩ := hz
    have hs : S = 0 := by rw [HS.out]; rfl
    subst hs
    go_wp2
    go_ret
    exact ⟨rfl, HB.out⟩
  have HN := Lib.hid hz
  by_cases hu0 : u = 0
  case pos =>
    have hv0 : ¬ v = 0 := fun h => hz ⟨hu0, h⟩
    clear hz
    subst hu0
    go_wp2
    go_loopw [5, 6, 7, 8] (fun a b n i wr => ∃ (p q : Int) (k : Nat), k ≤ 4 ∧ a = .int .i64 p ∧ b = .int .i64 q ∧ n = .int .i64 ((2 * k : Nat) : Int) ∧ i = .int .i64 k ∧ Hid ((-2000000000000 ≤ p ∧ p ≤ 2000000000000) ∧ (-2000000000000 ≤ q ∧ q ≤ 2000000000000) ∧ Bell.turnR 4 0 v 0 = Bell.turnR (4 - k) p q (2 * k)) ∧ wr = w9) (fun _ _ _ i _ => 4 - (intOf i).toNat)
    case atStart => exact ⟨0, v, 0, by omega, rfl, rfl, rfl, rfl, ⟨HU.out, HV.out, rfl⟩, rfl⟩
    case round =>
      obtain ⟨p, q, k, hk, rfl, rfl, rfl, rfl, hr, rfl⟩ := hrel
      obtain ⟨⟨p1, p2⟩, ⟨q1, q2⟩, ht⟩ := hr.out
      clear hr
      by_cases hlt : k < 4
      · have hkk : 4 - k = (4 - (k + 1)) + 1 := by omega
        by_cases hst : p > 0 ∧ q ≥ 0
        · rw [hkk, turn_stop hst] at ht
          have he := sector_end (fun h => hv0 h.2) ht
          rw [← HS.out] at he
          have HE := Lib.hid he
          clear ht he hkk
          obtain ⟨s1, s2⟩ := hst
          by_cases hpq : p ≤ q
          · obtain rfl := HE.out.1 hpq
            clear HE HS
            go_wp2
            go_ret
            exact ⟨ret_int (by omega), HB.out⟩
          · obtain rfl := HE.out.2 hpq
            clear HE HS
            go_wp2
            go_ret
            exact ⟨rfl, HB.out⟩
        · rw [hkk, turn_go hst] at ht
          have HT := Lib.hid ht
          clear ht hkk
          by_cases hp0 : p > 0
          · have hq0 : ¬ q ≥ 0 := fun h => hst ⟨hp0, h⟩
            clear hst
            go_wp2
            go_roundw
            case rel => exact ⟨q, -p, k + 1, by omega, by go_num, by go_num, by go_num, by go_num, ⟨⟨q1, q2⟩, ⟨by omega, by omega⟩, HT.out⟩, by first | rfl | trivial⟩
            case measure => simp [intOf]; omega
          · clear hst
            go_wp2
            go_roundw
            case rel => exact ⟨q, -p, k + 1, by omega, by go_num, by go_num, by go_num, by go_num, ⟨⟨q1, q2⟩, ⟨by omega, by omega⟩, HT.out⟩, by first | rfl | trivial⟩
            case measure => simp [intOf]; omega
      · obtain rfl : k = 4 := by omega
        have he := sector_end (fun h => hv0 h.2) ht
        rw [← HS.out] at he
        have HE := Lib.hid he
        clear ht he
        by_cases hpq : p ≤ q
        · obtain rfl := HE.out.1 hpq
          clear HE HS
          go_wp2
          go_ret
          exact ⟨ret_int (by omega), HB.out⟩
        · obtain rfl := HE.out.2 hpq
          clear HE HS
          go_wp2
          go_ret
          exact ⟨rfl, HB.out⟩
  clear hz
  go_wp2
  go_loopw [5, 6, 7, 8] (fun a b n i wr => ∃ (p q : Int) (k : Nat), k ≤ 4 ∧ a = .int .i64 p ∧ b = .int .i64 q ∧ n = .int .i64 ((2 * k : Nat) : Int) ∧ i = .int .i64 k ∧ Hid ((-2000000000000 ≤ p ∧ p ≤ 2000000000000) ∧ (-2000000000000 ≤ q ∧ q ≤ 2000000000000) ∧ Bell.turnR 4 u v 0 = Bell.turnR (4 - k) p q (2 * k)) ∧ wr = w9) (fun _ _ _ i _ => 4 - (intOf i).toNat)
  case atStart => exact ⟨u, v, 0, by omega, rfl, rfl, rfl, rfl, ⟨HU.out, HV.out, rfl⟩, rfl⟩
  case round =>
    obtain ⟨p, q, k, hk, rfl, rfl, rfl, rfl, hr, rfl⟩ := hrel
    obtain ⟨⟨p1, p2⟩, ⟨q1, q2⟩, ht⟩ := hr.out
    clear hr
    by_cases hlt : k < 4
    · have hkk : 4 - k = (4 - (k + 1)) + 1 := by omega
      by_cases hst : p > 0 ∧ q ≥ 0
      · rw [hkk, turn_stop hst] at ht
        have he := sector_end (fun h => hu0 h.1) ht
        rw [← HS.out] at he
        have HE := Lib.hid he
        clear ht he hkk
        obtain ⟨s1, s2⟩ := hst
        by_cases hpq : p ≤ q
        · obtain rfl := HE.out.1 hpq
          clear HE HS
          go_wp2
          go_ret
          exact ⟨ret_int (by omega), HB.out⟩
        · obtain rfl := HE.out.2 hpq
          clear HE HS
          go_wp2
          go_ret
          exact ⟨rfl, HB.out⟩
      · rw [hkk, turn_go hst] at ht
        have HT := Lib.hid ht
        clear ht hkk
        by_cases hp0 : p > 0
        · have hq0 : ¬ q ≥ 0 := fun h => hst ⟨hp0, h⟩
          clear hst
          go_wp2
          go_roundw
          case rel => exact ⟨q, -p, k + 1, by omega, by go_num, by go_num, by go_num, by go_num, ⟨⟨q1, q2⟩, ⟨by omega, by omega⟩, HT.out⟩, by first | rfl | trivial⟩
          case measure => simp [intOf]; omega
        · clear hst
          go_wp2
          go_roundw
          case rel => exact ⟨q, -p, k + 1, by omega, by go_num, by go_num, by go_num, by go_num, ⟨⟨q1, q2⟩, ⟨by omega, by omega⟩, HT.out⟩, by first | rfl | trivial⟩
          case measure => simp [intOf]; omega
    · obtain rfl : k = 4 := by omega
      have he := sector_end (fun h => hu0 h.1) ht
      rw [← HS.out] at he
      have HE := Lib.hid he
      clear ht he
      by_cases hpq : p ≤ q
      · obtain rfl := HE.out.1 hpq
        clear HE HS
        go_wp2
        go_ret
        exact ⟨ret_int (by omega), HB.out⟩
      · obtain rfl := HE.out.2 hpq
        clear HE HS
        go_wp2
        go_ret
        exact ⟨rfl, HB.out⟩
end Go.Proofs.YtmafmebcgmegeaaGreatDoor

namespace Go.Proofs.YtmafmebcgmegeaaGreatDoor
open Go.RowKit Go.Sort
theorem quo_facts {x d : Int} (hd : 1 ≤ d) : (x.tdiv d).natAbs ≤ x.natAbs ∧ (x.tmod d).natAbs < d.natAbs ∧ x.tmod d + x.tdiv d * d = x := by
  refine ⟨by rw [Int.natAbs_tdiv]; exact Nat.div_le_self _ _, ?_, ?_⟩
  · rw [Int.natAbs_tmod]; exact Nat.mod_lt _ (by omega)
  · rw [Int.mul_comm]; exact Int.tmod_add_mul_tdiv x d
set_option maxHeartbeats 400000 in
set_option maxRecDepth 100000 in
theorem refFloor_gen (x d : Int) (w : World) (hx : -100000000000000000 ≤ x ∧ x ≤ 100000000000000000) (hd : 1 ≤ d ∧ d ≤ 10000000) :
    Calls Tryz.prog 170 #[.int .i64 x, .int .i64 d] w fun e w' => e = .returned (.int .i64 (x / d)) ∧ w' = w := by
  obtain ⟨f1, f2, f3⟩ := quo_facts (x := x) hd.1
  have hf := Bell.floorR_is (n := x) (d := d) (by omega)
  obtain ⟨q, hq⟩ : ∃ q, x.tdiv d = q := ⟨_, rfl⟩
  obtain ⟨r, hr⟩ : ∃ r, x.tmod d = r := ⟨_, rfl⟩
  rw [hq] at f1 f3 hf
  rw [hr] at f2 f3
  obtain ⟨m, hm⟩ : ∃ m, q * d = m := ⟨_, rfl⟩
  rw [hm] at f3 hf
  have HF := Lib.hid hf
  have hd0 : ¬ d = 0 := by omega
  have w1 : IntKind.i64.wrap q = q := IntWalk.i64_in _ (by omega)
  have w2 : IntKind.i64.wrap m = m := IntWalk.i64_in _ (by omega)
  have w3 : IntKind.i64.wrap (q - 1) = q - 1 := IntWalk.i64_in _ (by omega)
  have HQ := Lib.hid hq
  by_cases h : x < m
  · have HH := Lib.hid h
    clear f1 f2 f3 hf hr
    go_enter Tryz.func170, Tryz.ntmps170
    go_wp2
    go_ret
    have h9 := HF.out
    rw [if_pos HH.out] at h9
    exact ⟨ret_int h9, rfl⟩
  · have HH := Lib.hid h
    clear f1 f2 f3 hf hr
    go_enter Tryz.func170, Tryz.ntmps170
    go_wp2
    go_ret
    have h9 := HF.out
    rw [if_neg (Int.not_lt.2 HH.out)] at h9
    exact ⟨ret_int h9, rfl⟩
end Go.Proofs.YtmafmebcgmegeaaGreatDoor
