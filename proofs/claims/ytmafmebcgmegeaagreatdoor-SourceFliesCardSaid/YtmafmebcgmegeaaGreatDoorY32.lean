/- Texts QJ QK of the proof. -/
import Derived.Test.YtmafmebcgmegeaaGreatDoorY26
import Derived.Test.YtmafmebcgmegeaaGreatDoorY31
namespace Go.Proofs.YtmafmebcgmegeaaGreatDoor
open Go.RowKit Go.Sort
theorem mapGet_app {es fs : List (ByteArray × Value)} {s : ByteArray} {v : Value} (h : mapGet es s = some v) : mapGet (es ++ fs) s = some v := by
  unfold mapGet at *
  rw [List.find?_append]
  cases hf : es.find? (fun x => decide (x.1 = s)) with
  | none => rw [hf] at h; cases h
  | some y => rw [hf] at h; exact h
theorem kesTo_has {ts : List Tp} : ∀ {n k : Nat}, Distinct ts n → k < n → mapGet (kesTo ts n) (tpAt ts k).nm = some (.agg (tpAt ts k).cs)
  | 0, _, _, h => absurd h (Nat.not_lt_zero _)
  | n + 1, k, hd, h => by
    rw [kesTo_succ]
    rcases Nat.lt_or_ge k n with h' | h'
    · exact mapGet_app (kesTo_has (fun i j a b => hd i j a (by omega)) h')
    · obtain rfl : k = n := by omega
      exact mapGet_snoc (kesTo_lacks hd h)
theorem flAt_track {kes : List (ByteArray × Value)} {fs : List Fl} {n i : Nat} (hl : fs.length = n) (h : flsE kes fs = 0) (hi : i < n) : Bell.GoodTr (flAt fs i).tr := by
  have h1 := firstR_zero (andE_zero h).2 i (by omega)
  exact goodTr_of (firstE4_z h1).2.2.2
/-- Types without a fault, and flights without one; the exposures that they give. -/
structure Listed (ts : List Tp) (tn : Nat) (fs : List Fl) (fn : Nat) (r : Bell.Pl) (V : Nat → Int) : Prop where
  names : Distinct ts tn
  few : tn ≤ 8
  fine : flsE (kesTo ts tn) fs = 0
  place : GoodPl r
  val : ∀ i, i < fn → ∃ k, k < tn ∧ (tpAt ts k).nm = (flAt fs i).ty ∧ V i = Bell.expoOf (tpAt ts k).T (flAt fs i).tr r 0 100000000
set_option maxHeartbeats 1000000 in
set_option maxRecDepth 100000 in
theorem exposed_ok (A : Option Addr) (tn tc : Nat) (ts : List Tp) (FA : Option Addr) (fn fc : Nat) (fs : List Fl) (r : Bell.Pl) (V : Nat → Int) (w : World) (hts : TpsAt w A tn ts) (hfs : FlsAt w FA fn fs) (hL : Listed ts tn fs fn r V) :
    Calls Tryz.prog 139 #[.slice A tn tc, .slice FA fn fc, .agg (plV r)] w
      fun e w' => ∃ g, e = .returned (.tuple #[.slice (some ⟨g, 0, none⟩) fn fn, .int .i64 0]) ∧ LoudsAt w' g fn fs V ∧ Below w.heap.size w w' := by
  have HTS := Lib.hid hts
  have HFS := Lib.hid hfs
  have HL := Lib.hid hL
  have hfn : fn ≤ 16 := by
    have h1 := (andE_zero hL.fine).1
    unfold atMostE at h1
    rw [hfs.1] at h1
    split at h1 <;> omega
  unfold plV
  clear hts hfs hL
  go_enter Tryz.func139, Tryz.ntmps139
  go_upto_region 1 with fail
  obtain ⟨w1, hw1⟩ : ∃ W, W = (w.alloc (.cells #[.int .i64 r.x, .int .i64 r.y, .int .i64 r.z] 28)) := ⟨_, rfl⟩
  rw [← hw1]
  have B5 : Hid (Blk w1 (w.heap.size) 28 #[.int .i64 r.x, .int .i64 r.y, .int .i64 r.z]) := by show Blk _ _ _ _; rw [hw1]; exact Blk.new _ _ _
  have hb1 : Below w.heap.size w w1 := by rw [hw1]; exact ((Below.refl _ _).alloc (Nat.le_refl _) _)
  obtain ⟨g5, hg5⟩ : ∃ g, g = w.heap.size := ⟨_, rfl⟩
  have HGw1 : Hid (g5 = w.heap.size) := hg5
  rw [← hg5] at B5
  try rw [← hg5]
  clear hw1 hg5
  have HB : Hid (Below w.heap.size w w1) := hb1
  clear hb1
  go_wp2_with fail
  refine (named_ok A tn tc ts w1 (HTS.out.keep HB.out) HL.out.names HL.out.few).mono ?_
  rintro e w2 ⟨mb, rfl, hkn, hb⟩
  have HKN := Lib.hid hkn
  replace HB := Lib.hid (HB.out.trans (hb.mono HB.out.size))
  replace B5 := Lib.hid (B5.out.below hb)
  clear hb
  clear hkn
  go_upto_region 2 with fail
  obtain ⟨w3, hw3⟩ : ∃ W, W = (w2.alloc (.cells #[.map (some mb)] 219)) := ⟨_, rfl⟩
  rw [← hw3]
  have B8 : Hid (Blk w3 (w2.heap.size) 219 #[.map (some mb)]) := by show Blk _ _ _ _; rw [hw3]; exact Blk.new _ _ _
  have hb3 : Below w2.heap.size w2 w3 := by rw [hw3]; exact ((Below.refl _ _).alloc (Nat.le_refl _) _)
  obtain ⟨g8, hg8⟩ : ∃ g, g = w2.heap.size := ⟨_, rfl⟩
  have HGw3 : Hid (g8 = w2.heap.size) := hg8
  rw [← hg8] at B8
  try rw [← hg8]
  clear hw3 hg8
  replace HB := Lib.hid (HB.out.trans (hb3.mono HB.out.size))
  replace B5 := Lib.hid (B5.out.below hb3)
  replace HKN := Lib.hid (HKN.out.keep hb3)
  clear hb3
  go_upto_region 4 with fail
  have HP : Hid (∀ W, Calls Tryz.prog 94 #[.agg #[.int .i64 r.x, .int .i64 r.y, .int .i64 r.z]] W fun e w' => e = .returned (.int .i64 0) ∧ Below W.heap.size W w') := fun W => by
    have := checkPlace_any r.x r.y r.z W
    rwa [plE_good HL.out.place] at this
  have HC := Lib.hid (fun (W : World) (hb : Below w3.heap.size w3 W) => by
    have := checkListed_any FA fn fc fs mb (kesTo ts tn) W (HFS.out.keep (HB.out.trans (hb.mono HB.out.size))) (HKN.out.keep hb)
    rwa [HL.out.fine] at this)
  refine wp_region_grow 5 (by kernel_rfl) (by kernel_rfl) [GR.eq (.map (some mb)), GR.eq (.slice FA fn fc), GR.eq (.int .i64 0), GR.eq (.agg #[.int .i64 r.x, .int .i64 r.y, .int .i64 r.z]), GR.eq (.int .i64 0)] 34 rfl (by kernel_rfl) ?_ ?_
  · refine ⟨?_, ?_, ?_, ?_, ?_, trivial⟩
    · intro a W hE hd ho
      have e8 : a.tmps[8]?.getD undef = .pointer (some ⟨g8, 0, none⟩) := ho 8 (by kernel_rfl)
      have C := (B8.out.below hE)
      have k0 := C.cell 0
      simp only [List.getElem?_toArray, List.getElem?_cons_zero] at k0
      exact gs_same (v := .map (some mb)) (by go_simp) rfl
    · intro a W hE hd ho
      have e1 : a.tmps[1]?.getD undef = .slice FA fn fc := ho 1 (by kernel_rfl)
      exact gs_same (v := .slice FA fn fc) (by go_simp) rfl
    · intro a W hE hd ho
      have e20 : a.tmps[20]?.getD undef = .map (some mb) := hd 0 20 (by kernel_rfl) (by kernel_rfl)
      have e21 : a.tmps[21]?.getD undef = .slice FA fn fc := hd 1 21 (by kernel_rfl) (by kernel_rfl)
      refine gs_call (f := 146) (args := #[.map (some mb), .slice FA fn fc]) (by go_simp) ?_
      refine (HC.out W hE).mono ?_
      rintro e w' ⟨rfl, hb⟩
      exact ⟨_, rfl, hb, rfl⟩
    · intro a W hE hd ho
      have e5 : a.tmps[5]?.getD undef = .pointer (some ⟨g5, 0, none⟩) := ho 5 (by kernel_rfl)
      have C := (B5.out.below hE)
      have k0 := C.cell 0
      have k1 := C.cell 1
      have k2 := C.cell 2
      simp only [List.getElem?_toArray, List.getElem?_cons_zero, List.getElem?_cons_succ] at k0 k1 k2
      exact gs_same (v := .agg #[.int .i64 r.x, .int .i64 r.y, .int .i64 r.z]) (by go_simp) rfl
    · intro a W hE hd ho
      have e23 : a.tmps[23]?.getD undef = .agg #[.int .i64 r.x, .int .i64 r.y, .int .i64 r.z] := hd 3 23 (by kernel_rfl) (by kernel_rfl)
      refine gs_call (f := 94) (args := #[.agg #[.int .i64 r.x, .int .i64 r.y, .int .i64 r.z]]) (by go_simp) ?_
      refine (HP.out W).mono ?_
      rintro e w' ⟨rfl, hb⟩
      exact ⟨_, rfl, hb, rfl⟩
  intro vs w4 hE hR
  have y0 : vs 0 = .map (some mb) := hR 0 (by omega)
  have y1 : vs 1 = .slice FA fn fc := hR 1 (by omega)
  have y2 : vs 2 = .int .i64 0 := hR 2 (by omega)
  have y3 : vs 3 = .agg #[.int .i64 r.x, .int .i64 r.y, .int .i64 r.z] := hR 3 (by omega)
  have y4 : vs 4 = .int .i64 0 := hR 4 (by omega)
  simp only [List.range, List.range.loop, List.foldl_cons, List.foldl_nil, y0, y1, y2, y3, y4, List.drop_succ_cons, List.drop_zero]
  simp only [dstAt, List.getElem?_toArray, List.getElem?_cons_zero, List.getElem?_cons_succ, Option.bind_some, Act.put, List.setIfInBounds_toArray, List.set_cons_zero, List.set_cons_succ]
  clear y0 y1 y2 y3 y4 hR
  have HE2 := hE
  replace HB := Lib.hid (HB.out.trans (HE2.mono HB.out.size))
  replace B5 := Lib.hid (B5.out.below HE2)
  replace HKN := Lib.hid (HKN.out.keep HE2)
  replace B8 := Lib.hid (B8.out.below HE2)
  clear HE2
  clear hE HC HP
  go_wp2_with fail
  obtain ⟨w5, hw5⟩ : ∃ W, W = (w4.alloc (.cells #[.int .i64 0, .int .i64 0] 37)) := ⟨_, rfl⟩
  rw [← hw5]
  have ES : Hid (Blk w5 (w4.heap.size) 37 #[.int .i64 0, .int .i64 0]) := by show Blk _ _ _ _; rw [hw5]; exact Blk.new _ _ _
  have hb5 : Below w4.heap.size w4 w5 := by rw [hw5]; exact ((Below.refl _ _).alloc (Nat.le_refl _) _)
  obtain ⟨ge, hge⟩ : ∃ g, g = w4.heap.size := ⟨_, rfl⟩
  have HGw5 : Hid (ge = w4.heap.size) := hge
  rw [← hge] at ES
  try rw [← hge]
  clear hw5 hge
  replace HB := Lib.hid (HB.out.trans (hb5.mono HB.out.size))
  replace B5 := Lib.hid (B5.out.below hb5)
  replace HKN := Lib.hid (HKN.out.keep hb5)
  replace B8 := Lib.hid (B8.out.below hb5)
  clear hb5
  refine (first2 _ _ 0 0 _ (ES.out.cell 0) (ES.out.cell 1)).mono ?_
  rw [show firstE [0, 0] = 0 from rfl]
  rintro e w6 ⟨rfl, rfl⟩
  clear ES
  go_upto_region 8 with fail
  obtain ⟨w7, hw7⟩ : ∃ W, W = (w5.alloc (.cells #[.int .i64 0, .int .i64 100000000] 93)) := ⟨_, rfl⟩
  rw [← hw7]
  have B11 : Hid (Blk w7 (w5.heap.size) 93 #[.int .i64 0, .int .i64 100000000]) := by show Blk _ _ _ _; rw [hw7]; exact Blk.new _ _ _
  have hb7 : Below w5.heap.size w5 w7 := by rw [hw7]; exact ((Below.refl _ _).alloc (Nat.le_refl _) _)
  obtain ⟨ga, hga⟩ : ∃ g, g = w5.heap.size := ⟨_, rfl⟩
  have HGw7 : Hid (ga = w5.heap.size) := hga
  rw [← hga] at B11
  try rw [← hga]
  clear hw7 hga
  replace HB := Lib.hid (HB.out.trans (hb7.mono HB.out.size))
  replace B5 := Lib.hid (B5.out.below hb7)
  replace HKN := Lib.hid (HKN.out.keep hb7)
  replace B8 := Lib.hid (B8.out.below hb7)
  clear hb7
  have HM := Lib.hid (mapped_loud FA fn fc fs V g8 ga g5 w7 (HFS.out.keep HB.out) hfn (fun i hi W hb => by
    obtain ⟨k, hk, hnm, hV⟩ := HL.out.val i hi
    have hg := flAt_track HFS.out.1 HL.out.fine hi
    have hW := HB.out.trans (hb.mono HB.out.size)
    obtain ⟨b0, o0, hA0, hcc⟩ := (HFS.out.keep hW).2 (by omega)
    obtain ⟨_, hok⟩ := hcc i hi
    obtain ⟨bt, ot, hAt, hct⟩ := (HTS.out.keep hW).2 (by omega)
    obtain ⟨_, htp⟩ := hct k hk
    have hn0 : 0 < (flAt fs i).n := by have := hok.tr.1; have := hg.lo; omega
    obtain ⟨b, off, hA, hfx⟩ := hok.tr.2 hn0
    have hget := kesTo_has HL.out.names hk
    rw [hnm] at hget
    have hmW := HKN.out.1.keep hb
    have hx := exposed1_any (flAt fs i).nm (flAt fs i).ty b off (flAt fs i).n (flAt fs i).c (flAt fs i).tr r g8 ga g5 mb W htp hfx hg HL.out.place ((hb.cell (p := ⟨g8, 0, none⟩) (lt_of_block B8.out)).trans ((B8.out.cell 0).trans rfl))
      (fun X e => by
        have hX : MapIs X mb (kesTo ts tn) := by
          obtain ⟨arr, clock, h1, h2⟩ := hmW
          exact ⟨arr, clock, e.trans h1, h2⟩
        have := lookup_has typeM_under str_under hX hget false
        simpa using this) hmW.lt
      ⟨(hb.cell (p := ⟨ga, 0, none⟩) (lt_of_block B11.out)).trans ((B11.out.cell 0).trans rfl), (hb.cell (p := ⟨ga, 1, none⟩) (lt_of_block B11.out)).trans ((B11.out.cell 1).trans rfl)⟩
      ⟨(hb.cell (p := ⟨g5, 0, none⟩) (lt_of_block B5.out)).trans ((B5.out.cell 0).trans rfl), (hb.cell (p := ⟨g5, 1, none⟩) (lt_of_block B5.out)).trans ((B5.out.cell 1).trans rfl), (hb.cell (p := ⟨g5, 2, none⟩) (lt_of_block B5.out)).trans ((B5.out.cell 2).trans rfl)⟩
    rw [← hV] at hx
    unfold flV
    rw [hA]
    exact hx))
  clear B5 B8 B11 HKN
  go_wp2_with fail
  refine HM.out.mono ?_
  rintro e w8 ⟨rfl, hlo, hb8⟩
  have HLO := Lib.hid hlo
  replace HB := Lib.hid (HB.out.trans (hb8.mono HB.out.size))
  clear hb8
  clear hlo
  go_wp2
  (try simp only [Exit.inBlock, Exit.then])
  refine bodyPost_ret (v := .tuple #[.slice (some ⟨w7.heap.size, 0, none⟩) fn fn, .int .i64 0]) (by simp [results, Tryz.results139, go_sem, asAddr]) rfl ?_
  exact ⟨_, rfl, HLO.out, HB.out⟩
end Go.Proofs.YtmafmebcgmegeaaGreatDoor

namespace Go.Proofs.YtmafmebcgmegeaaGreatDoor
open Go.RowKit Go.Sort
theorem enters_compare (args : Array Value) (W : World) : (callFunc 143 args).run Tryz.prog W = .ok (.enter 143 args) W := by kernel_rfl
theorem compare_loud (f m : Fl) (x y : Int) (w : World) :
    Calls Tryz.prog 143 #[.agg #[.string f.nm, .string f.ty, .slice f.A f.n f.c, .int .i64 x], .agg #[.string m.nm, .string m.ty, .slice m.A m.n m.c, .int .i64 y]] w fun e w' => e = .returned (.int .i64 (cmpI x y)) ∧ Below w.heap.size w w' := by
  go_enter Tryz.func143, Tryz.ntmps143
  go_upto_region 1 with fail
  obtain ⟨w1, hw1⟩ : ∃ W, W = ((w.alloc (.cells #[.string f.nm, .string f.ty, .slice f.A f.n f.c, .int .i64 x] 213)).alloc (.cells #[.string m.nm, .string m.ty, .slice m.A m.n m.c, .int .i64 y] 213)) := ⟨_, rfl⟩
  rw [← hw1]
  have A : Hid (Blk w1 (w.heap.size) 213 #[.string f.nm, .string f.ty, .slice f.A f.n f.c, .int .i64 x]) := by show Blk _ _ _ _; rw [hw1]; exact (Blk.new _ _ _).alloc _
  have B : Hid (Blk w1 (w.heap.size + 1) 213 #[.string m.nm, .string m.ty, .slice m.A m.n m.c, .int .i64 y]) := by show Blk _ _ _ _; rw [hw1]; exact Blk.at_size _ _ (by simp)
  have hb1 : Below w.heap.size w w1 := by rw [hw1]; exact (((Below.refl _ _).alloc (Nat.le_refl _) _).alloc (by simp) _)
  obtain ⟨ga, hga⟩ : ∃ g, g = w.heap.size := ⟨_, rfl⟩
  obtain ⟨gb, hgb⟩ : ∃ g, g = w.heap.size + 1 := ⟨_, rfl⟩
  have HGw1 : Hid (ga = w.heap.size ∧ gb = w.heap.size + 1) := ⟨hga, hgb⟩
  rw [← hgb] at B
  try rw [← hgb]
  rw [← hga] at A
  try rw [← hga]
  clear hw1 hga hgb
  have HB : Hid (Below w.heap.size w w1) := hb1
  have AA := A.out
  have BB := B.out
  have ac0 := AA.cell 0; have af0 := AA.frozen 0; have ac1 := AA.cell 1; have af1 := AA.frozen 1; have ac2 := AA.cell 2; have af2 := AA.frozen 2; have ac3 := AA.cell 3; have af3 := AA.frozen 3
  simp only [List.getElem?_toArray, List.getElem?_cons_zero, List.getElem?_cons_succ] at ac0 ac1 ac2 ac3
  clear AA
  have bc0 := BB.cell 0; have bf0 := BB.frozen 0; have bc1 := BB.cell 1; have bf1 := BB.frozen 1; have bc2 := BB.cell 2; have bf2 := BB.frozen 2; have bc3 := BB.cell 3; have bf3 := BB.frozen 3
  simp only [List.getElem?_toArray, List.getElem?_cons_zero, List.getElem?_cons_succ] at bc0 bc1 bc2 bc3
  clear BB
  clear hb1 A B
  go_wp2_with fail
  refine (compare_int x y w1).mono ?_
  rintro e w2 ⟨rfl, rfl⟩
  go_wp2
  go_ret
  exact ⟨rfl, HB.out⟩
/-- The index of the greatest of the first numbers, the first one of several. -/
def bestTo (V : Nat → Int) : Nat → Nat
  | 0 => 0
  | k + 1 => if V (bestTo V k) < V (k + 1) then k + 1 else bestTo V k
theorem cmpI_pos (x y : Int) : decide (0 < cmpI x y) = decide (y < x) := by
  unfold cmpI
  by_cases h1 : x < y
  · rw [if_pos h1]; simp; omega
  · rw [if_neg h1]
    by_cases h2 : y < x
    · rw [if_pos h2]; simp [h2]
    · rw [if_neg h2]; simp; omega
/-- The row of a flight with its exposure. -/
theorem LoudsAt.row {w : World} {g n i : Nat} {fs : List Fl} {V : Nat → Int} (h : LoudsAt w g n fs V) (hi : i < n) : Hid (∀ W, Below w.heap.size w W → W.cell? ⟨g, i * 4, none⟩ = some (.string (flAt fs i).nm) ∧ W.cell? ⟨g, i * 4 + 1, none⟩ = some (.string (flAt fs i).ty) ∧ W.cell? ⟨g, i * 4 + 2, none⟩ = some (.slice (flAt fs i).A (flAt fs i).n (flAt fs i).c) ∧ W.cell? ⟨g, i * 4 + 3, none⟩ = some (.int .i64 (V i))) :=
  fun _ hb => (h.keep hb) i hi
attribute [local go_sem] enters_compare in
set_option maxHeartbeats 1000000 in
set_option maxRecDepth 100000 in
theorem maxFunc_loud (g n : Nat) (fs : List Fl) (V : Nat → Int) (w : World) (hz : LoudsAt w g n fs V) (hn0 : 0 < n) (hn : n ≤ 1000000) :
    Calls Tryz.prog 142 #[.slice (some ⟨g, 0, none⟩) n n, .func (.func 143) #[] #[]] w
      fun e w' => e = .returned (.agg (loudV (flAt fs (bestTo V (n - 1))).nm (flAt fs (bestTo V (n - 1))).ty (flAt fs (bestTo V (n - 1))).A (flAt fs (bestTo V (n - 1))).n (flAt fs (bestTo V (n - 1))).c (V (bestTo V (n - 1))))) ∧ Below w.heap.size w w' := by
  have HZ := Lib.hid hz
  clear hz
  go_enter Tryz.func142, Tryz.ntmps142
  go_upto_region 3 with fail
  obtain ⟨w1, hw1⟩ : ∃ W, W = (w.alloc (.cells #[.string ⟨#[]⟩, .string ⟨#[]⟩, .slice none 0 0, .int .i64 0] 213)) := ⟨_, rfl⟩
  rw [← hw1]
  have B4 : Hid (Blk w1 (w.heap.size) 213 #[.string ⟨#[]⟩, .string ⟨#[]⟩, .slice none 0 0, .int .i64 0]) := by show Blk _ _ _ _; rw [hw1]; exact Blk.new _ _ _
  have hb1 : Below w.heap.size w w1 := by rw [hw1]; exact ((Below.refl _ _).alloc (Nat.le_refl _) _)
  obtain ⟨g4, hg4⟩ : ∃ g, g = w.heap.size := ⟨_, rfl⟩
  have HGw1 : Hid (g4 = w.heap.size) := hg4
  rw [← hg4] at B4
  try rw [← hg4]
  clear hw1 hg4
  have HB : Hid (Below w.heap.size w w1) := hb1
  clear hb1
  obtain ⟨c0, c1, c2, c3⟩ := (HZ.out.keep HB.out).row hn0 |>.out w1 (Below.refl _ _)
  simp only [Nat.zero_mul, Nat.zero_add] at c0 c1 c2 c3
  have h0n : (0 : Int) < (n : Int) := by omega
  go_upto_region 4 with fail
  obtain ⟨w2, hw2⟩ : ∃ W, W = (w1.alloc (.cells #[.string (flAt fs 0).nm, .string (flAt fs 0).ty, .slice (flAt fs 0).A (flAt fs 0).n (flAt fs 0).c, .int .i64 (V 0)] 213)) := ⟨_, rfl⟩
  rw [← hw2]
  have B5 : Hid (Blk w2 (w1.heap.size) 213 #[.string (flAt fs 0).nm, .string (flAt fs 0).ty, .slice (flAt fs 0).A (flAt fs 0).n (flAt fs 0).c, .int .i64 (V 0)]) := by show Blk _ _ _ _; rw [hw2]; exact Blk.new _ _ _
  have hb2 : Below w1.heap.size w1 w2 := by rw [hw2]; exact ((Below.refl _ _).alloc (Nat.le_refl _) _)
  obtain ⟨g5, hg5⟩ : ∃ g, g = w1.heap.size := ⟨_, rfl⟩
  have HGw2 : Hid (g5 = w1.heap.size) := hg5
  rw [← hg5] at B5
  try rw [← hg5]
  clear hw2 hg5
  have HN : Hid (w.heap.size ≤ g5 ∧ g4 < g5) := ⟨by rw [HGw2.out]; exact HB.out.size, by rw [HGw2.out]; exact lt_of_block B4.out⟩
  replace HB := Lib.hid (HB.out.trans (hb2.mono HB.out.size))
  replace B4 := Lib.hid (B4.out.below hb2)
  clear hb2
  clear c0 c1 c2 c3 h0n
  go_wp2
  go_loopw [6] (fun i wr => ∃ k : Nat, 1 ≤ k ∧ k ≤ n ∧ i = .int .i64 k ∧ Hid (Blk wr g5 213 (loudV (flAt fs (bestTo V (k - 1))).nm (flAt fs (bestTo V (k - 1))).ty (flAt fs (bestTo V (k - 1))).A (flAt fs (bestTo V (k - 1))).n (flAt fs (bestTo V (k - 1))).c (V (bestTo V (k - 1))))) ∧ Hid (Blk wr g4 213 #[.string ⟨#[]⟩, .string ⟨#[]⟩, .slice none 0 0, .int .i64 0]) ∧ Hid (Below w.heap.size w wr)) (fun i _ => n - (intOf i).toNat)
  case atStart => exact ⟨1, Nat.le_refl _, hn0, rfl, B5, B4, HB⟩
  case round =>
    clear B5 B4 HB
    obtain ⟨k, hk1, hk, rfl, B5, B4, HB⟩ := hrel
    by_cases hlt : k < n
    · have HR := ((HZ.out.keep HB.out).row hlt)
      have HBE : Hid (bestTo V (k + 1 - 1) = if V (bestTo V (k - 1)) < V k then k else bestTo V (k - 1)) := by
        show _ = _
        obtain ⟨q, rfl⟩ : ∃ q, k = q + 1 := ⟨k - 1, by omega⟩
        rfl
      obtain ⟨j, hj⟩ : ∃ j, j = bestTo V (k - 1) := ⟨_, rfl⟩
      rw [← hj] at B5 HBE
      obtain ⟨f, hf⟩ : ∃ f, f = flAt fs k := ⟨_, rfl⟩
      obtain ⟨m, hm⟩ : ∃ m, m = flAt fs j := ⟨_, rfl⟩
      obtain ⟨x, hx⟩ : ∃ x, x = V k := ⟨_, rfl⟩
      obtain ⟨y, hy⟩ : ∃ y, y = V j := ⟨_, rfl⟩
      rw [← hf, ← hx] at HR
      rw [← hm, ← hy] at B5
      rw [← hx, ← hy] at HBE
      have HFM : Hid (f = flAt fs k ∧ m = flAt fs j ∧ x = V k ∧ y = V j) := ⟨hf, hm, hx, hy⟩
      unfold loudV at B5
      clear hj hf hm hx hy HZ
      go_upto_region 7 with fail
      refine wp_region_grow 7 (by kernel_rfl) (by kernel_rfl) [GR.eq (.func (.func 143) #[] #[]), GR.eq (.slice (some ⟨g, 0, none⟩) n n), GR.eq (.int .i64 k), GR.eq (.pointer (some ⟨g, k * 4, none⟩)), GR.eq (.agg #[.string f.nm, .string f.ty, .slice f.A f.n f.c, .int .i64 x]), GR.eq (.agg #[.string m.nm, .string m.ty, .slice m.A m.n m.c, .int .i64 y]), GR.eq (.int .i64 (cmpI x y))] 33 rfl (by kernel_rfl) ?_ ?_
      · refine ⟨?_, ?_, ?_, ?_, ?_, ?_, ?_, trivial⟩
        · intro a W hE hd ho
          have e1 : a.tmps[1]?.getD undef = .func (.func 143) #[] #[] := ho 1 (by kernel_rfl)
          exact gs_same (v := .func (.func 143) #[] #[]) (by go_simp) rfl
        · intro a W hE hd ho
          have e0 : a.tmps[0]?.getD undef = .slice (some ⟨g, 0, none⟩) n n := ho 0 (by kernel_rfl)
          exact gs_same (v := .slice (some ⟨g, 0, none⟩) n n) (by go_simp) rfl
        · intro a W hE hd ho
          have e6 : a.tmps[6]?.getD undef = .int .i64 k := ho 6 (by kernel_rfl)
          exact gs_same (v := .int .i64 k) (by go_simp) rfl
        · intro a W hE hd ho
          have e21 : a.tmps[21]?.getD undef = .slice (some ⟨g, 0, none⟩) n n := hd 1 21 (by kernel_rfl) (by kernel_rfl)
          have e22 : a.tmps[22]?.getD undef = .int .i64 k := hd 2 22 (by kernel_rfl) (by kernel_rfl)
          have i1 : (0 : Int) ≤ (k : Int) := by omega
          have i2 : (k : Int) < (n : Int) := by omega
          exact gs_same (v := .pointer (some ⟨g, k * 4, none⟩)) (by go_simp) rfl
        · intro a W hE hd ho
          have e23 : a.tmps[23]?.getD undef = .pointer (some ⟨g, k * 4, none⟩) := hd 3 23 (by kernel_rfl) (by kernel_rfl)
          obtain ⟨k0, k1, k2, k3⟩ := HR.out W hE
          exact gs_same (v := .agg #[.string f.nm, .string f.ty, .slice f.A f.n f.c, .int .i64 x]) (by go_simp) rfl
        · intro a W hE hd ho
          have e5 : a.tmps[5]?.getD undef = .pointer (some ⟨g5, 0, none⟩) := ho 5 (by kernel_rfl)
          have C := B5.out.below hE
          have k0 := C.cell 0
          have k1 := C.cell 1
          have k2 := C.cell 2
          have k3 := C.cell 3
          simp only [List.getElem?_toArray, List.getElem?_cons_zero, List.getElem?_cons_succ] at k0 k1 k2 k3
          exact gs_same (v := .agg #[.string m.nm, .string m.ty, .slice m.A m.n m.c, .int .i64 y]) (by go_simp) rfl
        · intro a W hE hd ho
          have e20 : a.tmps[20]?.getD undef = .func (.func 143) #[] #[] := hd 0 20 (by kernel_rfl) (by kernel_rfl)
          have e24 : a.tmps[24]?.getD undef = .agg #[.string f.nm, .string f.ty, .slice f.A f.n f.c, .int .i64 x] := hd 4 24 (by kernel_rfl) (by kernel_rfl)
          have e25 : a.tmps[25]?.getD undef = .agg #[.string m.nm, .string m.ty, .slice m.A m.n m.c, .int .i64 y] := hd 5 25 (by kernel_rfl) (by kernel_rfl)
          refine gs_call (f := 143) (args := #[.agg #[.string f.nm, .string f.ty, .slice f.A f.n f.c, .int .i64 x], .agg #[.string m.nm, .string m.ty, .slice m.A m.n m.c, .int .i64 y]]) (by go_simp) ?_
          refine (compare_loud f m x y W).mono ?_
          rintro e w' ⟨rfl, hb⟩
          exact ⟨_, rfl, hb, rfl⟩
      intro vs wq hE hR
      have y0 : vs 0 = .func (.func 143) #[] #[] := hR 0 (by omega)
      have y1 : vs 1 = .slice (some ⟨g, 0, none⟩) n n := hR 1 (by omega)
      have y2 : vs 2 = .int .i64 k := hR 2 (by omega)
      have y3 : vs 3 = .pointer (some ⟨g, k * 4, none⟩) := hR 3 (by omega)
      have y4 : vs 4 = .agg #[.string f.nm, .string f.ty, .slice f.A f.n f.c, .int .i64 x] := hR 4 (by omega)
      have y5 : vs 5 = .agg #[.string m.nm, .string m.ty, .slice m.A m.n m.c, .int .i64 y] := hR 5 (by omega)
      have y6 : vs 6 = .int .i64 (cmpI x y) := hR 6 (by omega)
      simp only [List.range, List.range.loop, List.foldl_cons, List.foldl_nil, y0, y1, y2, y3, y4, y5, y6, List.drop_succ_cons, List.drop_zero]
      simp only [dstAt, List.getElem?_toArray, List.getElem?_cons_zero, List.getElem?_cons_succ, Option.bind_some, Act.put, List.setIfInBounds_toArray, List.set_cons_zero, List.set_cons_succ]
      clear y0 y1 y2 y3 y4 y5 y6 hR
      have HE2 := hE
      replace HB := Lib.hid (HB.out.trans (HE2.mono HB.out.size))
      replace B5 := Lib.hid (B5.out.below HE2)
      replace B4 := Lib.hid (B4.out.below HE2)
      clear HE2
      obtain ⟨k0, k1, k2, k3⟩ := HR.out _ hE
      clear hE
      have HCP : Hid (decide (0 < cmpI x y) = decide (y < x)) := cmpI_pos x y
      obtain ⟨q, hq⟩ : ∃ q, q = cmpI x y := ⟨_, rfl⟩
      rw [← hq] at HCP ⊢
      clear hq
      by_cases hlt2 : y < x
      · have hq : 0 < q := by have := HCP.out; simp [hlt2] at this; exact this
        have hB : bestTo V (k + 1 - 1) = k := by rw [HBE.out, if_pos hlt2]
        go_upto_region 6 with (refine wpList_store_row rfl 213 _ _ rfl g5 #[.string f.nm, .string f.ty, .slice f.A f.n f.c, .int .i64 x] rfl rfl 213 _ B5.out (by kernel_rfl) rfl (by simp [Value.oneCell']) ?_)
        obtain ⟨wz, hwz⟩ : ∃ X, X = wq.setRow g5 #[.string f.nm, .string f.ty, .slice f.A f.n f.c, .int .i64 x] := ⟨_, rfl⟩
        rw [← hwz]
        have B5F : Hid (Blk wz g5 213 (loudV (flAt fs (bestTo V (k + 1 - 1))).nm (flAt fs (bestTo V (k + 1 - 1))).ty (flAt fs (bestTo V (k + 1 - 1))).A (flAt fs (bestTo V (k + 1 - 1))).n (flAt fs (bestTo V (k + 1 - 1))).c (V (bestTo V (k + 1 - 1))))) := by
          show Blk _ _ _ _
          rw [hB, ← HFM.out.1, ← HFM.out.2.2.1, hwz]
          exact B5.out.setRow _
        have B4F : Hid (Blk wz g4 213 #[.string ⟨#[]⟩, .string ⟨#[]⟩, .slice none 0 0, .int .i64 0]) := by
          show Blk _ _ _ _
          rw [hwz]
          exact B4.out.setRow_far (by have := HN.out.2; omega) _
        have HBF : Hid (Below w.heap.size w wz) := by
          show Below _ _ _
          rw [hwz]
          exact HB.out.setRow' HN.out.1 _
        clear hwz hB
        go_wp2
        go_roundw
        case rel => exact ⟨k + 1, by omega, by omega, by go_num, B5F, B4F, HBF⟩
        case measure => simp [intOf]; omega
      · have hq : ¬ 0 < q := by have := HCP.out; simp [hlt2] at this; omega
        have hB : bestTo V (k + 1 - 1) = j := by rw [HBE.out, if_neg hlt2]
        have B5F : Hid (Blk wq g5 213 (loudV (flAt fs (bestTo V (k + 1 - 1))).nm (flAt fs (bestTo V (k + 1 - 1))).ty (flAt fs (bestTo V (k + 1 - 1))).A (flAt fs (bestTo V (k + 1 - 1))).n (flAt fs (bestTo V (k + 1 - 1))).c (V (bestTo V (k + 1 - 1))))) := by
          show Blk _ _ _ _
          rw [hB, ← HFM.out.2.1, ← HFM.out.2.2.2]
          exact B5.out
        clear hB
        go_wp2
        go_roundw
        case rel => exact ⟨k + 1, by omega, by omega, by go_num, B5F, B4, HB⟩
        case measure => simp [intOf]; omega
    · obtain rfl : k = n := by omega
      obtain ⟨j, hj⟩ : ∃ j, j = bestTo V (k - 1) := ⟨_, rfl⟩
      have HJ := Lib.hid hj
      rw [← hj] at B5
      unfold loudV at B5
      obtain ⟨m, hm⟩ : ∃ m, m = flAt fs j := ⟨_, rfl⟩
      obtain ⟨y, hy⟩ : ∃ y, y = V j := ⟨_, rfl⟩
      rw [← hm, ← hy] at B5
      have HM : Hid (m = flAt fs j ∧ y = V j) := ⟨hm, hy⟩
      clear hj hm hy
      have BB := B5.out
      have zc0 := BB.cell 0; have zf0 := BB.frozen 0; have zc1 := BB.cell 1; have zf1 := BB.frozen 1; have zc2 := BB.cell 2; have zf2 := BB.frozen 2; have zc3 := BB.cell 3; have zf3 := BB.frozen 3
      simp only [List.getElem?_toArray, List.getElem?_cons_zero, List.getElem?_cons_succ] at zc0 zc1 zc2 zc3
      clear BB
      have hlv := (B4.out.setRow #[.string m.nm, .string m.ty, .slice m.A m.n m.c, .int .i64 y]).lv Tryz.prog (T := 213) Tryz.underlying213 rfl (by kernel_rfl)
      have HLV := Lib.hid hlv
      clear hlv
      go_wp2_with (refine wpList_store_row rfl 213 _ _ rfl g4 #[.string m.nm, .string m.ty, .slice m.A m.n m.c, .int .i64 y] rfl rfl 213 _ B4.out (by kernel_rfl) rfl (by simp [Value.oneCell']) ?_)
      refine bodyPost_ret (v := .agg #[.string m.nm, .string m.ty, .slice m.A m.n m.c, .int .i64 y]) (by simp [results, Tryz.results142, asAddr]; exact HLV.out) rfl ?_
      exact ⟨by rw [← HJ.out, ← HM.out.1, ← HM.out.2]; rfl, HB.out.setRow' (by rw [HGw1.out]; exact Nat.le_refl _) _⟩
end Go.Proofs.YtmafmebcgmegeaaGreatDoor
