/- For every type of the reference and every string, SourceStrings returns true, whatever memory holds, where the listed variables lie as the program lays them: the law's card. -/
import Derived.Test.YtmafmebcgmegeaaGreatDoorGz1
import Derived.Test.YtmafmebcgmegeaaGreatDoorGz40
import Derived.Test.YtmafmebcgmegeaaGreatDoorGz41
import Derived.Test.YtmafmebcgmegeaaGreatDoorGz42
import Derived.Test.YtmafmebcgmegeaaGreatDoorGz26
import Derived.Test.YtmafmebcgmegeaaGreatDoorGz27
namespace Go.Proofs.YtmafmebcgmegeaaGreatDoor
open Go.RowKit Go.Sort
def GR.rt (w0 : World) (nm : ByteArray) (sh : List Int) (T : Bell.Ty) (sn qn gn : Nat) : GR :=
 ⟨fun v W => ∃ cs A1 k1 A2 k2 A3 k3, v = .agg cs /\ RTy W cs nm sh T A1 sn k1 A2 qn k2 A3 gn k3, fun ⟨cs, A1, k1, A2, k2, A3, k3, e, h⟩ hE => ⟨cs, A1, k1, A2, k2, A3, k3, e, h.keep hE⟩⟩
set_option maxHeartbeats 4000000 in
set_option maxRecDepth 100000 in
theorem strings_walk {nm : ByteArray} {sh : List Int} {T : Bell.Ty} {sa qa ga : Option Addr} {sn sc qn qc gn gc : Nat} {cs : Array Value} (s : ByteArray) (w : World) (hss : s.size <= 140737488351232) (hT : RTy w cs nm sh T sa sn sc qa qn qc ga gn gc) (hd8 : T.direct.length = 8) (hm : gn <= 140737488351232) (hu : Turned w) (hf : FirstWords w) (ht : Tab w) :
  Calls Tryz.prog 8 #[.agg cs, .string s] w fun e w' => e = .returned (.bool true) /\ Below w.heap.size w w' := by
 have U := lh hu; have F := lh hf; have TB := lh ht; have HT := lh hT; have HD8 := lh hd8; have IT : Hid ((Tryz.prog.info? 26).map (·.size) = some cs.size) := by show _ = _; rw [hT.cells]; kernel_rfl
 clear hu hf ht hT hd8; obtain ⟨BAD, hBAD⟩ : ∃ x, x = Bell.tyE (nameE nm) sh T := ⟨_, rfl⟩; obtain ⟨S, hSD⟩ : ∃ x, x = if BAD = 0 then typeB nm sh T else ⟨#[]⟩ := ⟨_, rfl⟩; obtain ⟨N, hN⟩ : ∃ x : Int, x = (parseN s : Int) := ⟨_, rfl⟩; obtain ⟨E2, hE2⟩ : ∃ x, x = parseE s := ⟨_, rfl⟩; obtain ⟨SN, hSN⟩ : ∃ x, x = (parseS s).1 := ⟨_, rfl⟩; obtain ⟨SS, hSS⟩ : ∃ x, x = (parseS s).2.1 := ⟨_, rfl⟩; obtain ⟨STT, hST⟩ : ∃ x, x = (parseS s).2.2 := ⟨_, rfl⟩; have HPS : Hid (SN = (parseS s).1 /\ SS = (parseS s).2.1 /\ STT = (parseS s).2.2) := ⟨hSN, hSS, hST⟩; have HBAD := lh hBAD; have HSD := lh hSD; have HN := lh hN; have HE2 := lh hE2; clear hBAD hSD hN hE2 hSN hSS hST; obtain ⟨m1, hm1⟩ : ∃ m, m = SS.length := ⟨_, rfl⟩; obtain ⟨m2, hm2⟩ : ∃ m, m = STT.squares.length := ⟨_, rfl⟩; obtain ⟨m3, hm3⟩ : ∃ m, m = STT.sets.length := ⟨_, rfl⟩; have HS1 : Hid (SS.length = m1) := hm1.symm; have HS2 : Hid (STT.squares.length = m2) := hm2.symm
 have HS3 : Hid (STT.sets.length = m3) := hm3.symm; clear hm1 hm2 hm3
 go_enter Tryz.func8, Tryz.ntmps8
 go_upto_region 1 with fail
 obtain ⟨w1, hw1⟩ : ∃ W, W = (w.alloc (.cells cs 26)) := ⟨_, rfl⟩; rw [<- hw1]; have TT : Hid (Blk w1 (w.heap.size) 26 cs) := by show Blk _ _ _ _; rw [hw1]; exact Blk.new _ _ _
 have hb : Below w.heap.size w w1 := by rw [hw1]; exact ((Below.refl _ _).alloc (Nat.le_refl _) _)
 obtain ⟨g2, hg2⟩ : ∃ g, g = w.heap.size := ⟨_, rfl⟩; have HGw1 : Hid (g2 = w.heap.size) := hg2; rw [<- hg2] at TT
 try rw [<- hg2]
 clear hw1 hg2; have HB := lh hb; replace U := lh (U.out.keep hb); replace F := lh (F.out.keep hb); replace TB := lh (TB.out.keep hb); replace HT := lh (HT.out.keep hb); clear hb HGw1
 go_wp2_with (refine wpList_load_row rfl 26 _ rfl g2 rfl 26 cs (0, 0) _ TT.out Tryz.underlying26 rfl IT.out ?_)
 refine (refShortTy_any w1 HT.out hm).mono ?_; rintro e w2 ⟨⟨b, rfl, hsh⟩, hb⟩; replace HB := lh (HB.out.trans (hb.mono HB.out.size)); replace TT := lh (TT.out.below hb); replace U := lh (U.out.keep hb); replace F := lh (F.out.keep hb); replace TB := lh (TB.out.keep hb); replace HT := lh (HT.out.keep hb); clear hb
 cases b
 case false =>
  go_wp2_with fail
  refine (awake2_any w2 U.out F.out TB.out).mono ?_; rintro e wZ ⟨rfl, hb⟩; replace HB := lh (HB.out.trans (hb.mono HB.out.size)); clear hb; go_wp2; go_ret; exact ⟨rfl, HB.out⟩
 have hS := lh (hsh rfl); clear hsh
 by_cases hlong : 300 < s.size /\ s.size ≠ 4097
 ·have t1 : decide ((300 : Int) < (s.size : Int)) = true := by simp; omega
  have t2 : ((s.size : Int) != 4097) = true := by simp; omega
  have t3 : ¬ (s.size : Int) = 4097 := by omega
  clear hlong
  go_wp2_with fail
  refine (awake2_any w2 U.out F.out TB.out).mono ?_; rintro e wZ ⟨rfl, hb⟩; replace HB := lh (HB.out.trans (hb.mono HB.out.size)); clear hb; go_wp2; go_ret; exact ⟨rfl, HB.out⟩
 have HSZ : Hid (s.size <= 80000) := by show _ <= _; omega
 have HBS : Hid (BdS (parseS s)) := parseS_bd s (by have := HSZ.out; omega); have HM1 : Hid (m1 <= 100000) := by show _ <= _; rw [<- HS1.out, HPS.out.2.1]; exact HBS.out.2.1
 have HM2 : Hid (m2 <= 100000) := by show _ <= _; rw [<- HS2.out, HPS.out.2.2]; exact HBS.out.2.2.1
 have HM3 : Hid (m3 <= 100000) := by show _ <= _; rw [<- HS3.out, HPS.out.2.2]; exact parseS_sets s (by have := HSZ.out; omega)
 have HMB : Hid (∀ k, k < m3 -> ((STT.sets.getD k (0, [])).2).length <= 100000) := by show ∀ k, _; rw [<- HS3.out, HPS.out.2.2]; exact HBS.out.2.2.2
 have t12 : (decide ((300 : Int) < (s.size : Int)) = true /\ ((s.size : Int) != 4097) = false) ∨ decide ((300 : Int) < (s.size : Int)) = false := by
  by_cases h3 : 300 < s.size
  ·exact Or.inl ⟨by simp; omega, by simp; omega⟩
  ·exact Or.inr (by simp; omega)
 clear hlong; rcases t12 with ⟨t1, t2⟩ | t1
 all_goals
  go_wp2_with (refine wpList_load_row rfl 26 _ rfl g2 rfl 26 cs (0, 0) _ TT.out Tryz.underlying26 rfl IT.out ?_)
  refine (given_ok w2 HT.out HD8.out hS.out).mono ?_; rintro e w3 ⟨cp, A1, c1, A2, c2, A3, c3, rfl, hTA, hb⟩; have HTA := lh hTA; replace HB := lh (HB.out.trans (hb.mono HB.out.size)); replace TT := lh (TT.out.below hb); replace U := lh (U.out.keep hb); replace F := lh (F.out.keep hb); replace TB := lh (TB.out.keep hb); replace HT := lh (HT.out.keep hb); clear hb; clear hTA
  go_wp2_with fail
  refine (PrintT_any w3 HTA.out F.out TB.out).mono ?_; rw [<- HBAD.out, <- HSD.out]; rintro e w4 ⟨rfl, hb⟩; replace HB := lh (HB.out.trans (hb.mono HB.out.size)); replace TT := lh (TT.out.below hb); replace U := lh (U.out.keep hb); replace F := lh (F.out.keep hb); replace TB := lh (TB.out.keep hb); replace HT := lh (HT.out.keep hb); clear hb; clear HTA
  go_upto_region 4 with fail
  go_wp2_with fail
  refine (Parse_any w4 s HSZ.out F.out).mono ?_; rintro e w5 ⟨hb, c7, a1, b1, k1, a2, b2, k2, a3, b3, k3, rfl, hR⟩; rw [<- HN.out, <- HE2.out]; rw [<- HPS.out.1, <- HPS.out.2.1, <- HPS.out.2.2] at hR; obtain rfl : m1 = b1 := HS1.out.symm.trans hR.shares.1; obtain rfl : m2 = b2 := HS2.out.symm.trans hR.squares.1; obtain rfl : m3 = b3 := HS3.out.symm.trans hR.sets.1; have I7 : Hid ((Tryz.prog.info? 42).map (·.size) = some c7.size) := by show _ = _; rw [hR.cells]; kernel_rfl
  have Z7 : Hid (c7.size = 13 /\ c7.all (·.oneCell') = true) := ⟨by rw [hR.cells]; rfl, by rw [hR.cells]; simp [tyV, Value.oneCell']⟩; have H7 := lh hR; replace HB := lh (HB.out.trans (hb.mono HB.out.size)); replace TT := lh (TT.out.below hb); replace U := lh (U.out.keep hb); replace F := lh (F.out.keep hb); replace TB := lh (TB.out.keep hb); replace HT := lh (HT.out.keep hb); clear hb; clear hR
  go_upto_region 5 with (refine wpList_store_row rfl 42 _ _ rfl w5.heap.size c7 rfl rfl 42 #[.string ⟨#[]⟩, .slice none 0 0, .int .i64 0, .int .i64 0, .int .i64 0, .int .i64 0, .int .i64 0, .int .i64 0, .int .i64 0, .int .i64 0, .int .i64 0, .slice none 0 0, .slice none 0 0] (Blk.new _ _ _) I7.out (by rw [Z7.out.1]; rfl) Z7.out.2 ?_)
  obtain ⟨g7, hg7⟩ : ∃ g, g = w5.heap.size := ⟨_, rfl⟩; obtain ⟨w6, hw6⟩ : ∃ W, W = (w5.alloc (.cells #[.string ⟨#[]⟩, .slice none 0 0, .int .i64 0, .int .i64 0, .int .i64 0, .int .i64 0, .int .i64 0, .int .i64 0, .int .i64 0, .int .i64 0, .int .i64 0, .slice none 0 0, .slice none 0 0] 42)).setRow w5.heap.size c7 := ⟨_, rfl⟩; rw [<- hw6, <- hg7]; have hb : Below w5.heap.size w5 w6 := by rw [hw6]; exact ((Below.refl _ _).alloc (Nat.le_refl _) _).setRow' (Nat.le_refl _) _
  have B7 : Hid (Blk w6 g7 42 c7) := by show Blk _ _ _ _; rw [hw6, hg7]; exact (Blk.new _ _ _).setRow _
  replace H7 := lh (H7.out.keep hb); replace HB := lh (HB.out.trans (hb.mono HB.out.size)); replace TT := lh (TT.out.below hb); replace U := lh (U.out.keep hb); replace F := lh (F.out.keep hb); replace TB := lh (TB.out.keep hb); replace HT := lh (HT.out.keep hb); clear hb; clear hw6 hg7
  go_upto_region 6 with (refine wpList_load_row rfl 26 _ rfl g2 rfl 26 cs (0, 0) _ TT.out Tryz.underlying26 rfl IT.out ?_)
  refine (refType_big w6 HT.out HD8.out ⟨by have := hS.out.name; omega, by have := hS.out.shares; omega, by have := hS.out.squares; omega, by have := hS.out.sets; omega, fun k hk => by have := hS.out.each k hk; omega⟩).mono ?_; rw [<- HBAD.out]; rintro e w7 ⟨rfl, hb⟩; replace H7 := lh (H7.out.keep hb); replace HB := lh (HB.out.trans (hb.mono HB.out.size)); replace TT := lh (TT.out.below hb); replace U := lh (U.out.keep hb); replace F := lh (F.out.keep hb); replace TB := lh (TB.out.keep hb); replace HT := lh (HT.out.keep hb); replace B7 := lh (B7.out.below hb); clear hb
  go_upto_if 44 with fail
  go_cut [11] (fun v wx => v = .string S /\ Hid (Below w7.heap.size w7 wx))
  case first =>
   by_cases hz : BAD = 0
   ·have hz1 : (BAD == 0) = true := by simp [hz]
    have HZ := lh hz; clear hz; obtain ⟨qb, qo, gb, go, rfl, rfl, hta, hG⟩ := rty_ok HT.out HD8.out (HBAD.out.symm.trans HZ.out); have hnm : nm.size <= 24 := name_size (HBAD.out.symm.trans HZ.out); have hv : Hid (S = typeB nm sh T) := by show _ = _; rw [HSD.out, if_pos HZ.out]
    have KP := lh (refPrintT_any w7 HT.out hG hnm); rw [<- hv.out] at KP; clear hv hta hG hnm
    go_wp2_with (refine wpList_load_row rfl 26 _ rfl g2 rfl 26 cs (0, 0) _ TT.out Tryz.underlying26 rfl IT.out ?_)
    refine KP.out.mono ?_; rintro e w8 ⟨rfl, hb⟩; go_wp2; go_meet; exact ⟨rfl, hb⟩
   ·have hz1 : (BAD == 0) = false := by simp [hz]
    have hv : Hid (S = ⟨#[]⟩) := by show _ = _; rw [HSD.out, if_neg hz]
    clear hz; go_wp2; go_meet; exact ⟨by rw [hv.out], Below.refl _ _⟩
  case rest =>
  obtain ⟨rfl, hbc⟩ := hcut; have hb := hbc.out; obtain ⟨w8, hw8⟩ : ∃ W, W = wc := ⟨_, rfl⟩; rw [<- hw8] at hb ⊢; clear hbc hw8; replace H7 := lh (H7.out.keep hb); replace HB := lh (HB.out.trans (hb.mono HB.out.size)); replace TT := lh (TT.out.below hb); replace U := lh (U.out.keep hb); replace F := lh (F.out.keep hb); replace TB := lh (TB.out.keep hb); replace HT := lh (HT.out.keep hb); replace B7 := lh (B7.out.below hb); clear hb
  go_wp2_with fail
  refine (refParseT_any w8 s HSZ.out).mono ?_; rintro e wp ⟨hb, c12, a4, b4, k4, a5, b5, k5, a6, b6, k6, rfl, hR⟩; rw [<- HN.out, <- HE2.out]; rw [<- HPS.out.1, <- HPS.out.2.1, <- HPS.out.2.2] at hR; obtain rfl : m1 = b4 := HS1.out.symm.trans hR.shares.1; obtain rfl : m2 = b5 := HS2.out.symm.trans hR.squares.1; obtain rfl : m3 = b6 := HS3.out.symm.trans hR.sets.1; have I12 : Hid ((Tryz.prog.info? 26).map (·.size) = some c12.size) := by show _ = _; rw [hR.cells]; kernel_rfl
  have Z12 : Hid (c12.size = 13 /\ c12.all (·.oneCell') = true) := ⟨by rw [hR.cells]; rfl, by rw [hR.cells]; simp [tyV, Value.oneCell']⟩; have H12 := lh hR; replace H7 := lh (H7.out.keep hb); replace HB := lh (HB.out.trans (hb.mono HB.out.size)); replace TT := lh (TT.out.below hb); replace U := lh (U.out.keep hb); replace F := lh (F.out.keep hb); replace TB := lh (TB.out.keep hb); replace HT := lh (HT.out.keep hb); replace B7 := lh (B7.out.below hb); clear hb; clear hR
  go_upto_region 10 with (refine wpList_store_row rfl 26 _ _ rfl wp.heap.size c12 rfl rfl 26 #[.string ⟨#[]⟩, .slice none 0 0, .int .i64 0, .int .i64 0, .int .i64 0, .int .i64 0, .int .i64 0, .int .i64 0, .int .i64 0, .int .i64 0, .int .i64 0, .slice none 0 0, .slice none 0 0] (Blk.new _ _ _) I12.out (by rw [Z12.out.1]; rfl) Z12.out.2 ?_)
  obtain ⟨g12, hg12⟩ : ∃ g, g = wp.heap.size := ⟨_, rfl⟩; obtain ⟨w9, hw9⟩ : ∃ W, W = (wp.alloc (.cells #[.string ⟨#[]⟩, .slice none 0 0, .int .i64 0, .int .i64 0, .int .i64 0, .int .i64 0, .int .i64 0, .int .i64 0, .int .i64 0, .int .i64 0, .int .i64 0, .slice none 0 0, .slice none 0 0] 26)).setRow wp.heap.size c12 := ⟨_, rfl⟩; rw [<- hw9, <- hg12]; have hb : Below wp.heap.size wp w9 := by rw [hw9]; exact ((Below.refl _ _).alloc (Nat.le_refl _) _).setRow' (Nat.le_refl _) _
  have B12 : Hid (Blk w9 g12 26 c12) := by show Blk _ _ _ _; rw [hw9, hg12]; exact (Blk.new _ _ _).setRow _
  replace H7 := lh (H7.out.keep hb); replace H12 := lh (H12.out.keep hb); replace HB := lh (HB.out.trans (hb.mono HB.out.size)); replace TT := lh (TT.out.below hb); replace U := lh (U.out.keep hb); replace F := lh (F.out.keep hb); replace TB := lh (TB.out.keep hb); replace HT := lh (HT.out.keep hb); replace B7 := lh (B7.out.below hb); clear hb; clear hw9 hg12; refine wp_region_guard 27 (by kernel_rfl) (by kernel_rfl) [GR.eq (.string S), GR.eq (.string S), GR.eq (.bool true), GR.eq (.bool true), GR.eq (.int .i64 BAD), GR.eq (.int .i64 BAD), GR.eq (.bool true), GR.eq (.bool true), GR.eq (.bool true), GR.eq (.agg c7), GR.rt w9 SN SS STT m1 m2 m3, GR.eq (.agg c12), GR.eq (.bool true), GR.eq (.bool true), GR.eq (.bool true), GR.eq (.int .i64 N), GR.eq (.int .i64 N), GR.eq (.bool true), GR.eq (.bool true), GR.eq (.bool true), GR.eq (.int .i64 E2), GR.eq (.int .i64 E2), GR.eq (.bool true), GR.eq (.bool true), GR.eq (.bool true), GR.eq (.bool true), GR.eq (.bool true)] 80 rfl (by kernel_rfl) ?_ ?_
  ·refine ⟨?_, ?_, ?_, ?_, ?_, ?_, ?_, ?_, ?_, ?_, ?_, ?_, ?_, ?_, ?_, ?_, ?_, ?_, ?_, ?_, ?_, ?_, ?_, ?_, ?_, ?_, ?_, trivial⟩
   ·intro a W hE hd ho hw; have e5 : a.tmps[5]?.getD undef = .string S := ho 5 (by kernel_rfl); exact gs_same (v := .string S) (by go_simp) rfl
   ·intro a W hE hd ho hw; have e11 : a.tmps[11]?.getD undef = .string S := ho 11 (by kernel_rfl); exact gs_same (v := .string S) (by go_simp) rfl
   ·intro a W hE hd ho hw; have e53 : a.tmps[53]?.getD undef = .string S := hd 0 53 (by kernel_rfl) (by kernel_rfl) rfl; have e54 : a.tmps[54]?.getD undef = .string S := hd 1 54 (by kernel_rfl) (by kernel_rfl) rfl; exact gs_same (v := .bool true) (by go_simp) rfl
   ·intro a W hE hd ho hw; have e55 : a.tmps[55]?.getD undef = .bool true := hd 2 55 (by kernel_rfl) (by kernel_rfl) rfl; exact gs_same (v := .bool true) (by go_simp) rfl
   ·intro a W hE hd ho hw; have e6 : a.tmps[6]?.getD undef = .int .i64 BAD := ho 6 (by kernel_rfl); exact gs_same (v := .int .i64 BAD) (by go_simp) rfl
   ·intro a W hE hd ho hw; have e10 : a.tmps[10]?.getD undef = .int .i64 BAD := ho 10 (by kernel_rfl); exact gs_same (v := .int .i64 BAD) (by go_simp) rfl
   ·intro a W hE hd ho hw; have e57 : a.tmps[57]?.getD undef = .int .i64 BAD := hd 4 57 (by kernel_rfl) (by kernel_rfl) hw; have e58 : a.tmps[58]?.getD undef = .int .i64 BAD := hd 5 58 (by kernel_rfl) (by kernel_rfl) hw; exact gs_same (v := .bool true) (by go_simp) rfl
   ·intro a W hE hd ho hw; have e56 : a.tmps[56]?.getD undef = .bool true := hd 3 56 (by kernel_rfl) (by kernel_rfl) rfl; have e59 : a.tmps[59]?.getD undef = .bool true := hd 6 59 (by kernel_rfl) (by kernel_rfl) (wanted_by (j := 6) (g := 3) (b := true) (t := 56) rfl rfl rfl e56); exact gs_same (v := .bool true) (by go_simp) rfl
   ·intro a W hE hd ho hw; have e60 : a.tmps[60]?.getD undef = .bool true := hd 7 60 (by kernel_rfl) (by kernel_rfl) rfl; exact gs_same (v := .bool true) (by go_simp) rfl
   ·intro a W hE hd ho hw; have e7 : a.tmps[7]?.getD undef = .pointer (some ⟨g7, 0, none⟩) := ho 7 (by kernel_rfl); exact gs_load 42 (.tmp 7) rfl ⟨g7, 0, none⟩ (.agg c7) ((eval_getD _ _).trans e7) ((B7.out.below hE).lv Tryz.prog Tryz.underlying42 rfl I7.out) rfl
   ·intro a W hE hd ho hw; have e62 : a.tmps[62]?.getD undef = .agg c7 := hd 9 62 (by kernel_rfl) (by kernel_rfl) hw; refine gs_call (f := 78) (args := #[.agg c7]) (by go_simp) ?_; refine (told_any W (H7.out.keep hE) HM3.out).mono ?_; rintro e W9 ⟨cs9, A9, c9, rfl, k9, b9⟩; exact ⟨_, rfl, b9, cs9, _, _, _, _, A9, c9, rfl, k9⟩
   ·intro a W hE hd ho hw; have e12 : a.tmps[12]?.getD undef = .pointer (some ⟨g12, 0, none⟩) := ho 12 (by kernel_rfl); exact gs_load 26 (.tmp 12) rfl ⟨g12, 0, none⟩ (.agg c12) ((eval_getD _ _).trans e12) ((B12.out.below hE).lv Tryz.prog Tryz.underlying26 rfl I12.out) rfl
   ·intro a W hE hd ho hw; have e64 : a.tmps[64]?.getD undef = .agg c12 := hd 11 64 (by kernel_rfl) (by kernel_rfl) hw; obtain ⟨cs9, A1, k1, A2, k2, A3, k3, e63, hR9⟩ : ∃ cs A1 k1 A2 k2 A3 k3, a.tmps[63]?.getD undef = .agg cs /\ RTy W cs SN SS STT A1 m1 k1 A2 m2 k2 A3 m3 k3 := hd 10 63 (by kernel_rfl) (by kernel_rfl) hw; refine gs_call (f := 77) (args := #[.agg cs9, .agg c12]) (by go_simp) ?_; refine (refSameT_eq W hR9 (H12.out.keep hE) HM1.out HM2.out HM3.out HMB.out).mono ?_; rintro e W9 ⟨rfl, b9⟩; exact ⟨_, rfl, b9, rfl⟩
   ·intro a W hE hd ho hw; have e61 : a.tmps[61]?.getD undef = .bool true := hd 8 61 (by kernel_rfl) (by kernel_rfl) rfl; have e65 : a.tmps[65]?.getD undef = .bool true := hd 12 65 (by kernel_rfl) (by kernel_rfl) (wanted_by (j := 12) (g := 8) (b := true) (t := 61) rfl rfl rfl e61); exact gs_same (v := .bool true) (by go_simp) rfl
   ·intro a W hE hd ho hw; have e66 : a.tmps[66]?.getD undef = .bool true := hd 13 66 (by kernel_rfl) (by kernel_rfl) rfl; exact gs_same (v := .bool true) (by go_simp) rfl
   ·intro a W hE hd ho hw; have e8 : a.tmps[8]?.getD undef = .int .i64 N := ho 8 (by kernel_rfl); exact gs_same (v := .int .i64 N) (by go_simp) rfl
   ·intro a W hE hd ho hw; have e13 : a.tmps[13]?.getD undef = .int .i64 N := ho 13 (by kernel_rfl); exact gs_same (v := .int .i64 N) (by go_simp) rfl
   ·intro a W hE hd ho hw; have e68 : a.tmps[68]?.getD undef = .int .i64 N := hd 15 68 (by kernel_rfl) (by kernel_rfl) hw; have e69 : a.tmps[69]?.getD undef = .int .i64 N := hd 16 69 (by kernel_rfl) (by kernel_rfl) hw; exact gs_same (v := .bool true) (by go_simp) rfl
   ·intro a W hE hd ho hw; have e67 : a.tmps[67]?.getD undef = .bool true := hd 14 67 (by kernel_rfl) (by kernel_rfl) rfl; have e70 : a.tmps[70]?.getD undef = .bool true := hd 17 70 (by kernel_rfl) (by kernel_rfl) (wanted_by (j := 17) (g := 14) (b := true) (t := 67) rfl rfl rfl e67); exact gs_same (v := .bool true) (by go_simp) rfl
   ·intro a W hE hd ho hw; have e71 : a.tmps[71]?.getD undef = .bool true := hd 18 71 (by kernel_rfl) (by kernel_rfl) rfl; exact gs_same (v := .bool true) (by go_simp) rfl
   ·intro a W hE hd ho hw; have e9 : a.tmps[9]?.getD undef = .int .i64 E2 := ho 9 (by kernel_rfl); exact gs_same (v := .int .i64 E2) (by go_simp) rfl
   ·intro a W hE hd ho hw; have e14 : a.tmps[14]?.getD undef = .int .i64 E2 := ho 14 (by kernel_rfl); exact gs_same (v := .int .i64 E2) (by go_simp) rfl
   ·intro a W hE hd ho hw; have e73 : a.tmps[73]?.getD undef = .int .i64 E2 := hd 20 73 (by kernel_rfl) (by kernel_rfl) hw; have e74 : a.tmps[74]?.getD undef = .int .i64 E2 := hd 21 74 (by kernel_rfl) (by kernel_rfl) hw; exact gs_same (v := .bool true) (by go_simp) rfl
   ·intro a W hE hd ho hw; have e72 : a.tmps[72]?.getD undef = .bool true := hd 19 72 (by kernel_rfl) (by kernel_rfl) rfl; have e75 : a.tmps[75]?.getD undef = .bool true := hd 22 75 (by kernel_rfl) (by kernel_rfl) (wanted_by (j := 22) (g := 19) (b := true) (t := 72) rfl rfl rfl e72); exact gs_same (v := .bool true) (by go_simp) rfl
   ·intro a W hE hd ho hw; have e76 : a.tmps[76]?.getD undef = .bool true := hd 23 76 (by kernel_rfl) (by kernel_rfl) rfl; exact gs_same (v := .bool true) (by go_simp) rfl
   ·intro a W hE hd ho hw; refine gs_call (f := 14) (args := #[]) (by go_simp) ?_; refine (awake2_any W (U.out.keep hE) (F.out.keep hE) (TB.out.keep hE)).mono ?_; rintro e W9 ⟨rfl, b9⟩; exact ⟨_, rfl, b9, rfl⟩
   ·intro a W hE hd ho hw; have e77 : a.tmps[77]?.getD undef = .bool true := hd 24 77 (by kernel_rfl) (by kernel_rfl) rfl; have e78 : a.tmps[78]?.getD undef = .bool true := hd 25 78 (by kernel_rfl) (by kernel_rfl) (wanted_by (j := 25) (g := 24) (b := true) (t := 77) rfl rfl rfl e77); exact gs_same (v := .bool true) (by go_simp) rfl
  intro vv wz hE hR; have y26 : vv 26 = .bool true := hR 26 (by omega) rfl; simp only [List.range, List.range.loop, List.foldl_cons, List.foldl_nil, y26, List.drop_succ_cons, List.drop_zero]; simp only [dstAt, List.getElem?_toArray, List.getElem?_cons_zero, List.getElem?_cons_succ, Option.bind_some, Act.put, List.setIfInBounds_toArray, List.set_cons_zero, List.set_cons_succ]; have hb := hE.below; replace HB := lh (HB.out.trans (hb.mono HB.out.size)); clear hb; clear y26 hR hE; go_wp2; go_ret; exact ⟨rfl, HB.out⟩
end Go.Proofs.YtmafmebcgmegeaaGreatDoor
namespace Go.Proofs.YtmafmebcgmegeaaGreatDoor
open Go.ChangeShapes Go.WideShapes Go.ChangeAt Go.RowKit
abbrev laidSeven : List (String × DataW Unit) := [("math/bits.deBruijn32tab", Rows.laid_math_bits_deBruijn32tab), ("math/bits.deBruijn64tab", Rows.laid_math_bits_deBruijn64tab), ("internal/strconv.uint64pow10", Rows.laid_internal_strconv_uint64pow10), ("unicode/utf8.acceptRanges", Rows.laid_unicode_utf8_acceptRanges), ("flyover/source.firstWords", Rows.laid_flyover_source_firstWords), ("flyover/flyoverlaw02.turned", Rows.laid_flyover_flyoverlaw02_turned), ("unicode/utf8.first", Rows.laid_unicode_utf8_first)]
theorem tab_laid7 {W : World} (h : laidMetH Tryz.prog laidSeven W) : Tab W := by
 have h2 : laidMet Tryz.prog [("internal/strconv.uint64pow10", Rows.laid_internal_strconv_uint64pow10), ("unicode/utf8.acceptRanges", Rows.laid_unicode_utf8_acceptRanges), ("flyover/source.firstWords", Rows.laid_flyover_source_firstWords), ("flyover/flyoverlaw02.turned", Rows.laid_flyover_flyoverlaw02_turned), ("unicode/utf8.first", Rows.laid_unicode_utf8_first)] W := laidMet.tail (laidMet.tail h); exact Lib.tabIs_of_head (rest := [("unicode/utf8.acceptRanges", Rows.laid_unicode_utf8_acceptRanges), ("flyover/source.firstWords", Rows.laid_flyover_source_firstWords), ("flyover/flyoverlaw02.turned", Rows.laid_flyover_flyoverlaw02_turned), ("unicode/utf8.first", Rows.laid_unicode_utf8_first)]) gPow gPowType Tryz.underlying329 Tryz.underlying318 cellsU64 cellsPow h2
set_option maxRecDepth 100000 in
theorem words_laid7 {W : World} (h : laidMetH Tryz.prog laidSeven W) : FirstWords W := by
 have h2 : laidMet Tryz.prog [("flyover/source.firstWords", Rows.laid_flyover_source_firstWords), ("flyover/flyoverlaw02.turned", Rows.laid_flyover_flyoverlaw02_turned), ("unicode/utf8.first", Rows.laid_unicode_utf8_first)] W := laidMet.tail (laidMet.tail (laidMet.tail (laidMet.tail h))); obtain ⟨ps, ⟨g', t', cs, fuel, p, q, hg', ht', hvar, hd, _, _⟩, _⟩ := h2; obtain rfl := Option.some.inj (gWords.symm.trans hg'); obtain rfl := Option.some.inj (gWordsType.symm.trans ht'); obtain ⟨ys, m, _, hx, hl, hyl, hg⟩ := DataW.trod_array Tryz.underlying229 hd; have hx1 := congrArg Prod.fst hx; intro i hi; have g := hg i hi; rw [List.getElem?_eq_getElem (by omega)] at g; obtain ⟨z, q, hz, _⟩ := DataW.trod_string Tryz.underlying9 g
 change List.take (Tryz.prog.cellsOf 9) (List.drop (i * Tryz.prog.cellsOf 9) cs.toList) = _ at q
 rw [cellsString, Nat.mul_one] at q
 have hc : cs[i]? = some (.string z) := by
  have := congrArg (fun l => l[0]?) q
  simpa [List.getElem?_take, List.getElem?_drop] using this
 have h3 := World.var?_cell gWords hvar i; rw [h3, hc]
 have h4 : (ys.map (·.1))[i]? = some (DataW.lit (.string z.data.toList)) := by
  rw [List.getElem?_map, List.getElem?_eq_getElem (by omega), Option.map_some, hz]
 have h5 : (ys.map (·.1)) = [.lit (.string [116, 121, 112, 101]), .lit (.string [115, 104, 97, 114, 101, 115]), .lit (.string [100, 105, 114, 101, 99, 116]), .lit (.string [115, 113, 117, 97, 114, 101, 115]), .lit (.string [112, 111, 119, 101, 114])] := by
  have := hx1.symm
  simpa [Rows.laid_flyover_source_firstWords] using this
 rw [h5] at h4
 have key : ∀ l : List UInt8, z.data.toList = l -> z = ⟨l.toArray⟩ := fun l e => by
  cases z; simp at e; rw [<- e]
 match i, hi with
 | 0, _ => simp at h4; rw [key _ h4.symm]; rfl
 | 1, _ => simp at h4; rw [key _ h4.symm]; rfl
 | 2, _ => simp at h4; rw [key _ h4.symm]; rfl
 | 3, _ => simp at h4; rw [key _ h4.symm]; rfl
 | 4, _ => simp at h4; rw [key _ h4.symm]; rfl
set_option maxRecDepth 100000 in
theorem turned_laid7 {W : World} (h : laidMetH Tryz.prog laidSeven W) : Turned W := by
 have h2 : laidMet Tryz.prog [("flyover/flyoverlaw02.turned", Rows.laid_flyover_flyoverlaw02_turned), ("unicode/utf8.first", Rows.laid_unicode_utf8_first)] W := laidMet.tail (laidMet.tail (laidMet.tail (laidMet.tail (laidMet.tail h)))); obtain ⟨ps, ⟨g', t', cs, fuel, p, q, hg', ht', hvar, hd, _, _⟩, _⟩ := h2; obtain rfl := Option.some.inj (gTurned.symm.trans hg'); obtain rfl := Option.some.inj (gTurnedType.symm.trans ht'); obtain ⟨ys, m, _, hx, hl, hyl, hg⟩ := DataW.trod_array Tryz.underlying165 hd; have hx1 := congrArg Prod.fst hx; intro i hi; have g := hg i hi; rw [List.getElem?_eq_getElem (by omega)] at g; obtain ⟨y0, y1, n, hy, _, t0, t1⟩ := trod_struct2 Tryz.underlying30 g; obtain ⟨a, q0, hz0, _⟩ := DataW.trod_int Tryz.underlying3 t0; obtain ⟨b, q1, hz1, _⟩ := DataW.trod_int Tryz.underlying3 t1
 change List.take (Tryz.prog.cellsOf 3) (List.drop 0 (List.take (Tryz.prog.cellsOf 30) (List.drop (i * Tryz.prog.cellsOf 30) cs.toList))) = _ at q0
 change List.take (Tryz.prog.cellsOf 3) (List.drop 1 (List.take (Tryz.prog.cellsOf 30) (List.drop (i * Tryz.prog.cellsOf 30) cs.toList))) = _ at q1
 rw [cellsInt, cellsPoint] at q0 q1
 have hc0 : cs[i * 2]? = some (.int .i64 a) := by
  have := congrArg (fun l => l[0]?) q0
  simpa [List.getElem?_take, List.getElem?_drop] using this
 have hc1 : cs[i * 2 + 1]? = some (.int .i64 b) := by
  have := congrArg (fun l => l[0]?) q1
  simpa [List.getElem?_take, List.getElem?_drop] using this
 rw [World.var?_cell gTurned hvar (i * 2), World.var?_cell gTurned hvar (i * 2 + 1), hc0, hc1]
 have h4 : (ys.map (·.1))[i]? = some (DataW.agg [.lit (.int .i64 a), .lit (.int .i64 b)]) := by
  rw [List.getElem?_map, List.getElem?_eq_getElem (by omega), Option.map_some, hy, hz0, hz1]
 have h5 : (ys.map (·.1)) = [.agg [.lit (.int .i64 3), .lit (.int .i64 1)], .agg [.lit (.int .i64 2), .lit (.int .i64 2)], .agg [.lit (.int .i64 0), .lit (.int .i64 5)], .agg [.lit (.int .i64 (-2)), .lit (.int .i64 2)], .agg [.lit (.int .i64 (-3)), .lit (.int .i64 0)], .agg [.lit (.int .i64 (-1)), .lit (.int .i64 (-1))], .agg [.lit (.int .i64 0), .lit (.int .i64 (-4))], .agg [.lit (.int .i64 2), .lit (.int .i64 (-2))]] := by
  have := hx1.symm
  simpa [Rows.laid_flyover_flyoverlaw02_turned] using this
 rw [h5] at h4
 match i, hi with
 | 0, _ => simp at h4; rw [<- h4.1, <- h4.2]; exact ⟨rfl, rfl⟩
 | 1, _ => simp at h4; rw [<- h4.1, <- h4.2]; exact ⟨rfl, rfl⟩
 | 2, _ => simp at h4; rw [<- h4.1, <- h4.2]; exact ⟨rfl, rfl⟩
 | 3, _ => simp at h4; rw [<- h4.1, <- h4.2]; exact ⟨rfl, rfl⟩
 | 4, _ => simp at h4; rw [<- h4.1, <- h4.2]; exact ⟨rfl, rfl⟩
 | 5, _ => simp at h4; rw [<- h4.1, <- h4.2]; exact ⟨rfl, rfl⟩
 | 6, _ => simp at h4; rw [<- h4.1, <- h4.2]; exact ⟨rfl, rfl⟩
 | 7, _ => simp at h4; rw [<- h4.1, <- h4.2]; exact ⟨rfl, rfl⟩
def rangeVals : List Int := [128, 191, 160, 191, 128, 159, 144, 191, 128, 143] ++ List.replicate 22 0
def laidHeap7 (h : Array Obj) : Array Obj := lay 4 (Go.Pinned.utf8FirstZ.map fun n : Nat => Value.int .u8 n).toArray (lay 5 (rangeVals.map (Value.int .u8)).toArray (laidHeap5 h))
noncomputable def laidWorld7 (os : Os) : World := { World.holding Tryz.prog os ⟨#[], #[], []⟩ with heap := laidHeap7 (World.holding Tryz.prog os ⟨#[], #[], []⟩).heap }
theorem sized_strT {H : Type} {ts : List TypeId} {ds : List (DataW H)} (h : (DataW.weightsEach Tryz.prog ts ds).all (· <= reachBytes) = true) {j : Nat} {t : TypeId} {bytes : List UInt8} (ht : ts[j]? = some t) (hd : ds[j]? = some (.lit (.string bytes))) : bytes.length <= 140737488351232 := by
 have := List.all_eq_true.1 h _ (DataW.weights_mem_each ht hd bytes.length (by simp [DataW.weights])); have h3 : bytes.length <= reachBytes := of_decide_eq_true this; exact h3
end Go.Proofs.YtmafmebcgmegeaaGreatDoor
namespace Go.Proofs.YtmafmebcgmegeaaGreatDoor.sourceStrings
open Go.ChangeShapes Go.WideShapes Go.ChangeAt Go.RowKit
theorem s1 : Tryz.pinned.checked.prog.funcNamed Rows.sourceStringsRow.func = some 8 := by kernel_rfl
set_option maxHeartbeats 8000000 in
theorem s2 : joinedFacts Tryz.pinned.checked.prog 8 Tryz.f8 (OpenSpec.ofChange Rows.sourceStringsSpec).bare Rows.sourceStringsRow = true := by
 unfold joinedFacts
 repeat ((with_reducible refine Bool.and_eq_true_iff.2 ⟨?_, ?_⟩); rotate_left; (as_aux_lemma => kernel_rfl))
 as_aux_lemma => kernel_rfl
theorem s3 : Tryz.f8.isInstance Tryz.pinned.checked.prog Rows.sourceStringsRow.origin Rows.sourceStringsRow.targs := of_decide_eq_true (by kernel_rfl)
theorem s4 : Tryz.f8.isWrapper Tryz.pinned.checked.prog Rows.sourceStringsRow.wrapper Rows.sourceStringsRow.mainSum := by
 unfold Func.isWrapper; first | (rw [if_pos (by decide +kernel)]; kernel_rfl) | (rw [if_neg (by decide +kernel)]; exact ⟨rfl, rfl⟩)
end Go.Proofs.YtmafmebcgmegeaaGreatDoor.sourceStrings
namespace Go.Proofs.YtmafmebcgmegeaaGreatDoor.sourceStrings
open Go.ChangeShapes Go.WideShapes Go.ChangeAt Go.RowKit
theorem types_ok : (Tryz.f8.params.toList.all fun t => Tryz.prog.readableRec t && decide (t < Tryz.prog.types.size)) = true := by kernel_rfl
set_option maxRecDepth 100000 in
theorem contract (H : Type) (enc : TypeId × Value -> H) (W : World) (base : Nat) (args : Array Value) (ds gs : List (DataW H)) (before : List MemPlace)
  (hval : ∀ (j : Nat) t v, Tryz.f8.params[j]? = some t -> args[j]? = some v -> Value.okWide Tryz.prog W .any base t v)
  (hW : DataW.Whole enc Tryz.prog Tryz.f8.params.toList Rows.sourceStringsSpec.vars false W args.toList ds gs before)
  (hsz : (DataW.weightsEach Tryz.prog (Tryz.f8.params.toList ++ (OpenSpec.ofChange Rows.sourceStringsSpec).bare.plain.varTypes Tryz.prog) (ds ++ gs)).all (· <= reachBytes) = true) (hL : laidMetH Tryz.prog Rows.sourceStringsRow.laid W) :
  Calls Tryz.prog 8 args W fun e W' => ∃ v, e = .returned v /\ Rows.sourceStringsSpec.post enc Tryz.prog Tryz.f8 false true false false W args v W' := by
 have hW' := hW; obtain ⟨p, q, hA0, hV, rfl, hfz, hnd⟩ := hW; have hA' : DataW.TrodAll enc Tryz.prog W 0 (fun _ => true) true Tryz.f8.params.toList args.toList ds p := hA0; rw [Tryz.params8] at hA' hval hsz; obtain ⟨v0, v1, d0, d1, p0, p1, rfl, rfl, rfl, h0, h1⟩ := trodAll_two hA'; obtain ⟨rfl, rfl⟩ := trodVars_none hV; obtain ⟨cs, rfl, hcs, _⟩ := open_row_of 13 Tryz.underlying26 rfl (by kernel_rfl) [9, 22, 3, 3, 3, 3, 3, 3, 3, 3, 3, 22, 24] rfl (by kernel_rfl) (hval 0 26 v0 rfl rfl); obtain ⟨fuel, hn⟩ := h0; obtain ⟨nm, sh, T, sa, sn, sc, qa, qn, qc, ga, gn, gc, hc, hd8, hT, hgn⟩ := open_tyRow hn (fun y0 y1 y2 y3 y4 el sp e => sized_ty hsz (j := 0) rfl (congrArg some e)); have hcl : (Value.agg cs).cells.toList.toArray = cs := by simp [Value.cells]
 rw [hcl] at hT; obtain ⟨s, rfl, hd1, _, _⟩ := Go.ChangeMaps.open_string Tryz.underlying9 (hval 1 9 v1 rfl rfl) h1; have hss : s.size <= 140737488351232 := sized_strT hsz (j := 1) (t := 9) (bytes := s.data.toList) rfl (by rw [hd1]; rfl); clear hA0 hfz hnd; refine (strings_walk s W hss hT hd8 hgn (turned_laid7 hL) (words_laid7 hL) (tab_laid7 hL)).mono fun e W' ⟨he, hb⟩ => ?_
 subst he; exact ⟨_, rfl, law_post hW' rfl (by kernel_rfl) (fun t ht => by have := List.all_eq_true.1 types_ok t ht; simpa using this) rfl hb⟩
theorem laid_met (os : Os) : laidMet Tryz.prog Rows.sourceStringsRow.laid ((laidWorld7 os).forCall (fun _ _ => 0) ⟨#[], #[Value.agg #[.string ⟨#[]⟩, .slice none 0 0, .int .i64 0, .int .i64 0, .int .i64 0, .int .i64 0, .int .i64 0, .int .i64 0, .int .i64 0, .int .i64 0, .int .i64 0, .slice none 0 0, .slice none 0 0], Value.string ⟨#[]⟩], []⟩).memory :=
 laidMet_of_run' 8 (by kernel_rfl) (by kernel_rfl)
theorem reads (os : Os) {H : Type} (enc : TypeId × Value -> H) : ∃ places, DataW.whole enc Tryz.prog ((laidWorld7 os).forCall (fun _ _ => 0) ⟨#[], #[Value.agg #[.string ⟨#[]⟩, .slice none 0 0, .int .i64 0, .int .i64 0, .int .i64 0, .int .i64 0, .int .i64 0, .int .i64 0, .int .i64 0, .int .i64 0, .int .i64 0, .slice none 0 0, .slice none 0 0], Value.string ⟨#[]⟩], []⟩).memory Tryz.f8.params.toList Rows.sourceStringsSpec.vars false (#[Value.agg #[.string ⟨#[]⟩, .slice none 0 0, .int .i64 0, .int .i64 0, .int .i64 0, .int .i64 0, .int .i64 0, .int .i64 0, .int .i64 0, .int .i64 0, .int .i64 0, .slice none 0 0, .slice none 0 0], Value.string ⟨#[]⟩] : Array Value).toList 8 = some ([.agg [.lit (.string []), .nil, .agg [.lit (.int .i64 0), .lit (.int .i64 0), .lit (.int .i64 0), .lit (.int .i64 0), .lit (.int .i64 0), .lit (.int .i64 0), .lit (.int .i64 0), .lit (.int .i64 0)], .lit (.int .i64 0), .nil, .nil], .lit (.string [])], [], places) :=
 ⟨[], by kernel_rfl⟩
set_option maxRecDepth 100000 in
theorem lifted (os : Os) (started : os.Started) (H : Type) (enc : TypeId × Value -> H) (F : Stop.Interp) :
  ReturnsInHanded {} Tryz.checked os 8 .any ((OpenSpec.ofChange Rows.sourceStringsSpec).preRow enc Tryz.prog Tryz.f8 Rows.sourceStringsRow.domain false Rows.sourceStringsRow.laid) (((OpenSpec.ofChange Rows.sourceStringsSpec).at F).post enc Tryz.prog Tryz.f8 false true false false) := by
 obtain ⟨places, hx⟩ := reads os enc
 refine returnsInHanded_of_row (C := Tryz.checked) (s := OpenSpec.ofChange Rows.sourceStringsSpec) own started (by kernel_rfl) Tryz.func8
  (witness_row_at (enc := enc) (C := Tryz.checked) false (laidWorld7 os) #[Value.agg #[.string ⟨#[]⟩, .slice none 0 0, .int .i64 0, .int .i64 0, .int .i64 0, .int .i64 0, .int .i64 0, .int .i64 0, .int .i64 0, .int .i64 0, .int .i64 0, .slice none 0 0, .slice none 0 0], Value.string ⟨#[]⟩] rfl (by kernel_rfl) (by kernel_rfl) (by kernel_rfl)
   (OpenSpec.preRow_of_cond 8 hx (by kernel_rfl) (fun k hk => by cases hk) (by kernel_rfl) (laid_met os))) ?_
 intro W base args ds gs before hval hW _ _ hsz hL _ _; exact contract H enc W base args ds gs before hval hW hsz hL
theorem said : Rows.SourceStringsSaid :=
 OpenClaim.holds_of_cond 8 Tryz.f8 rfl rfl rfl rfl rfl rfl rfl ⟨rfl, rfl, rfl, rfl, rfl⟩ rfl rfl rfl rfl rfl s1 Tryz.func8 s2 s3 s4
  (fun os started H enc _ F => by rw [OpenClaim.pre_eq_preRow]; exact lifted os started H enc F)
theorem standins : (Tryz.f8.params.toList.all fun t => !Tryz.prog.wantsStandIn t) = true := by kernel_rfl
theorem plain (f : FuncId) (fn : Func) (hf : Tryz.pinned.checked.prog.funcNamed "flyover/flyoverlaw02.SourceStrings" = some f) (hfn : Tryz.pinned.checked.prog.funcs[f]? = some fn) :
  false = Tryz.pinned.checked.prog.looks [] /\ ∀ (j : Nat) t, fn.params[j]? = some t -> Tryz.pinned.checked.prog.wantsStandIn t = false := by
 obtain rfl : f = 8 := Option.some.inj (s1.symm.trans hf) |>.symm; obtain rfl : fn = Tryz.f8 := (Option.some.inj (Tryz.func8.symm.trans hfn)).symm; refine ⟨by kernel_rfl, fun j t ht => ?_⟩
 have hm : t ∈ Tryz.f8.params.toList := by
  have := Array.mem_of_getElem? ht
  simpa using this
 have h1 := List.all_eq_true.1 standins t hm; have h2 : Tryz.prog.wantsStandIn t = false := by simpa using h1
 exact h2
theorem card : Rows.SourceStringsCardSaid :=
 Claim7.holds_tied_plain_at .later [] _ _ _ _ said (fun _ h => by cases h) (by kernel_rfl) (fun _ h => by cases h) sourceStrings_row_tie rfl ⟨rfl, rfl⟩ (by kernel_rfl) rfl plain (by kernel_rfl)
end Go.Proofs.YtmafmebcgmegeaaGreatDoor.sourceStrings
