/- Part. -/
import Derived.Test.YtmafmebcgmegeaaGreatDoorGz1
import Derived.Test.YtmafmebcgmegeaaGreatDoorGz31
import Derived.Test.YtmafmebcgmegeaaGreatDoorGz2
namespace Go.Proofs.YtmafmebcgmegeaaGreatDoor
open Go.RowKit Go.Sort
theorem own_addr {w : World} {base size n c : Nat} {t : TypeId} {A : Option Addr} {xs : List Value} (h : w.ownsRow base t size (.slice A n c) n xs) (hn : 0 < n) : ∃ g, A = some ⟨g, 0, none⟩ := by
 rcases h.2 with ⟨_, h0⟩ | ⟨g, cap, cur, h1, _⟩
 ·omega
 ·injection h1 with e
  exact ⟨g, e⟩
theorem rtyG_own {W : World} {base base2 sn c1 c2 qn k c3 : Nat} {A1 A2 A3 : Option Addr} {nm : ByteArray} {sh : List Int} {T : Bell.Ty} {tw : Array Value} {P : List (Int × Value)} {t : TypeId} (hw : tw = tyW nm (.slice A1 sn c1) T (.slice A2 qn c2) (.slice A3 k c3)) (hA : OwnI0 W base (.slice A1 sn c1) sn sh) (hB : OwnI0 W base (.slice A2 qn c2) qn T.squares)
  (hR : W.ownsRow base2 t 2 (.slice A3 k c3) k (stCells P)) (hP : P.length = k) (hE : ∀ j, j < k -> (P.getD j (0, undef)).1 = Bell.ePow T.sets j /\ OwnI0 W base (P.getD j (0, undef)).2 ((T.sets.getD j (0, [])).2).length ((T.sets.getD j (0, [])).2)) (hl : T.sets.length = k) :
  RTy W tw nm sh T A1 sn c1 A2 qn c2 A3 k c3 := by
 refine ⟨hw, hA.at_, hB.at_, hl, fun h0 => ?_⟩; obtain ⟨gS, rfl⟩ := own_addr hR h0; refine ⟨gS, 0, rfl, hl, fun j hj => ?_⟩; obtain ⟨e1, e2⟩ := hE j hj; obtain ⟨A, c, hv⟩ := e2.sl; have e2' := e2; rw [hv] at e2'; have p0 := (stCells_at P j (by rw [hP]; exact hj)).1; have p1 := (stCells_at P j (by rw [hP]; exact hj)).2; refine ⟨A, _, c, ?_, ?_, e2'.at_⟩
 ·rw [Nat.zero_add, World.ownsRow.cellAt hR (j * 2) (by omega), p0, e1]
 ·rw [Nat.zero_add, World.ownsRow.cellAt hR (j * 2 + 1) (by omega), p1, hv]
set_option maxHeartbeats 1000000 in
set_option maxRecDepth 100000 in
theorem given_gen {nm : ByteArray} {sh : List Int} {T : Bell.Ty} {sa qa ga : Option Addr} {sn sc qn qc gn gc : Nat} {cs : Array Value} (w : World) (hT : RTy w cs nm sh T sa sn sc qa qn qc ga gn gc) (hsn : sn <= 100000) (hqn : qn <= 100000) (hgn : gn <= 100000) (hen : ∀ k, k < gn -> ((T.sets.getD k (0, [])).2).length <= 100000) :
  Calls Tryz.prog 16 #[.agg cs] w fun e w' => ∃ cs' A1 c1 A2 c2 A3 c3, e = .returned (.agg cs') /\ RTy w' cs' nm sh T A1 sn c1 A2 qn c2 A3 gn c3 /\ (qn <= c2 /\ c2 <= 9223372036854775807) /\ Below w.heap.size w w' := by
 have HSL : Hid (T.sets.length = gn) := hT.sets.1; have HEN := lh hen; have HT := lh hT; have IT : Hid ((Tryz.prog.info? 26).map (·.size) = some cs.size) := by show _ = _; rw [hT.cells]; kernel_rfl
 have HCZ : Hid (cs.size = 13) := by show _ = _; rw [hT.cells]; rfl
 clear hT hen
 go_enter Tryz.func16, Tryz.ntmps16
 go_upto_region 1 with fail
 obtain ⟨w1, hw1⟩ : ∃ W, W = (w.alloc (.cells cs 26)).alloc (.cells #[.string ⟨#[]⟩, .slice none 0 0, .int .i64 0, .int .i64 0, .int .i64 0, .int .i64 0, .int .i64 0, .int .i64 0, .int .i64 0, .int .i64 0, .int .i64 0, .slice none 0 0, .slice none 0 0] 42) := ⟨_, rfl⟩; rw [<- hw1]; have T1 : Hid (Blk w1 w.heap.size 26 cs) := by show Blk _ _ _ _; rw [hw1]; exact (Blk.new _ _ _).alloc _
 have O1 : Hid (Blk w1 (w.heap.size + 1) 42 #[.string ⟨#[]⟩, .slice none 0 0, .int .i64 0, .int .i64 0, .int .i64 0, .int .i64 0, .int .i64 0, .int .i64 0, .int .i64 0, .int .i64 0, .int .i64 0, .slice none 0 0, .slice none 0 0]) := by show Blk _ _ _ _; rw [hw1]; exact Blk.at_size _ _ (by simp)
 have HB1 : Hid (Below w.heap.size w w1) := by show Below _ _ _; rw [hw1]; exact ((Below.refl _ _).alloc (Nat.le_refl _) _).alloc (by simp) _
 obtain ⟨g, hg⟩ : ∃ g, g = w.heap.size := ⟨_, rfl⟩; obtain ⟨g2, hg2⟩ : ∃ g2, g2 = w.heap.size + 1 := ⟨_, rfl⟩; rw [<- hg2] at O1 ⊢; rw [<- hg] at T1 ⊢; have HG1 : Hid (w.heap.size <= g) := by show _ <= _; omega
 have HG2 : Hid (w.heap.size <= g2) := by show _ <= _; omega
 have hg12 : g2 ≠ g := by omega
 clear hw1 hg hg2
 go_wp2_with (refine wpList_load_row rfl 26 _ rfl g rfl 26 cs (0, 0) _ T1.out Tryz.underlying26 rfl IT.out ?_)
 refine (refOwned_gen w1 (HT.out.keep HB1.out) hsn hqn hgn HEN.out).mono ?_; rintro e w2 ⟨base, A1, A2, A3, c1, c2, cS, P, rfl, hbase, hown, hb⟩; have hgl : g < w1.heap.size := lt_of_block T1.out; have hgl2 : g2 < w1.heap.size := lt_of_block O1.out; have hs12 := hb.size; have T2 := lh (T1.out.below hb); have O2 := lh (O1.out.below hb); have HB2 := lh (HB1.out.trans (hb.mono HB1.out.size)); obtain ⟨cs2, hcs⟩ : ∃ c, c = tyW nm (.slice A1 sn c1) T (.slice A2 qn c2) (.slice A3 gn cS) := ⟨_, rfl⟩; rw [<- hcs]; have IT2 : Hid ((Tryz.prog.info? 26).map (·.size) = some cs2.size) := by show _ = _; rw [hcs]; kernel_rfl
 have TS2 : Hid (cs.size = cs2.size) := by show _ = _; rw [hcs, HCZ.out]; rfl
 have TO2 : Hid (cs2.all (fun u => u.oneCell') = true) := by show _ = _; rw [hcs]; simp [tyW, Value.oneCell']
 have HCS := lh hcs; have HOW := lh hown; clear hown hb T1 O1 HB1 HT IT hcs
 go_upto_region 2 with (refine wpList_store_row rfl 26 _ _ rfl g cs2 rfl rfl 26 _ T2.out IT2.out TS2.out TO2.out ?_)
 obtain ⟨w3, hw3⟩ : ∃ W, W = w2.setRow g cs2 := ⟨_, rfl⟩; rw [<- hw3]; have T3 : Hid (Blk w3 g 26 cs2) := by show Blk _ _ _ _; rw [hw3]; exact T2.out.setRow _
 have O3 : Hid (Blk w3 g2 42 #[.string ⟨#[]⟩, .slice none 0 0, .int .i64 0, .int .i64 0, .int .i64 0, .int .i64 0, .int .i64 0, .int .i64 0, .int .i64 0, .int .i64 0, .int .i64 0, .slice none 0 0, .slice none 0 0]) := by show Blk _ _ _ _; rw [hw3]; exact O2.out.setRow_far hg12 _
 have HB3 : Hid (Below w.heap.size w w3) := by show Below _ _ _; rw [hw3]; exact HB2.out.setRow' HG1.out _
 have OW3 : Hid (OwnTG w3 base sh T A1 sn c1 A2 qn c2 A3 gn cS P) := HOW.out.high fun b hb _ => by rw [hw3]; exact setRow_other w2 g b cs2 (by omega)
 have HGB : Hid (g2 < base /\ g < base) := ⟨by omega, by omega⟩; clear hw3 T2 O2 HB2 IT2 TS2 TO2 HOW; obtain ⟨d0, hd0⟩ : ∃ x, x = T.direct.getD 0 0 := ⟨_, rfl⟩; obtain ⟨d1, hd1⟩ : ∃ x, x = T.direct.getD 1 0 := ⟨_, rfl⟩; obtain ⟨d2, hd2⟩ : ∃ x, x = T.direct.getD 2 0 := ⟨_, rfl⟩; obtain ⟨d3, hd3⟩ : ∃ x, x = T.direct.getD 3 0 := ⟨_, rfl⟩; obtain ⟨d4, hd4⟩ : ∃ x, x = T.direct.getD 4 0 := ⟨_, rfl⟩; obtain ⟨d5, hd5⟩ : ∃ x, x = T.direct.getD 5 0 := ⟨_, rfl⟩; obtain ⟨d6, hd6⟩ : ∃ x, x = T.direct.getD 6 0 := ⟨_, rfl⟩; obtain ⟨d7, hd7⟩ : ∃ x, x = T.direct.getD 7 0 := ⟨_, rfl⟩; have r0 : w3.cell? ⟨g, 0, none⟩ = some (.string nm) := (T3.out.cell 0).trans (by rw [HCS.out]; rfl); have r1 : w3.cell? ⟨g, 1, none⟩ = some (.slice A1 sn c1) := (T3.out.cell 1).trans (by rw [HCS.out]; rfl); have r2 : w3.cell? ⟨g, 2, none⟩ = some (.int .i64 d0) := (T3.out.cell 2).trans (by rw [HCS.out, hd0]; rfl); have r3 : w3.cell? ⟨g, 3, none⟩ = some (.int .i64 d1) := (T3.out.cell 3).trans (by rw [HCS.out, hd1]; rfl)
 have r4 : w3.cell? ⟨g, 4, none⟩ = some (.int .i64 d2) := (T3.out.cell 4).trans (by rw [HCS.out, hd2]; rfl); have r5 : w3.cell? ⟨g, 5, none⟩ = some (.int .i64 d3) := (T3.out.cell 5).trans (by rw [HCS.out, hd3]; rfl); have r6 : w3.cell? ⟨g, 6, none⟩ = some (.int .i64 d4) := (T3.out.cell 6).trans (by rw [HCS.out, hd4]; rfl); have r7 : w3.cell? ⟨g, 7, none⟩ = some (.int .i64 d5) := (T3.out.cell 7).trans (by rw [HCS.out, hd5]; rfl); have r8 : w3.cell? ⟨g, 8, none⟩ = some (.int .i64 d6) := (T3.out.cell 8).trans (by rw [HCS.out, hd6]; rfl); have r9 : w3.cell? ⟨g, 9, none⟩ = some (.int .i64 d7) := (T3.out.cell 9).trans (by rw [HCS.out, hd7]; rfl); have r10 : w3.cell? ⟨g, 10, none⟩ = some (.int .i64 T.side) := (T3.out.cell 10).trans (by rw [HCS.out]; rfl); have r11 : w3.cell? ⟨g, 11, none⟩ = some (.slice A2 qn c2) := (T3.out.cell 11).trans (by rw [HCS.out]; rfl); have r12 : w3.cell? ⟨g, 12, none⟩ = some (.slice A3 gn cS) := (T3.out.cell 12).trans (by rw [HCS.out]; rfl)
 have HD0 := lh hd0; clear hd0; have HD1 := lh hd1; clear hd1; have HD2 := lh hd2; clear hd2; have HD3 := lh hd3; clear hd3; have HD4 := lh hd4; clear hd4; have HD5 := lh hd5; clear hd5; have HD6 := lh hd6; clear hd6; have HD7 := lh hd7; clear hd7
 go_upto_region 3 with fail
 obtain ⟨g3, hg3⟩ : ∃ x, x = w3.heap.size := ⟨_, rfl⟩; obtain ⟨w4, hw4⟩ : ∃ W, W = w3.alloc (.cells #[.string nm, .slice A1 sn c1, .int .i64 d0, .int .i64 d1, .int .i64 d2, .int .i64 d3, .int .i64 d4, .int .i64 d5, .int .i64 d6, .int .i64 d7, .int .i64 T.side, .slice A2 qn c2, .slice none 0 0] 42) := ⟨_, rfl⟩; rw [<- hw4]; rw [<- hg3]; have hb4 : Below w3.heap.size w3 w4 := by rw [hw4]; exact (Below.refl _ _).alloc (Nat.le_refl _) _
 have P4 : Hid (Blk w4 g3 42 (tyW nm (.slice A1 sn c1) T (.slice A2 qn c2) (.slice none 0 0))) := by
  show Blk _ _ _ _
  rw [hw4, hg3]; rw [show tyW nm (.slice A1 sn c1) T (.slice A2 qn c2) (.slice none 0 0) = #[.string nm, .slice A1 sn c1, .int .i64 d0, .int .i64 d1, .int .i64 d2, .int .i64 d3, .int .i64 d4, .int .i64 d5, .int .i64 d6, .int .i64 d7, .int .i64 T.side, .slice A2 qn c2, .slice none 0 0] by unfold tyW; rw [<- HD0.out, <- HD1.out, <- HD2.out, <- HD3.out, <- HD4.out, <- HD5.out, <- HD6.out, <- HD7.out]]; exact Blk.new _ _ _
 have HB4 : Hid (Below w3.heap.size w3 w4) := hb4; have t12 := ((T3.out.below hb4).cell 12).trans ((T3.out.cell 12).symm.trans r12); have HG3 : Hid (w3.heap.size <= g3) := by show _ <= _; omega
 clear hw4 hb4 r0 r1 r2 r3 r4 r5 r6 r7 r8 r9 r10 r11 r12 hg3; go_wp2
 go_loopw [5, 22] (fun _ i wr => ∃ (k : Nat) (vs : Value), k <= gn /\ i = .int .i64 k /\ Hid (Blk wr g3 42 (tyW nm (.slice A1 sn c1) T (.slice A2 qn c2) vs)) /\ Hid (wr.ownsRow w3.heap.size 172 2 vs k (stCells (P.take k))) /\ Hid (Below w3.heap.size w3 wr)) (fun _ i _ => gn - (intOf i).toNat)
 case atStart => exact ⟨0, .slice none 0 0, Nat.zero_le _, rfl, P4.out, World.ownsRow_nil _ _ _ _, HB4.out⟩
 case round =>
  clear P4 HB4 t12; obtain ⟨k, vs, hk, rfl, hP3, hrow, hbw⟩ := hrel; have OWr := lh (OW3.out.high (fun b _ h2 => hbw.out.block b h2))
  by_cases hlt : k < gn
  ·have hlP : k < P.length := by rw [OW3.out.len]; exact hlt
   obtain ⟨e1, e2⟩ := OWr.out.each k hlt; obtain ⟨A, c, hv⟩ := e2.sl; obtain ⟨n, hnn⟩ : ∃ n, n = ((T.sets.getD k (0, [])).2).length := ⟨_, rfl⟩; rw [<- hnn] at hv; clear hnn; obtain ⟨gS, rfl⟩ := own_addr OWr.out.row (by omega); have l2 := stCells_len P; have p0 : wr.cell? ⟨gS, k * 2, none⟩ = some (.int .i64 (P.getD k (0, undef)).1) := (World.ownsRow.cellAt OWr.out.row (k * 2) (by omega)).trans (stCells_at P k hlP).1; have p1 : wr.cell? ⟨gS, k * 2 + 1, none⟩ = some (.slice A n c) := ((World.ownsRow.cellAt OWr.out.row (k * 2 + 1) (by omega)).trans (stCells_at P k hlP).2).trans (congrArg some hv); obtain ⟨p, hp⟩ : ∃ p, p = (P.getD k (0, undef)).1 := ⟨_, rfl⟩; rw [<- hp] at p0
   have HTK : Hid (P.take (k + 1) = P.take k ++ [(p, .slice A n c)]) := by
    show _ = _
    rw [take_one P hlP, hp, <- hv]
   have hlti : (k : Int) < (gn : Int) := by omega
   clear hp hv e1 e2 l2 hlP OWr
   go_upto_region 6 with fail
   obtain ⟨w5, hw5⟩ : ∃ W, W = (wr.alloc (.cells #[.int .i64 p, .slice A n c] 145)) := ⟨_, rfl⟩; rw [<- hw5]; have S5 : Hid (Blk w5 (wr.heap.size) 145 #[.int .i64 p, .slice A n c]) := by show Blk _ _ _ _; rw [hw5]; exact Blk.new _ _ _
   have hb : Below wr.heap.size wr w5 := by rw [hw5]; exact ((Below.refl _ _).alloc (Nat.le_refl _) _)
   obtain ⟨g5, hg5⟩ : ∃ g, g = wr.heap.size := ⟨_, rfl⟩; have HGw5 : Hid (g5 = wr.heap.size) := hg5; rw [<- hg5] at S5
   try rw [<- hg5]
   clear hw5 hg5; have hP5 := hP3.out.below hb; have row5 := row_ext hrow.out hb; have hbe : Below w3.heap.size w3 w5 := hbw.out.trans (hb.mono hbw.out.size); have c12 : w5.cell? ⟨g3, 12, none⟩ = some vs := hP5.cell 12; have s0 := S5.out.cell 0; have s1 := S5.out.cell 1; simp only [List.getElem?_toArray, List.getElem?_cons_zero, List.getElem?_cons_succ] at s0 s1; obtain ⟨iS, hiS, hzS, hsS, hbS⟩ := info_parts infoSet; have HP5 := lh hP5; have hsz5 := hbe.size; have HBE := lh hbe; have ROW5 := lh row5; clear hb p0 p1 hP5 hbe row5 hP3 hrow hbw
   go_wp2_with (at_builtin; refine wpList_append_own _ rfl _ _ 40 rfl w3.heap.size 172 iS (.agg #[.int .i64 0, .slice none 0 0]) 2 32 Tryz.underlying40 hiS hzS hsS hbS rfl (by decide) vs k (stCells (P.take k)) rfl (World.ownsRow.alloc ROW5.out _) ⟨w5.heap.size, 0, none⟩ 1 1 [.int .i64 p, .slice A n c] rfl rfl (set_cells_at w5 172 _ _) (by simp [Value.oneCell']) (by unfold maxLen; omega) (by omega) (by simp; omega) ?_; intro v' w6 hown' hgrow _; obtain ⟨g6, c6, rfl⟩ := own_shapeG hown'; have P6 := row_blk (World.ownsRow.alloc ROW5.out _) hgrow (HP5.out.alloc _) (by decide); have z12 := P6.cell 12; have f12 := P6.frozen 12; simp only [tyW, List.getElem?_toArray, List.getElem?_cons_zero, List.getElem?_cons_succ] at z12)
   go_roundw
   case rel => exact ⟨k + 1, .slice (some ⟨g6, 0, none⟩) (k + 1) c6, by omega, by go_num, P6.set_ 12 _, by rw [HTK.out, stCells_snoc]; exact row_cell hown' P6 (by decide) 12 _, (Below.grown (HBE.out.alloc hsz5 _) hgrow (by simp; omega) (fun j hj => (ROW5.out.lt j hj).1)).setCell HG3.out _⟩
   case measure => simp [intOf]; omega
  ·obtain rfl : k = gn := by omega
   clear hlt hk
   obtain ⟨AN, cN, rfl⟩ : ∃ A c, vs = .slice A k c := by
    rcases hrow.out.2 with ⟨h1, h0⟩ | ⟨g, cap, cur, h1, _⟩
    ·exact ⟨none, 0, by rw [h1, h0]⟩
    ·exact ⟨_, cap, h1⟩
   have OWz := lh (O3.out.below hbw.out); obtain ⟨tw, htw⟩ : ∃ tw, tw = tyW nm (.slice A1 sn c1) T (.slice A2 qn c2) (.slice AN k cN) := ⟨_, rfl⟩; rw [<- htw] at hP3; have HTW := lh htw; have HTS : Hid (13 = tw.size) := by show _ = _; rw [htw]; rfl
   have tin : Hid ((Tryz.prog.info? 42).map (·.size) = some tw.size) := by show _ = _; rw [htw]; kernel_rfl
   have tone : Hid (tw.all (fun u => u.oneCell') = true) := by show _ = _; rw [htw]; simp [tyW, Value.oneCell']
   clear htw
   go_wp2_with (first | (refine wpList_load_row rfl 42 _ rfl g3 rfl 42 tw (0, 0) _ hP3.out Tryz.underlying42 rfl tin.out ?_) | (refine wpList_store_row rfl 42 _ _ rfl g2 tw rfl rfl 42 _ OWz.out tin.out HTS.out tone.out ?_))
   obtain ⟨wf, hwf⟩ : ∃ W, W = wr.setRow g2 tw := ⟨_, rfl⟩; rw [<- hwf]; have RF : Blk wf g2 42 tw := by rw [hwf]; exact OWz.out.setRow _
   have OF : OwnTG wf base sh T A1 sn c1 A2 qn c2 A3 k cS P := OWr.out.high fun b hb _ => by rw [hwf]; exact setRow_other wr g2 b tw (by have := HGB.out.1; omega)
   have rowF : wf.ownsRow w3.heap.size 172 2 (.slice AN k cN) k (stCells P) := by
    have h := hrow.out; rw [List.take_of_length_le (by rw [OW3.out.len]; omega)] at h; rw [hwf]; exact row_in_row h OWz.out (by decide) _
   have BW : Below w.heap.size w wf := by rw [hwf]; exact (HB3.out.trans (hbw.out.mono HB3.out.size)).setRow' HG2.out _
   have r0 : wf.cell? ⟨g2, 0, none⟩ = some (.string nm) := (RF.cell 0).trans (by rw [HTW.out]; rfl); have r1 : wf.cell? ⟨g2, 1, none⟩ = some (.slice A1 sn c1) := (RF.cell 1).trans (by rw [HTW.out]; rfl); have r2 : wf.cell? ⟨g2, 2, none⟩ = some (.int .i64 (T.direct.getD 0 0)) := (RF.cell 2).trans (by rw [HTW.out]; rfl); have r3 : wf.cell? ⟨g2, 3, none⟩ = some (.int .i64 (T.direct.getD 1 0)) := (RF.cell 3).trans (by rw [HTW.out]; rfl); have r4 : wf.cell? ⟨g2, 4, none⟩ = some (.int .i64 (T.direct.getD 2 0)) := (RF.cell 4).trans (by rw [HTW.out]; rfl); have r5 : wf.cell? ⟨g2, 5, none⟩ = some (.int .i64 (T.direct.getD 3 0)) := (RF.cell 5).trans (by rw [HTW.out]; rfl); have r6 : wf.cell? ⟨g2, 6, none⟩ = some (.int .i64 (T.direct.getD 4 0)) := (RF.cell 6).trans (by rw [HTW.out]; rfl); have r7 : wf.cell? ⟨g2, 7, none⟩ = some (.int .i64 (T.direct.getD 5 0)) := (RF.cell 7).trans (by rw [HTW.out]; rfl)
   have r8 : wf.cell? ⟨g2, 8, none⟩ = some (.int .i64 (T.direct.getD 6 0)) := (RF.cell 8).trans (by rw [HTW.out]; rfl); have r9 : wf.cell? ⟨g2, 9, none⟩ = some (.int .i64 (T.direct.getD 7 0)) := (RF.cell 9).trans (by rw [HTW.out]; rfl); have r10 : wf.cell? ⟨g2, 10, none⟩ = some (.int .i64 T.side) := (RF.cell 10).trans (by rw [HTW.out]; rfl); have r11 : wf.cell? ⟨g2, 11, none⟩ = some (.slice A2 qn c2) := (RF.cell 11).trans (by rw [HTW.out]; rfl); have r12 : wf.cell? ⟨g2, 12, none⟩ = some (.slice AN k cN) := (RF.cell 12).trans (by rw [HTW.out]; rfl); have EQ : Value.agg #[.string nm, .slice A1 sn c1, .int .i64 (T.direct.getD 0 0), .int .i64 (T.direct.getD 1 0), .int .i64 (T.direct.getD 2 0), .int .i64 (T.direct.getD 3 0), .int .i64 (T.direct.getD 4 0), .int .i64 (T.direct.getD 5 0), .int .i64 (T.direct.getD 6 0), .int .i64 (T.direct.getD 7 0), .int .i64 T.side, .slice A2 qn c2, .slice AN k cN] = .agg tw := by rw [HTW.out]; rfl
   (try simp only [Exit.inBlock, Exit.then])
   refine bodyPost_ret (v := .agg #[.string nm, .slice A1 sn c1, .int .i64 (T.direct.getD 0 0), .int .i64 (T.direct.getD 1 0), .int .i64 (T.direct.getD 2 0), .int .i64 (T.direct.getD 3 0), .int .i64 (T.direct.getD 4 0), .int .i64 (T.direct.getD 5 0), .int .i64 (T.direct.getD 6 0), .int .i64 (T.direct.getD 7 0), .int .i64 T.side, .slice A2 qn c2, .slice AN k cN]) (by simp [results, Tryz.results16, go_sem, asAddr, r0, r1, r2, r3, r4, r5, r6, r7, r8, r9, r10, r11, r12]) rfl ?_; rw [EQ]; exact ⟨tw, A1, c1, A2, c2, AN, cN, rfl, rtyG_own HTW.out OF.sh OF.sq rowF OF.len OF.each HSL.out, OF.sq.cap, BW⟩
def chainC (ops : Array Oper) (n : Nat) : Bool := (List.range ops.size).all fun t => decide (t <= n) || (List.range t).any fun u => decide (n <= u) && Region.waitsFor .any ops t u
def firstN (size n : Nat) : Array Bool := (Array.replicate n true) ++ (Array.replicate (size - n) false)
section
variable {P : Program} {ops : Array Oper} {Q : Exit -> Act -> World -> Prop} {a : Act} {w : World}
end
theorem firstN_get {size n i : Nat} (h : i < (firstN size n).size) : (firstN size n)[i]'h = decide (i < n) := by
 simp only [firstN, Array.getElem_append, Array.size_replicate, Array.getElem_replicate]
 split <;> simp_all
def sinkQ (ops : Array Oper) (n q : Nat) : Bool := (List.range n).all fun i => decide (i = q) || (List.range (n + 1)).any fun j => decide (i < j) && decide (j ≠ q) && Region.waitsFor .any ops j i
theorem tailQ_waits {ops : Array Oper} {n q : Nat} {listed : Array Bool} (hs : sinkQ ops n q = true) (hc : chainC ops n = true) (inv : HeadInv .any ops n listed) :
  ∀ (k i : Nat), n - i = k -> i < n -> i ≠ q -> listed.getD i true = false -> ∀ t, n <= t -> t ∉ Region.ready .any ops listed := by
 intro k
 induction k using Nat.strongRecOn with
 | _ k ih =>
   intro i hd hi hiq hun t ht hr; obtain ⟨htun, ot, hot, hall⟩ := mem_ready.1 hr; have htlt : t < ops.size := (Array.getElem?_eq_some_iff.1 hot).1
   by_cases htn : t = n
   ·subst htn; have h1 := List.all_eq_true.1 hs i (List.mem_range.2 hi); simp only [Bool.or_eq_true, decide_eq_true_eq] at h1; have h1 := h1.resolve_left hiq; obtain ⟨j, hj, hj2⟩ := List.any_eq_true.1 h1; simp only [Bool.and_eq_true, decide_eq_true_eq] at hj2; obtain ⟨oj, hoj, e, he, hb, hon⟩ := Region.waitsFor_spec hj2.2; have hjle : j <= t := by have := List.mem_range.1 hj; omega
    by_cases hjt : j = t
    ·subst hjt; have : oj = ot := Option.some.inj (hoj.symm.trans hot); subst this; have h2 := hall e he hb; rw [hon, getD_both hun] at h2
     cases h2
    ·cases hl : listed.getD j false with
     | true =>
       have h2 := inv.closed j oj hoj hl e he hb; rw [hon, getD_both hun] at h2
       cases h2
     | false =>
       have hjs : j < listed.size := by rw [inv.size]; omega
       exact ih (t - j) (by omega) j rfl (by omega) hj2.1.2 (getD_in hjs hl) t (Nat.le_refl _) hr
   ·have h1 := List.all_eq_true.1 hc t (List.mem_range.2 htlt); simp only [Bool.or_eq_true, decide_eq_true_eq] at h1; rcases h1 with h1 | h1
    ·omega
    ·obtain ⟨u, hu, hu2⟩ := List.any_eq_true.1 h1; simp only [Bool.and_eq_true, decide_eq_true_eq] at hu2; obtain ⟨o', ho', e, he, hb, hon⟩ := Region.waitsFor_spec hu2.2; have : o' = ot := Option.some.inj (ho'.symm.trans hot); subst this; have h2 := hall e he hb; have hut : u < t := List.mem_range.1 hu; rw [hon, getD_both (inv.tail u hu2.1 (by omega))] at h2
     cases h2
def growQB (ops : Array Oper) (n q : Nat) : Bool :=
 Region.noSelect ops && decide (n < ops.size) && decide (q < n) && Region.free .any ops ((firstN ops.size n).setIfInBounds q false) q && sinkQ ops n q && chainC ops n &&
  (List.range n).all fun i => match ops[i]? with
   | none => false
   | some o => o.guard.isNone && (o.after.all fun e => !Region.binds .any e || decide (e.on < i)) && (match o.dst with | none => false | some t => (List.range n).all fun j => decide (j = i) || decide (dstAt ops j ≠ some t))
theorem growQB_spec {ops : Array Oper} {n q : Nat} (h : growQB ops n q = true) : (∀ i, i < n -> ∃ o t, ops[i]? = some o /\ o.guard = none /\ o.dst = some t /\ (∀ j, j < n -> j ≠ i -> dstAt ops j ≠ some t) /\ ∀ e, e ∈ o.after -> Region.binds .any e = true -> e.on < i) := by
 intro i hi; unfold growQB at h; simp only [Bool.and_eq_true] at h; have h1 := List.all_eq_true.1 h.2 i (by simpa using hi)
 cases ho : ops[i]? with
 | none => rw [ho] at h1; simp at h1
 | some o =>
   rw [ho] at h1; simp only [Bool.and_eq_true] at h1; obtain ⟨⟨h2, h4⟩, h3⟩ := h1
   cases hd : o.dst with
   | none => rw [hd] at h3; simp at h3
   | some t =>
     rw [hd] at h3; refine ⟨o, t, rfl, by simpa using h2, hd, fun j hj hji => ?_, fun e he hb => ?_⟩
     ·have := List.all_eq_true.1 h3 j (by simpa using hj)
      simpa [hji] using this
     ·have := Array.all_eq_true_iff_forall_mem.1 h4 e he
      simpa [hb] using this
theorem headReadyQ {ops : Array Oper} {n q : Nat} {seen : Array Bool} (hB : growQB ops n q = true) (inv : HeadInv .any ops n seen) : ∀ {i : Nat}, i < n -> seen.getD i true = false -> ∃ k, k < n /\ k ∈ Region.ready .any ops seen := by
 intro i
 induction i using Nat.strongRecOn with
 | _ i ih =>
   intro hi hun; obtain ⟨o, t, ho, _, _, _, hb⟩ := growQB_spec hB i hi
   by_cases hall : ∀ e, e ∈ o.after -> Region.binds .any e = true -> seen.getD e.on false = true
   ·exact ⟨i, hi, mem_ready.2 ⟨hun, o, ho, hall⟩⟩
   ·simp only [Classical.not_forall] at hall; obtain ⟨e, he, hbe, hne⟩ := hall; have h1 := hb e he hbe; have hlt : i < ops.size := (Array.getElem?_eq_some_iff.1 ho).1; exact ih e.on h1 (by omega) (getD_in (by rw [inv.size]; omega) (by simpa using hne))
theorem wp_region_growR {P : Program} {id : Nat} {Q : Exit -> Act -> World -> Prop} {f : Act} {w : World} {l : List Oper} (n q : Nat) (hm : P.follows .mixedOrders = true) (hB : growQB l.toArray n q = true) (Rs : List GR) (size : Nat) (hsz : f.tmps.size = size) (hfB : dstB l.toArray n size = true)
  (hQd : ∀ c a d v w, Q (.panic c) (a.put d v) w -> Q (.panic c) a w)
  (hlate : ∀ (oq : Oper) (a : Act) (W : World), l.toArray[q]? = some oq -> Ext w W -> (∀ j t, (oq.after.any fun e => Region.binds .any e && decide (e.on = j)) = true -> dstAt l.toArray j = some t -> (GR.at Rs j).r (a.tmps[t]?.getD undef) W) -> (∀ t, outOf l.toArray n (.tmp t) = true -> a.tmps[t]?.getD undef = f.tmps[t]?.getD undef) -> ∃ v, (∀ w', (execOp a.eval oq).run P w' = .ok (.value v) w') /\ (GR.at Rs q).r v W)
  (hstep : growSteps P Q l.toArray f w Rs n (l.take n) 0)
  (h : ∀ (vs : Nat -> Value) (W : World), Ext w W -> (∀ i, i < n -> (GR.at Rs i).r (vs i) W) -> wpAny P .any l.toArray Q (l.toArray.size - n) (firstN l.toArray.size n) ((List.range n).foldl (fun a i => a.put (dstAt l.toArray i) (vs i)) f) W) : (Code.region id l.toArray true).wp P Q f w := by
 have hf : ∀ i t, i < n -> dstAt l.toArray i = some t -> t < f.tmps.size := fun i t hi ht => by
  have := List.all_eq_true.1 hfB i (by simpa using hi); rw [ht] at this; rw [hsz]
  simpa using this
 have hspec := growQB_spec hB; have hB' := hB; unfold growQB at hB'; simp only [Bool.and_eq_true, decide_eq_true_eq] at hB'; obtain ⟨⟨⟨⟨⟨⟨hsel, hn⟩, hqn⟩, hfreeq⟩, hs⟩, hc⟩, _⟩ := hB'; have hn' : n < l.length := by simpa using hn
 have hdl : (l.drop n).length = l.toArray.size - n := by simp
 refine wp_region_any hm ?_
 -- the count of operations of the head that are still to come
 have main : ∀ (g : Nat) (seen : Array Bool) (vs : Nat -> Value) (W : World), ((List.range n).filter fun i => !seen.getD i true).length = g -> HeadInv .any l.toArray n seen -> Ext w W -> (∀ i, i < n -> seen.getD i false = true -> (GR.at Rs i).r (vs i) W) ->
   wpAny P .any l.toArray Q (g + (l.toArray.size - n)) seen (fillA l.toArray vs seen (List.range n) f) W := by
  intro g
  induction g with
  | zero =>
    intro seen vs W hg inv hE hR
    have hall : ∀ i, i < n -> seen.getD i true = true := fun i hi => by
     have := List.eq_nil_of_length_eq_zero hg; rw [List.filter_eq_nil_iff] at this
     simpa using this i (by simpa using hi)
    have hsz := inv.size
    have hall' : ∀ i, i < n -> seen.getD i false = true := fun i hi => by
     have h1 : i < seen.size := by rw [hsz]; omega
     have h2 := hall i hi
     simp [h1] at h2 ⊢; exact h2
    have hseen : seen = (Array.replicate n true) ++ (Array.replicate (l.toArray.size - n) false) := by
     refine Array.ext (by simp [hsz]; omega) fun i h1 h2 => ?_
     rcases Nat.lt_or_ge i n with hi | hi
     ·have h3 := hall i hi
      simp [h1] at h3
      rw [h3, Array.getElem_append_left (by simpa using hi)]
      simp
     ·have h3 := inv.tail i hi (by rw [<- hsz]; exact h1)
      simp [h1] at h3
      rw [h3, Array.getElem_append_right (by simpa using hi)]
      simp
    have hfill : fillA l.toArray vs seen (List.range n) f = (List.range n).foldl (fun a i => a.put (dstAt l.toArray i) (vs i)) f := by
     have : ∀ (t : List Nat) (f : Act), (∀ i, i ∈ t -> i < n) -> fillA l.toArray vs seen t f = t.foldl (fun a i => a.put (dstAt l.toArray i) (vs i)) f := by
      intro t
      induction t with
      | nil => intro f _; rfl
      | cons k t ih =>
        intro f ht; rw [fillA_cons, List.foldl_cons, if_pos (hall' k (ht k (by simp)))]; exact ih _ fun i hi => ht i (List.mem_cons_of_mem _ hi)
     exact this _ _ fun i hi => by simpa using hi
    rw [hfill, Nat.zero_add, show seen = firstN l.toArray.size n from hseen]; exact h vs W hE fun i hi => hR i hi (hall' i hi)
  | succ g ih =>
    intro seen vs W hg inv hE hR
    obtain ⟨i0, hi0⟩ : ∃ i, i ∈ (List.range n).filter fun i => !seen.getD i true := by
     cases hl : (List.range n).filter fun i => !seen.getD i true with
     | nil => rw [hl] at hg; simp at hg
     | cons b t => exact ⟨b, by simp⟩
    rw [List.mem_filter] at hi0; have hi1 : i0 < n := by simpa using hi0.1
    have hi2 : seen.getD i0 true = false := by simpa using hi0.2
    have depR : ∀ (o' : Oper), (∀ e ∈ o'.after, Region.binds .any e = true -> seen.getD e.on false = true) -> ∀ j t', (o'.after.any fun e => Region.binds .any e && decide (e.on = j)) = true -> dstAt l.toArray j = some t' -> (GR.at Rs j).r ((fillA l.toArray vs seen (List.range n) f).tmps[t']?.getD undef) W := fun o' hall j t' hj hd => by
     obtain ⟨e, he, hh⟩ := Array.any_eq_true'.1 hj; simp only [Bool.and_eq_true, decide_eq_true_eq] at hh; obtain ⟨hb, rfl⟩ := hh; have hsj := hall e he hb
     have hjn : e.on < n := by
      rcases Nat.lt_or_ge e.on n with h1 | h1
      ·exact h1
      ·exfalso
       rcases Nat.lt_or_ge e.on l.toArray.size with h2 | h2
       ·have h3 := getD_both (inv.tail e.on h1 h2); rw [h3] at hsj; cases hsj
       ·rw [Array.getD_eq_getD_getElem?, Array.getElem?_eq_none (by rw [inv.size]; exact h2)] at hsj
        simp at hsj
     rw [<- eval_getD, fillA_at hsj hd (List.range n) f (hf _ _ hjn hd) (by simpa using hjn) List.nodup_range (fun k hk hkj hk2 => by
      obtain ⟨o2, t2, ho2, _, hd2, hdis2, _⟩ := hspec e.on hjn; have e2 : dstAt l.toArray e.on = some t2 := by simp [dstAt, ho2, hd2]
      rw [e2] at hd; exact hdis2 k (by simpa using hk) hkj (by rw [hk2, hd]))]
     exact hR _ hjn hsj
    by_cases hlate' : ∃ i1, i1 < n /\ i1 ≠ q /\ seen.getD i1 true = false
    rotate_left
    ·-- only the late one is to come: it is taken first
     have hallq : ∀ i, i < n -> i ≠ q -> seen.getD i true = true := fun i hi hiq => by
      cases hv : seen.getD i true with
      | true => rfl
      | false => exact absurd ⟨i, hi, hiq, hv⟩ hlate'
     have hi0q : i0 = q := Classical.byContradiction fun h => by rw [hallq i0 hi1 h] at hi2; cases hi2
     subst hi0q; obtain ⟨oq, t, hoq, hgd, hdst, hdis, hbe⟩ := hspec i0 hqn; have hsz := inv.size; have hqs : i0 < seen.size := by rw [hsz]; omega
     have hall : ∀ e ∈ oq.after, Region.binds .any e = true -> seen.getD e.on false = true := fun e he hb => by
      have h1 := hbe e he hb; have h2 : e.on < seen.size := by omega
      have h3 := hallq e.on (by omega) (by omega)
      simp [h2] at h3 ⊢; exact h3
     have hseen : seen = (firstN l.toArray.size n).setIfInBounds i0 false := by
      refine Array.ext (by simp [hsz, firstN]; omega) fun i h1 h2 => ?_
      rw [Array.getElem_setIfInBounds (by simpa using h2)]
      by_cases hii : i0 = i
      ·subst hii
       simp [h1] at hi2
       rw [hi2]; simp
      ·rw [if_neg hii, firstN_get (by simpa using h2)]; rcases Nat.lt_or_ge i n with hi | hi
       ·have h3 := hallq i hi (Ne.symm hii)
        simp [h1] at h3
        rw [h3, decide_eq_true hi]
       ·have h3 := inv.tail i hi (by rw [<- hsz]; exact h1)
        simp [h1] at h3
        rw [h3, decide_eq_false (by omega)]
     obtain ⟨v, hv1, hv2⟩ := hlate oq _ W hoq hE (depR oq hall) (fun t' hx => by
      rw [<- eval_getD, <- eval_getD]; refine fillA_other (List.range n) f fun j hj => ?_
      have := List.all_eq_true.1 hx j hj
      simpa using this)
     have hdi : dstAt l.toArray i0 = some t := by simp [dstAt, hoq, hdst]
     have hfr := hfreeq; rw [<- hseen] at hfr; rw [show g + 1 + (l.toArray.size - n) = (g + (l.toArray.size - n)) + 1 by omega]; have hir : i0 ∈ Region.ready .any l.toArray seen := mem_ready.2 ⟨hi2, oq, hoq, hall⟩; refine wpAny_first (md := .any) hoq (Region.noSelect_spec hsel) (fun c a w h => hQd c a _ _ w h) _ seen _ W (Region.free_spec hoq hfr) hir (Or.inl ⟨by simp [Region.wanted, hgd], hv1⟩) ?_; rw [hdst, <- hdi, <- fillA_put (vs := vs) (v := v) (getD_both hi2) hqs (List.range n) f (by simpa using hqn) List.nodup_range (fun j hj hji d hd => by rw [hdi]; intro e; exact hdis j (by simpa using hj) hji (hd.trans e.symm))]; refine ih _ _ _ ?_ (inv.set hir hqn) hE fun j hj hsj => ?_
     ·have hlen := filter_set hqs hi2 n hqn
      omega
     ·by_cases hji : i0 = j
      ·subst hji; rw [show updN vs i0 v i0 = v by simp [updN]]; exact hv2
      ·rw [getD_set_ne false hji] at hsj; rw [show updN vs i0 v j = vs j by simp [updN, Ne.symm hji]]; exact hR j hj hsj
    obtain ⟨i1, hi11, hi1q, hi12⟩ := hlate'; have early : ∀ j, j ∈ Region.ready .any l.toArray seen -> j < n := fun j hj => (Nat.lt_or_ge j n).elim (fun h => h) fun hh => absurd hj (tailQ_waits hs hc inv _ i1 rfl hi11 hi1q hi12 j hh)
    rw [show g + 1 + (l.toArray.size - n) = (g + (l.toArray.size - n)) + 1 by omega]; refine ⟨fun hnil => ?_, fun i hi => ?_⟩
    ·-- some operation of the head is ready: the first of those that are still to come by the order of its waits
     exfalso
     have hmin : ∃ i, i < n /\ i ∈ Region.ready .any l.toArray seen := by
      exact headReadyQ hB inv hi1 hi2
     obtain ⟨i, _, hir⟩ := hmin; rw [hnil] at hir
     cases hir
    ·have hin := early i hi; obtain ⟨hun, o', ho', hall⟩ := mem_ready.1 hi; obtain ⟨o, t, ho, hgd, hdst, hdis, _⟩ := hspec i hin; have : o' = o := Option.some.inj (ho'.symm.trans ho); subst this; have hdi : dstAt l.toArray i = some t := by simp [dstAt, ho, hdst]
     have hlo : (l.take n)[i]? = some o' := by
      rw [List.getElem?_take, if_pos hin]
      simpa using ho
     have st := growSteps_at (l.take n) 0 hstep i o' hlo; rw [Nat.zero_add] at st; have hnd : (List.range n).Nodup := List.nodup_range; have hisz : i < seen.size := by rw [inv.size]; omega
     have hus : seen.getD i false = false := getD_both hun; unfold wpOp; simp only [ho]; rw [if_pos (by simp [Region.wanted, hgd])]; refine Or.inl (Oper.wp_mono ?_ (st _ W hE ?_ ?_))
     ·rintro a' W' ⟨v, rfl, hE', hr⟩; rw [hdst, <- hdi, <- fillA_put (vs := vs) (v := v) hus hisz (List.range n) f (by simpa using hin) hnd (fun j hj hji d hd => by rw [hdi]; intro e; exact hdis j (by simpa using hj) hji (hd.trans e.symm))]; refine ih _ _ _ ?_ (inv.set hi hin) (hE.trans hE') fun j hj hsj => ?_
      ·have hlen := filter_set hisz hun n hin
       omega
      ·by_cases hji : i = j
       ·subst hji; rw [show updN vs i v i = v by simp [updN]]; exact hr
       ·rw [getD_set_ne false hji] at hsj; rw [show updN vs i v j = vs j by simp [updN, Ne.symm hji]]; exact (GR.at Rs j).keep (hR j hj hsj) hE'
     ·intro j t' hj hd; obtain ⟨e, he, hh⟩ := Array.any_eq_true'.1 hj; simp only [Bool.and_eq_true, decide_eq_true_eq] at hh; obtain ⟨hb, rfl⟩ := hh; have hsj := hall e he hb
      have hjn : e.on < n := by
       rcases Nat.lt_or_ge e.on n with h1 | h1
       ·exact h1
       ·exfalso
        rcases Nat.lt_or_ge e.on l.toArray.size with h2 | h2
        ·have h3 := getD_both (inv.tail e.on h1 h2); rw [h3] at hsj; cases hsj
        ·rw [Array.getD_eq_getD_getElem?, Array.getElem?_eq_none (by rw [inv.size]; exact h2)] at hsj
         simp at hsj
      rw [<- eval_getD, fillA_at hsj hd (List.range n) f (hf _ _ hjn hd) (by simpa using hjn) hnd (fun k hk hkj hk2 => by
       obtain ⟨o2, t2, ho2, _, hd2, hdis2, _⟩ := hspec e.on hjn; have e2 : dstAt l.toArray e.on = some t2 := by simp [dstAt, ho2, hd2]
       rw [e2] at hd; exact hdis2 k (by simpa using hk) hkj (by rw [hk2, hd]))]
      exact hR _ hjn hsj
     ·intro t' hx; rw [<- eval_getD, <- eval_getD]; refine fillA_other (List.range n) f fun j hj => ?_
      have := List.all_eq_true.1 hx j hj
      simpa using this
 have h0 := main n (Array.replicate l.toArray.size false) (fun _ => undef) w.drew ?_ ⟨by simp, fun j oj _ hl => (by rw [getD_replicate_false] at hl; cases hl), fun t _ ht => getD_in (by simpa using ht) (getD_replicate_false _ _)⟩ (Ext.drew w) (fun i _ hl => by rw [getD_replicate_false] at hl; cases hl)
 ·have hfill : fillA l.toArray (fun _ => undef) (Array.replicate l.toArray.size false) (List.range n) f = f := by
   have : ∀ (t : List Nat) (f : Act), fillA l.toArray (fun _ => undef) (Array.replicate l.toArray.size false) t f = f := by
    intro t
    induction t with
    | nil => intro f; rfl
    | cons k t ih =>
      intro f; rw [fillA_cons, if_neg (by rw [getD_replicate_false]; decide)]; exact ih f
   exact this _ _
  rw [hfill, show n + (l.toArray.size - n) = l.toArray.size by omega] at h0; exact h0
 ·have : (List.range n).filter (fun i => !(Array.replicate l.toArray.size false).getD i true) = List.range n := by
   rw [List.filter_eq_self]; intro i hi; have : i < n := by simpa using hi
   have : i < l.length := by omega
   simp [this]
  rw [this]
  simp
theorem wp_region_growS {P : Program} {id : Nat} {Q : Exit -> Act -> World -> Prop} {f : Act} {w : World} {l : List Oper} (n q : Nat) (hm : P.follows .mixedOrders = true) (hB : growQB l.toArray n q = true) (hseq : Region.seqB .any l.toArray (l.toArray.size - n) n (firstN l.toArray.size n) = true) (Rs : List GR) (size : Nat) (hsz : f.tmps.size = size) (hfB : dstB l.toArray n size = true)
  (hQd : ∀ c a d v w, Q (.panic c) (a.put d v) w -> Q (.panic c) a w)
  (hlate : ∀ (oq : Oper) (a : Act) (W : World), l.toArray[q]? = some oq -> Ext w W -> (∀ j t, (oq.after.any fun e => Region.binds .any e && decide (e.on = j)) = true -> dstAt l.toArray j = some t -> (GR.at Rs j).r (a.tmps[t]?.getD undef) W) -> (∀ t, outOf l.toArray n (.tmp t) = true -> a.tmps[t]?.getD undef = f.tmps[t]?.getD undef) -> ∃ v, (∀ w', (execOp a.eval oq).run P w' = .ok (.value v) w') /\ (GR.at Rs q).r v W)
  (hstep : growSteps P Q l.toArray f w Rs n (l.take n) 0)
  (h : ∀ (vs : Nat -> Value) (W : World), Ext w W -> (∀ i, i < n -> (GR.at Rs i).r (vs i) W) -> wpList P l.toArray Q (l.drop n) ((List.range n).foldl (fun a i => a.put (dstAt l.toArray i) (vs i)) f) W) : (Code.region id l.toArray true).wp P Q f w := by
 refine wp_region_growR n q hm hB Rs size hsz hfB hQd hlate hstep fun vs W hE hR => ?_
 have hdl : (l.drop n).length = l.toArray.size - n := by simp
 have := wpAny_of_seq (md := .any) (Q' := Q) (l.drop n) n (firstN l.toArray.size n) _ W (fun j => by simp [List.getElem?_drop]) (by rw [hdl]; exact hseq) (h vs W hE hR)
 rwa [hdl] at this
end Go.Proofs.YtmafmebcgmegeaaGreatDoor
