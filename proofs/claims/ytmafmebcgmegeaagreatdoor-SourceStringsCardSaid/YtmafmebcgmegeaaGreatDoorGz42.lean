/- Part. -/
import Derived.Test.YtmafmebcgmegeaaGreatDoorGz1
import Derived.Test.YtmafmebcgmegeaaGreatDoorGz32
import Derived.Test.YtmafmebcgmegeaaGreatDoorGz39
import Derived.Test.YtmafmebcgmegeaaGreatDoorGz30
import Derived.Test.YtmafmebcgmegeaaGreatDoorGz37
import Derived.Test.YtmafmebcgmegeaaGreatDoorGz23
namespace Go.Proofs.YtmafmebcgmegeaaGreatDoor
open Go.RowKit Go.Sort
def IntsV (w : World) (v : Value) (zs : List Int) : Prop := ∃ A n c, v = .slice A n c /\ IntsAt w A n zs
theorem rtyV {W : World} {base sn c1 qn c2 k c3 : Nat} {A1 A2 A3 : Option Addr} {nm : ByteArray} {sh : List Int} {T : Bell.Ty} {tw : Array Value} {P : List (Int × Value)} {t : TypeId} (hw : tw = tyW nm (.slice A1 sn c1) T (.slice A2 qn c2) (.slice A3 k c3)) (hA : IntsAt W A1 sn sh) (hB : IntsAt W A2 qn T.squares)
  (hR : W.ownsRow base t 2 (.slice A3 k c3) k (stCells P)) (hP : P.length = k) (hE : ∀ j, j < k -> (P.getD j (0, undef)).1 = Bell.ePow T.sets j /\ IntsV W (P.getD j (0, undef)).2 ((T.sets.getD j (0, [])).2)) (hl : T.sets.length = k) :
  RTy W tw nm sh T A1 sn c1 A2 qn c2 A3 k c3 := by
 refine ⟨hw, hA, hB, hl, fun h0 => ?_⟩; obtain ⟨gS, rfl⟩ := own_addr hR h0; refine ⟨gS, 0, rfl, hl, fun j hj => ?_⟩; obtain ⟨e1, A, n, c, hv, hz⟩ := hE j hj; have p0 := (stCells_at P j (by rw [hP]; exact hj)).1; have p1 := (stCells_at P j (by rw [hP]; exact hj)).2; refine ⟨A, n, c, ?_, ?_, hz⟩
 ·rw [Nat.zero_add, World.ownsRow.cellAt hR (j * 2) (by omega), p0, e1]
 ·rw [Nat.zero_add, World.ownsRow.cellAt hR (j * 2 + 1) (by omega), p1, hv]
set_option maxHeartbeats 1000000 in
set_option maxRecDepth 100000 in
theorem told_any {nm : ByteArray} {sh : List Int} {T : Bell.Ty} {A1 : Option Addr} {sn c1 : Nat} {A2 : Option Addr} {qn c2 : Nat} {ga : Option Addr} {gn cS : Nat} {cs : Array Value} (w : World) (hT : RTy w cs nm sh T A1 sn c1 A2 qn c2 ga gn cS) (hgn : gn <= 100000) :
  Calls Tryz.prog 78 #[.agg cs] w fun e w' => ∃ cs' A3 c3, e = .returned (.agg cs') /\ RTy w' cs' nm sh T A1 sn c1 A2 qn c2 A3 gn c3 /\ Below w.heap.size w w' := by
 have HSL : Hid (T.sets.length = gn) := hT.sets.1; have HT := lh hT; have HCS : Hid (cs = tyW nm (.slice A1 sn c1) T (.slice A2 qn c2) (.slice ga gn cS)) := hT.cells; clear hT
 go_enter Tryz.func78, Tryz.ntmps78
 go_upto_region 1 with fail
 obtain ⟨w3, hw3⟩ : ∃ W, W = (w.alloc (.cells cs 42)).alloc (.cells #[.string ⟨#[]⟩, .slice none 0 0, .int .i64 0, .int .i64 0, .int .i64 0, .int .i64 0, .int .i64 0, .int .i64 0, .int .i64 0, .int .i64 0, .int .i64 0, .slice none 0 0, .slice none 0 0] 26) := ⟨_, rfl⟩; rw [<- hw3]; have T3 : Hid (Blk w3 w.heap.size 42 cs) := by show Blk _ _ _ _; rw [hw3]; exact (Blk.new _ _ _).alloc _
 have O3 : Hid (Blk w3 (w.heap.size + 1) 26 #[.string ⟨#[]⟩, .slice none 0 0, .int .i64 0, .int .i64 0, .int .i64 0, .int .i64 0, .int .i64 0, .int .i64 0, .int .i64 0, .int .i64 0, .int .i64 0, .slice none 0 0, .slice none 0 0]) := by show Blk _ _ _ _; rw [hw3]; exact Blk.at_size _ _ (by simp)
 have HB3 : Hid (Below w.heap.size w w3) := by show Below _ _ _; rw [hw3]; exact ((Below.refl _ _).alloc (Nat.le_refl _) _).alloc (by simp) _
 obtain ⟨g, hg⟩ : ∃ g, g = w.heap.size := ⟨_, rfl⟩; obtain ⟨g2, hg2⟩ : ∃ g2, g2 = w.heap.size + 1 := ⟨_, rfl⟩; rw [<- hg2] at O3 ⊢; rw [<- hg] at T3 ⊢; have HG2 : Hid (w.heap.size <= g2) := by show _ <= _; omega
 have hgl2 : g2 < w3.heap.size := lt_of_block O3.out; clear hw3 hg hg2; obtain ⟨d0, hd0⟩ : ∃ x, x = T.direct.getD 0 0 := ⟨_, rfl⟩; obtain ⟨d1, hd1⟩ : ∃ x, x = T.direct.getD 1 0 := ⟨_, rfl⟩; obtain ⟨d2, hd2⟩ : ∃ x, x = T.direct.getD 2 0 := ⟨_, rfl⟩; obtain ⟨d3, hd3⟩ : ∃ x, x = T.direct.getD 3 0 := ⟨_, rfl⟩; obtain ⟨d4, hd4⟩ : ∃ x, x = T.direct.getD 4 0 := ⟨_, rfl⟩; obtain ⟨d5, hd5⟩ : ∃ x, x = T.direct.getD 5 0 := ⟨_, rfl⟩; obtain ⟨d6, hd6⟩ : ∃ x, x = T.direct.getD 6 0 := ⟨_, rfl⟩; obtain ⟨d7, hd7⟩ : ∃ x, x = T.direct.getD 7 0 := ⟨_, rfl⟩; have r0 : w3.cell? ⟨g, 0, none⟩ = some (.string nm) := (T3.out.cell 0).trans (by rw [HCS.out]; rfl); have r1 : w3.cell? ⟨g, 1, none⟩ = some (.slice A1 sn c1) := (T3.out.cell 1).trans (by rw [HCS.out]; rfl); have r2 : w3.cell? ⟨g, 2, none⟩ = some (.int .i64 d0) := (T3.out.cell 2).trans (by rw [HCS.out, hd0]; rfl); have r3 : w3.cell? ⟨g, 3, none⟩ = some (.int .i64 d1) := (T3.out.cell 3).trans (by rw [HCS.out, hd1]; rfl)
 have r4 : w3.cell? ⟨g, 4, none⟩ = some (.int .i64 d2) := (T3.out.cell 4).trans (by rw [HCS.out, hd2]; rfl); have r5 : w3.cell? ⟨g, 5, none⟩ = some (.int .i64 d3) := (T3.out.cell 5).trans (by rw [HCS.out, hd3]; rfl); have r6 : w3.cell? ⟨g, 6, none⟩ = some (.int .i64 d4) := (T3.out.cell 6).trans (by rw [HCS.out, hd4]; rfl); have r7 : w3.cell? ⟨g, 7, none⟩ = some (.int .i64 d5) := (T3.out.cell 7).trans (by rw [HCS.out, hd5]; rfl); have r8 : w3.cell? ⟨g, 8, none⟩ = some (.int .i64 d6) := (T3.out.cell 8).trans (by rw [HCS.out, hd6]; rfl); have r9 : w3.cell? ⟨g, 9, none⟩ = some (.int .i64 d7) := (T3.out.cell 9).trans (by rw [HCS.out, hd7]; rfl); have r10 : w3.cell? ⟨g, 10, none⟩ = some (.int .i64 T.side) := (T3.out.cell 10).trans (by rw [HCS.out]; rfl); have r11 : w3.cell? ⟨g, 11, none⟩ = some (.slice A2 qn c2) := (T3.out.cell 11).trans (by rw [HCS.out]; rfl); have r12 : w3.cell? ⟨g, 12, none⟩ = some (.slice ga gn cS) := (T3.out.cell 12).trans (by rw [HCS.out]; rfl)
 have HD0 := lh hd0; clear hd0; have HD1 := lh hd1; clear hd1; have HD2 := lh hd2; clear hd2; have HD3 := lh hd3; clear hd3; have HD4 := lh hd4; clear hd4; have HD5 := lh hd5; clear hd5; have HD6 := lh hd6; clear hd6; have HD7 := lh hd7; clear hd7
 go_upto_region 2 with fail
 obtain ⟨g3, hg3⟩ : ∃ x, x = w3.heap.size := ⟨_, rfl⟩; obtain ⟨w4, hw4⟩ : ∃ W, W = w3.alloc (.cells #[.string nm, .slice A1 sn c1, .int .i64 d0, .int .i64 d1, .int .i64 d2, .int .i64 d3, .int .i64 d4, .int .i64 d5, .int .i64 d6, .int .i64 d7, .int .i64 T.side, .slice A2 qn c2, .slice none 0 0] 26) := ⟨_, rfl⟩; rw [<- hw4]; rw [<- hg3]; have hb4 : Below w3.heap.size w3 w4 := by rw [hw4]; exact (Below.refl _ _).alloc (Nat.le_refl _) _
 have P4 : Hid (Blk w4 g3 26 (tyW nm (.slice A1 sn c1) T (.slice A2 qn c2) (.slice none 0 0))) := by
  show Blk _ _ _ _
  rw [hw4, hg3]; rw [show tyW nm (.slice A1 sn c1) T (.slice A2 qn c2) (.slice none 0 0) = #[.string nm, .slice A1 sn c1, .int .i64 d0, .int .i64 d1, .int .i64 d2, .int .i64 d3, .int .i64 d4, .int .i64 d5, .int .i64 d6, .int .i64 d7, .int .i64 T.side, .slice A2 qn c2, .slice none 0 0] by unfold tyW; rw [<- HD0.out, <- HD1.out, <- HD2.out, <- HD3.out, <- HD4.out, <- HD5.out, <- HD6.out, <- HD7.out]]; exact Blk.new _ _ _
 have HB4 : Hid (Below w3.heap.size w3 w4) := hb4; have t12 := ((T3.out.below hb4).cell 12).trans ((T3.out.cell 12).symm.trans r12); have HG3 : Hid (w3.heap.size <= g3) := by show _ <= _; omega
 clear hw4 hb4 r0 r1 r2 r3 r4 r5 r6 r7 r8 r9 r10 r11 r12 hg3; go_wp2
 go_loopw [5, 20] (fun _ i wr => ∃ (k : Nat) (vs : Value) (P : List (Int × Value)), P.length = k /\ Hid (∀ j, j < k -> (P.getD j (0, undef)).1 = Bell.ePow T.sets j /\ IntsV w (P.getD j (0, undef)).2 ((T.sets.getD j (0, [])).2)) /\ k <= gn /\ i = .int .i64 k /\ Hid (Blk wr g3 26 (tyW nm (.slice A1 sn c1) T (.slice A2 qn c2) vs)) /\ Hid (wr.ownsRow w3.heap.size 145 2 vs k (stCells P)) /\ Hid (Below w3.heap.size w3 wr)) (fun _ i _ => gn - (intOf i).toNat)
 case atStart => exact ⟨0, .slice none 0 0, [], rfl, fun j hj => absurd hj (by omega), Nat.zero_le _, rfl, P4.out, World.ownsRow_nil _ _ _ _, HB4.out⟩
 case round =>
  clear P4 HB4 t12; obtain ⟨k, vs, P, hPl, HPE, hk, rfl, hP3, hrow, hbw⟩ := hrel; have HPL := lh hPl; have HBW : Hid (Below w.heap.size w wr) := HB3.out.trans (hbw.out.mono HB3.out.size)
  by_cases hlt : k < gn
  ·obtain ⟨gS, go, rfl, hsl⟩ := HT.out.sets.2 (by omega); obtain ⟨A, n, c, a1, a2, a3⟩ := hsl.2 k hlt; have p0 : wr.cell? ⟨gS, go + k * 2, none⟩ = some (.int .i64 (Bell.ePow T.sets k)) := (HBW.out.cell (p := ⟨gS, go + k * 2, none⟩) (World.block_lt_of_cell? _ _ a1)).trans a1; have p1 : wr.cell? ⟨gS, go + k * 2 + 1, none⟩ = some (.slice A n c) := (HBW.out.cell (p := ⟨gS, go + k * 2 + 1, none⟩) (World.block_lt_of_cell? _ _ a2)).trans a2; obtain ⟨p, hp⟩ : ∃ p, p = Bell.ePow T.sets k := ⟨_, rfl⟩; rw [<- hp] at p0
   have HPN : Hid (∀ j, j < k + 1 -> ((P ++ [(p, Value.slice A n c)]).getD j (0, undef)).1 = Bell.ePow T.sets j /\ IntsV w ((P ++ [(p, Value.slice A n c)]).getD j (0, undef)).2 ((T.sets.getD j (0, [])).2)) := fun j hj => by
    by_cases hjk : j < k
    ·rw [List.getD_eq_getElem?_getD, List.getElem?_append_left (by omega), <- List.getD_eq_getElem?_getD]; exact HPE.out j hjk
    ·obtain rfl : j = k := by omega
     rw [List.getD_eq_getElem?_getD, List.getElem?_append_right (by omega), show j - P.length = 0 by omega]; exact ⟨hp, A, n, c, rfl, a3⟩
   have HPM : Hid ((P ++ [(p, Value.slice A n c)]).length = k + 1) := by show _ = _; rw [List.length_append, hPl]; rfl
   have hlti : (k : Int) < (gn : Int) := by omega
   clear hp a1 a2 a3 hsl hPl HPE HBW
   go_upto_region 5 with fail
   obtain ⟨w5, hw5⟩ : ∃ W, W = (wr.alloc (.cells #[.int .i64 p, .slice A n c] 172)) := ⟨_, rfl⟩; rw [<- hw5]; have S5 : Hid (Blk w5 (wr.heap.size) 172 #[.int .i64 p, .slice A n c]) := by show Blk _ _ _ _; rw [hw5]; exact Blk.new _ _ _
   have hb : Below wr.heap.size wr w5 := by rw [hw5]; exact ((Below.refl _ _).alloc (Nat.le_refl _) _)
   obtain ⟨g5, hg5⟩ : ∃ g, g = wr.heap.size := ⟨_, rfl⟩; have HGw5 : Hid (g5 = wr.heap.size) := hg5; rw [<- hg5] at S5
   try rw [<- hg5]
   clear hw5 hg5; have hP5 := hP3.out.below hb; have row5 := row_ext hrow.out hb; have hbe : Below w3.heap.size w3 w5 := hbw.out.trans (hb.mono hbw.out.size); have c12 : w5.cell? ⟨g3, 12, none⟩ = some vs := hP5.cell 12; have s0 := S5.out.cell 0; have s1 := S5.out.cell 1; simp only [List.getElem?_toArray, List.getElem?_cons_zero, List.getElem?_cons_succ] at s0 s1; obtain ⟨iS, hiS, hzS, hsS, hbS⟩ := info_parts infoSetR; have HP5 := lh hP5; have hsz5 := hbe.size; have HBE := lh hbe; have ROW5 := lh row5; clear hb p0 p1 hP5 hbe row5 hP3 hrow hbw
   go_wp2_with (at_builtin; refine wpList_append_own _ rfl _ _ 24 rfl w3.heap.size 145 iS (.agg #[.int .i64 0, .slice none 0 0]) 2 32 Tryz.underlying24 hiS hzS hsS hbS rfl (by decide) vs k (stCells P) rfl (World.ownsRow.alloc ROW5.out _) ⟨w5.heap.size, 0, none⟩ 1 1 [.int .i64 p, .slice A n c] rfl rfl (set_cells_at w5 145 _ _) (by simp [Value.oneCell']) (by unfold maxLen; omega) (by omega) (by simp; omega) ?_; intro v' w6 hown' hgrow _; obtain ⟨g6, c6, rfl⟩ := own_shapeG hown'; have P6 := row_blk (World.ownsRow.alloc ROW5.out _) hgrow (HP5.out.alloc _) (by decide); have z12 := P6.cell 12; have f12 := P6.frozen 12; simp only [tyW, List.getElem?_toArray, List.getElem?_cons_zero, List.getElem?_cons_succ] at z12)
   go_roundw
   case rel => exact ⟨k + 1, .slice (some ⟨g6, 0, none⟩) (k + 1) c6, P ++ [(p, Value.slice A n c)], HPM.out, HPN, by omega, by go_num, P6.set_ 12 _, by rw [stCells_snoc]; exact row_cell hown' P6 (by decide) 12 _, (Below.grown (HBE.out.alloc hsz5 _) hgrow (by simp; omega) (fun j hj => (ROW5.out.lt j hj).1)).setCell HG3.out _⟩
   case measure => simp [intOf]; omega
  ·obtain rfl : k = gn := by omega
   clear hlt hk
   obtain ⟨AN, cN, rfl⟩ : ∃ A c, vs = .slice A k c := by
    rcases hrow.out.2 with ⟨h1, h0⟩ | ⟨g, cap, cur, h1, _⟩
    ·exact ⟨none, 0, by rw [h1, h0]⟩
    ·exact ⟨_, cap, h1⟩
   have OWz := lh (O3.out.below hbw.out); obtain ⟨tw, htw⟩ : ∃ tw, tw = tyW nm (.slice A1 sn c1) T (.slice A2 qn c2) (.slice AN k cN) := ⟨_, rfl⟩; rw [<- htw] at hP3; have HTW := lh htw; have HTS : Hid (13 = tw.size) := by show _ = _; rw [htw]; rfl
   have tin : Hid ((Tryz.prog.info? 26).map (·.size) = some tw.size) := by show _ = _; rw [htw]; kernel_rfl
   have tone : Hid (tw.all (fun u => u.oneCell') = true) := by show _ = _; rw [htw]; simp [tyW, Value.oneCell']
   clear htw
   go_wp2_with (first | (refine wpList_load_row rfl 26 _ rfl g3 rfl 26 tw (0, 0) _ hP3.out Tryz.underlying26 rfl tin.out ?_) | (refine wpList_store_row rfl 26 _ _ rfl g2 tw rfl rfl 26 _ OWz.out tin.out HTS.out tone.out ?_))
   obtain ⟨wf, hwf⟩ : ∃ W, W = wr.setRow g2 tw := ⟨_, rfl⟩; rw [<- hwf]; have RF : Blk wf g2 26 tw := by rw [hwf]; exact OWz.out.setRow _
   have rowF : wf.ownsRow w3.heap.size 145 2 (.slice AN k cN) k (stCells P) := by
    have h := hrow.out; rw [hwf]; exact row_in_row h OWz.out (by decide) _
   have BW : Below w.heap.size w wf := by rw [hwf]; exact (HB3.out.trans (hbw.out.mono HB3.out.size)).setRow' HG2.out _
   have r0 : wf.cell? ⟨g2, 0, none⟩ = some (.string nm) := (RF.cell 0).trans (by rw [HTW.out]; rfl); have r1 : wf.cell? ⟨g2, 1, none⟩ = some (.slice A1 sn c1) := (RF.cell 1).trans (by rw [HTW.out]; rfl); have r2 : wf.cell? ⟨g2, 2, none⟩ = some (.int .i64 (T.direct.getD 0 0)) := (RF.cell 2).trans (by rw [HTW.out]; rfl); have r3 : wf.cell? ⟨g2, 3, none⟩ = some (.int .i64 (T.direct.getD 1 0)) := (RF.cell 3).trans (by rw [HTW.out]; rfl); have r4 : wf.cell? ⟨g2, 4, none⟩ = some (.int .i64 (T.direct.getD 2 0)) := (RF.cell 4).trans (by rw [HTW.out]; rfl); have r5 : wf.cell? ⟨g2, 5, none⟩ = some (.int .i64 (T.direct.getD 3 0)) := (RF.cell 5).trans (by rw [HTW.out]; rfl); have r6 : wf.cell? ⟨g2, 6, none⟩ = some (.int .i64 (T.direct.getD 4 0)) := (RF.cell 6).trans (by rw [HTW.out]; rfl); have r7 : wf.cell? ⟨g2, 7, none⟩ = some (.int .i64 (T.direct.getD 5 0)) := (RF.cell 7).trans (by rw [HTW.out]; rfl)
   have r8 : wf.cell? ⟨g2, 8, none⟩ = some (.int .i64 (T.direct.getD 6 0)) := (RF.cell 8).trans (by rw [HTW.out]; rfl); have r9 : wf.cell? ⟨g2, 9, none⟩ = some (.int .i64 (T.direct.getD 7 0)) := (RF.cell 9).trans (by rw [HTW.out]; rfl); have r10 : wf.cell? ⟨g2, 10, none⟩ = some (.int .i64 T.side) := (RF.cell 10).trans (by rw [HTW.out]; rfl); have r11 : wf.cell? ⟨g2, 11, none⟩ = some (.slice A2 qn c2) := (RF.cell 11).trans (by rw [HTW.out]; rfl); have r12 : wf.cell? ⟨g2, 12, none⟩ = some (.slice AN k cN) := (RF.cell 12).trans (by rw [HTW.out]; rfl); have EQ : Value.agg #[.string nm, .slice A1 sn c1, .int .i64 (T.direct.getD 0 0), .int .i64 (T.direct.getD 1 0), .int .i64 (T.direct.getD 2 0), .int .i64 (T.direct.getD 3 0), .int .i64 (T.direct.getD 4 0), .int .i64 (T.direct.getD 5 0), .int .i64 (T.direct.getD 6 0), .int .i64 (T.direct.getD 7 0), .int .i64 T.side, .slice A2 qn c2, .slice AN k cN] = .agg tw := by rw [HTW.out]; rfl
   (try simp only [Exit.inBlock, Exit.then])
   refine bodyPost_ret (v := .agg #[.string nm, .slice A1 sn c1, .int .i64 (T.direct.getD 0 0), .int .i64 (T.direct.getD 1 0), .int .i64 (T.direct.getD 2 0), .int .i64 (T.direct.getD 3 0), .int .i64 (T.direct.getD 4 0), .int .i64 (T.direct.getD 5 0), .int .i64 (T.direct.getD 6 0), .int .i64 (T.direct.getD 7 0), .int .i64 T.side, .slice A2 qn c2, .slice AN k cN]) (by simp [results, Tryz.results78, go_sem, asAddr, r0, r1, r2, r3, r4, r5, r6, r7, r8, r9, r10, r11, r12]) rfl ?_; rw [EQ]; exact ⟨tw, AN, cN, rfl, rtyV HTW.out (HT.out.shares.keep BW) (HT.out.squares.keep BW) rowF HPL.out (fun j hj => ⟨(HPE.out j hj).1, by obtain ⟨A, n, c, e, h⟩ := (HPE.out j hj).2; exact ⟨A, n, c, e, h.keep BW⟩⟩) HSL.out, BW⟩
theorem eq_dirs (r0 r1 r2 r3 r4 r5 r6 r7 : Int) (w : World) : (Op.equalIn 10000 23 (.agg #[.int .i64 r0, .int .i64 r1, .int .i64 r2, .int .i64 r3, .int .i64 r4, .int .i64 r5, .int .i64 r6, .int .i64 r7]) (.agg #[.int .i64 r0, .int .i64 r1, .int .i64 r2, .int .i64 r3, .int .i64 r4, .int .i64 r5, .int .i64 r6, .int .i64 r7])).run Tryz.prog w = .ok true w := by
 obtain ⟨i, hi⟩ : ∃ i, Tryz.prog.info? 3 = some i := Option.isSome_iff_exists.1 (by kernel_rfl); rw [run_equalIn_array w 9999 (n := 8) (e := 3) (i := i) _ _ (by kernel_rfl) hi]; rw [show Tryz.prog.cellsOf 3 = 1 by kernel_rfl]
 have h := run_eqItems_i (P := Tryz.prog) w 9998 (e := 3) (k := .i64) Tryz.underlying3 #[.int .i64 r0, .int .i64 r1, .int .i64 r2, .int .i64 r3, .int .i64 r4, .int .i64 r5, .int .i64 r6, .int .i64 r7] #[.int .i64 r0, .int .i64 r1, .int .i64 r2, .int .i64 r3, .int .i64 r4, .int .i64 r5, .int .i64 r6, .int .i64 r7] (fun j => [r0, r1, r2, r3, r4, r5, r6, r7].getD j 0) (fun j => [r0, r1, r2, r3, r4, r5, r6, r7].getD j 0) (List.range 8) (fun j hj => by
  have hj8 : j < 8 := List.mem_range.1 hj
  match j, hj8 with
  | 0, _ => exact ⟨rfl, rfl⟩
  | 1, _ => exact ⟨rfl, rfl⟩
  | 2, _ => exact ⟨rfl, rfl⟩
  | 3, _ => exact ⟨rfl, rfl⟩
  | 4, _ => exact ⟨rfl, rfl⟩
  | 5, _ => exact ⟨rfl, rfl⟩
  | 6, _ => exact ⟨rfl, rfl⟩
  | 7, _ => exact ⟨rfl, rfl⟩)
 rw [show ((List.range 8).all fun j => [r0, r1, r2, r3, r4, r5, r6, r7].getD j 0 == [r0, r1, r2, r3, r4, r5, r6, r7].getD j 0) = true by simp] at h; exact h
theorem same_eq (A B : Option Addr) (n c d : Nat) (zs : List Int) (w : World) (hn : n <= 100000) (hA : IntsAt w A n zs) (hB : IntsAt w B n zs) :
  Calls Tryz.prog 33 #[.slice A n c, .slice B n d] w fun e w' => e = .returned (.bool true) /\ ∃ q, w' = w.drewN q := by
 have := sameInts_any A B n n c d zs zs w (by omega) (by omega) hA hB
 rwa [sameB_true rfl] at this
attribute [local go_sem] eq_dirs in
set_option maxHeartbeats 2000000 in
set_option maxRecDepth 100000 in
theorem refSameT_eq {nm : ByteArray} {sh : List Int} {T : Bell.Ty} {sa sb : Option Addr} {sn sc sd : Nat} {qa qb : Option Addr} {qn qc qd : Nat} {ga gb : Option Addr} {gn gc gd : Nat} {cs cs2 : Array Value} (w : World) (h1 : RTy w cs nm sh T sa sn sc qa qn qc ga gn gc) (h2 : RTy w cs2 nm sh T sb sn sd qb qn qd gb gn gd) (hsn : sn <= 100000) (hqn : qn <= 100000) (hgn : gn <= 100000) (hen : ∀ k, k < gn -> ((T.sets.getD k (0, [])).2).length <= 100000) :
  Calls Tryz.prog 77 #[.agg cs, .agg cs2] w fun e w' => e = .returned (.bool true) /\ Below w.heap.size w w' := by
 have HEN := lh hen; have H1 := lh h1; have H2 := lh h2; clear h1 h2 hen
 go_enter Tryz.func77, Tryz.ntmps77
 go_upto_region 1 with fail
 obtain ⟨w1, hw1⟩ : ∃ W, W = ((w.alloc (.cells cs 26)).alloc (.cells cs2 26)) := ⟨_, rfl⟩; rw [<- hw1]; have TA : Hid (Blk w1 (w.heap.size) 26 cs) := by show Blk _ _ _ _; rw [hw1]; exact (Blk.new _ _ _).alloc _
 have TB : Hid (Blk w1 (w.heap.size + 1) 26 cs2) := by show Blk _ _ _ _; rw [hw1]; exact Blk.at_size _ _ (by simp)
 have hb : Below w.heap.size w w1 := by rw [hw1]; exact (((Below.refl _ _).alloc (Nat.le_refl _) _).alloc (by simp) _)
 obtain ⟨g2, hg2⟩ : ∃ g, g = w.heap.size := ⟨_, rfl⟩; obtain ⟨g3, hg3⟩ : ∃ g, g = w.heap.size + 1 := ⟨_, rfl⟩; have HGw1 : Hid (g2 = w.heap.size /\ g3 = w.heap.size + 1) := ⟨hg2, hg3⟩; rw [<- hg3] at TB
 try rw [<- hg3]
 rw [<- hg2] at TA
 try rw [<- hg2]
 clear hw1 hg2 hg3; have HB := lh hb; replace H1 := lh (H1.out.keep hb); replace H2 := lh (H2.out.keep hb); clear hb HGw1; obtain ⟨d0, hd0⟩ : ∃ x, x = T.direct.getD 0 0 := ⟨_, rfl⟩; obtain ⟨d1, hd1⟩ : ∃ x, x = T.direct.getD 1 0 := ⟨_, rfl⟩; obtain ⟨d2, hd2⟩ : ∃ x, x = T.direct.getD 2 0 := ⟨_, rfl⟩; obtain ⟨d3, hd3⟩ : ∃ x, x = T.direct.getD 3 0 := ⟨_, rfl⟩; obtain ⟨d4, hd4⟩ : ∃ x, x = T.direct.getD 4 0 := ⟨_, rfl⟩; obtain ⟨d5, hd5⟩ : ∃ x, x = T.direct.getD 5 0 := ⟨_, rfl⟩; obtain ⟨d6, hd6⟩ : ∃ x, x = T.direct.getD 6 0 := ⟨_, rfl⟩; obtain ⟨d7, hd7⟩ : ∃ x, x = T.direct.getD 7 0 := ⟨_, rfl⟩; have a0 : w1.cell? ⟨g2, 0, none⟩ = some (.string nm) := (TA.out.cell 0).trans (by rw [H1.out.cells]; rfl); have a1 : w1.cell? ⟨g2, 1, none⟩ = some (.slice sa sn sc) := (TA.out.cell 1).trans (by rw [H1.out.cells]; rfl); have a2 : w1.cell? ⟨g2, 2, none⟩ = some (.int .i64 d0) := (TA.out.cell 2).trans (by rw [H1.out.cells, hd0]; rfl)
 have a3 : w1.cell? ⟨g2, 3, none⟩ = some (.int .i64 d1) := (TA.out.cell 3).trans (by rw [H1.out.cells, hd1]; rfl); have a4 : w1.cell? ⟨g2, 4, none⟩ = some (.int .i64 d2) := (TA.out.cell 4).trans (by rw [H1.out.cells, hd2]; rfl); have a5 : w1.cell? ⟨g2, 5, none⟩ = some (.int .i64 d3) := (TA.out.cell 5).trans (by rw [H1.out.cells, hd3]; rfl); have a6 : w1.cell? ⟨g2, 6, none⟩ = some (.int .i64 d4) := (TA.out.cell 6).trans (by rw [H1.out.cells, hd4]; rfl); have a7 : w1.cell? ⟨g2, 7, none⟩ = some (.int .i64 d5) := (TA.out.cell 7).trans (by rw [H1.out.cells, hd5]; rfl); have a8 : w1.cell? ⟨g2, 8, none⟩ = some (.int .i64 d6) := (TA.out.cell 8).trans (by rw [H1.out.cells, hd6]; rfl); have a9 : w1.cell? ⟨g2, 9, none⟩ = some (.int .i64 d7) := (TA.out.cell 9).trans (by rw [H1.out.cells, hd7]; rfl); have a10 : w1.cell? ⟨g2, 10, none⟩ = some (.int .i64 T.side) := (TA.out.cell 10).trans (by rw [H1.out.cells]; rfl)
 have a11 : w1.cell? ⟨g2, 11, none⟩ = some (.slice qa qn qc) := (TA.out.cell 11).trans (by rw [H1.out.cells]; rfl); have a12 : w1.cell? ⟨g2, 12, none⟩ = some (.slice ga gn gc) := (TA.out.cell 12).trans (by rw [H1.out.cells]; rfl); have b0 : w1.cell? ⟨g3, 0, none⟩ = some (.string nm) := (TB.out.cell 0).trans (by rw [H2.out.cells]; rfl); have b1 : w1.cell? ⟨g3, 1, none⟩ = some (.slice sb sn sd) := (TB.out.cell 1).trans (by rw [H2.out.cells]; rfl); have b2 : w1.cell? ⟨g3, 2, none⟩ = some (.int .i64 d0) := (TB.out.cell 2).trans (by rw [H2.out.cells, hd0]; rfl); have b3 : w1.cell? ⟨g3, 3, none⟩ = some (.int .i64 d1) := (TB.out.cell 3).trans (by rw [H2.out.cells, hd1]; rfl); have b4 : w1.cell? ⟨g3, 4, none⟩ = some (.int .i64 d2) := (TB.out.cell 4).trans (by rw [H2.out.cells, hd2]; rfl); have b5 : w1.cell? ⟨g3, 5, none⟩ = some (.int .i64 d3) := (TB.out.cell 5).trans (by rw [H2.out.cells, hd3]; rfl)
 have b6 : w1.cell? ⟨g3, 6, none⟩ = some (.int .i64 d4) := (TB.out.cell 6).trans (by rw [H2.out.cells, hd4]; rfl); have b7 : w1.cell? ⟨g3, 7, none⟩ = some (.int .i64 d5) := (TB.out.cell 7).trans (by rw [H2.out.cells, hd5]; rfl); have b8 : w1.cell? ⟨g3, 8, none⟩ = some (.int .i64 d6) := (TB.out.cell 8).trans (by rw [H2.out.cells, hd6]; rfl); have b9 : w1.cell? ⟨g3, 9, none⟩ = some (.int .i64 d7) := (TB.out.cell 9).trans (by rw [H2.out.cells, hd7]; rfl); have b10 : w1.cell? ⟨g3, 10, none⟩ = some (.int .i64 T.side) := (TB.out.cell 10).trans (by rw [H2.out.cells]; rfl); have b11 : w1.cell? ⟨g3, 11, none⟩ = some (.slice qb qn qd) := (TB.out.cell 11).trans (by rw [H2.out.cells]; rfl); have b12 : w1.cell? ⟨g3, 12, none⟩ = some (.slice gb gn gd) := (TB.out.cell 12).trans (by rw [H2.out.cells]; rfl); clear hd0 hd1 hd2 hd3 hd4 hd5 hd6 hd7; have K1 : Hid (∀ W, Below w1.heap.size w1 W -> Calls Tryz.prog 33 #[.slice sa sn sc, .slice sb sn sd] W fun e w' => e = .returned (.bool true) /\ ∃ q, w' = W.drewN q) := fun W hE => same_eq sa sb sn sc sd sh W hsn (H1.out.shares.keep hE) (H2.out.shares.keep hE)
 have K2 : Hid (∀ W, Below w1.heap.size w1 W -> Calls Tryz.prog 33 #[.slice qa qn qc, .slice qb qn qd] W fun e w' => e = .returned (.bool true) /\ ∃ q, w' = W.drewN q) := fun W hE => same_eq qa qb qn qc qd T.squares W hqn (H1.out.squares.keep hE) (H2.out.squares.keep hE)
 go_wp2_with fail
 refine (K1.out _ (Below.refl _ _)).mono ?_; rintro e w2 ⟨rfl, q, rfl⟩
 go_wp2_with fail
 refine (K2.out _ (below_drewN' (Below.refl _ _) q)).mono ?_; rintro e w2 ⟨rfl, q2, rfl⟩; clear K1 K2; go_wp2
 go_loopw [5] (fun i wr => ∃ k : Nat, k <= gn /\ i = .int .i64 k /\ Below w1.heap.size w1 wr) (fun i _ => gn - (intOf i).toNat)
 case atStart => exact ⟨0, Nat.zero_le _, rfl, below_drewN' (Below.refl _ _) (q + q2)⟩
 case round =>
  clear a0 a1 a2 a3 a4 a5 a6 a7 a8 a9 a10 a11 a12 b0 b1 b2 b3 b4 b5 b6 b7 b8 b9 b10 b11 b12; obtain ⟨k, hk, rfl, hb⟩ := hrel; have HBW := lh hb; have TA2 := lh (TA.out.below hb); have TB2 := lh (TB.out.below hb); have c12 := (TA2.out.cell 12).trans H1.out.c12
  by_cases hlt : k < gn
  ·obtain ⟨G, O, rfl, hs1⟩ := H1.out.sets.2 (by omega); obtain ⟨H, N, rfl, hs2⟩ := H2.out.sets.2 (by omega); obtain ⟨ea, en, ec, a1, a2, a3⟩ := (hs1.keep hb).2 k hlt; obtain ⟨fa, fn, fc, b1, b2, b3⟩ := (hs2.keep hb).2 k hlt; obtain rfl : en = fn := a3.1.symm.trans b3.1; have hen : en <= 100000 := by rw [<- a3.1]; exact HEN.out k hlt
   obtain ⟨p, hp⟩ : ∃ p, p = Bell.ePow T.sets k := ⟨_, rfl⟩; rw [<- hp] at a1 b1; have A12 : Hid (∀ W, Ext wr W -> W.cell? ⟨g2, 12, none⟩ = some (.slice (some ⟨G, O, none⟩) gn gc)) := fun W hE => ((TA2.out.below hE).cell 12).trans H1.out.c12
   have B12 : Hid (∀ W, Ext wr W -> W.cell? ⟨g3, 12, none⟩ = some (.slice (some ⟨H, N, none⟩) gn gd)) := fun W hE => ((TB2.out.below hE).cell 12).trans H2.out.c12
   have AP : Hid (∀ W, Ext wr W -> W.cell? ⟨G, O + k * 2, none⟩ = some (.int .i64 p)) := fun W hE => (hE.cell (p := ⟨G, O + k * 2, none⟩) (World.block_lt_of_cell? _ _ a1)).trans a1
   have BP : Hid (∀ W, Ext wr W -> W.cell? ⟨H, N + k * 2, none⟩ = some (.int .i64 p)) := fun W hE => (hE.cell (p := ⟨H, N + k * 2, none⟩) (World.block_lt_of_cell? _ _ b1)).trans b1
   have AE : Hid (∀ W, Ext wr W -> W.cell? ⟨G, O + k * 2 + 1, none⟩ = some (.slice ea en ec)) := fun W hE => (hE.cell (p := ⟨G, O + k * 2 + 1, none⟩) (World.block_lt_of_cell? _ _ a2)).trans a2
   have BE : Hid (∀ W, Ext wr W -> W.cell? ⟨H, N + k * 2 + 1, none⟩ = some (.slice fa en fc)) := fun W hE => (hE.cell (p := ⟨H, N + k * 2 + 1, none⟩) (World.block_lt_of_cell? _ _ b2)).trans b2
   have KE : Hid (∀ W, Ext wr W -> Calls Tryz.prog 33 #[.slice ea en ec, .slice fa en fc] W fun e w' => e = .returned (.bool true) /\ ∃ q, w' = W.drewN q) := fun W hE => same_eq ea fa en ec fc _ W hen (a3.keep hE) (b3.keep hE)
   have hki : (k : Int) < (gn : Int) := by omega
   clear hp a1 a2 a3 b1 b2 b3 hs1 hs2 hb hen
   go_upto_region 6 with fail
   refine wp_region_guard 28 (by kernel_rfl) (by kernel_rfl) [GR.eq (.pointer (some ⟨g2, 12, none⟩)), GR.eq (.slice (some ⟨G, O, none⟩) gn gc), GR.eq (.int .i64 k), GR.eq (.pointer (some ⟨G, O + k * 2, none⟩)), GR.eq (.pointer (some ⟨G, O + k * 2, none⟩)), GR.eq (.int .i64 p), GR.eq (.pointer (some ⟨g3, 12, none⟩)), GR.eq (.slice (some ⟨H, N, none⟩) gn gd), GR.eq (.int .i64 k), GR.eq (.pointer (some ⟨H, N + k * 2, none⟩)), GR.eq (.pointer (some ⟨H, N + k * 2, none⟩)), GR.eq (.int .i64 p), GR.eq (.bool false), GR.eq (.bool false), GR.eq (.pointer (some ⟨g2, 12, none⟩)), GR.eq (.slice (some ⟨G, O, none⟩) gn gc), GR.eq (.int .i64 k), GR.eq (.pointer (some ⟨G, O + k * 2, none⟩)), GR.eq (.pointer (some ⟨G, O + k * 2 + 1, none⟩)), GR.eq (.slice ea en ec), GR.eq (.pointer (some ⟨g3, 12, none⟩)), GR.eq (.slice (some ⟨H, N, none⟩) gn gd), GR.eq (.int .i64 k), GR.eq (.pointer (some ⟨H, N + k * 2, none⟩)), GR.eq (.pointer (some ⟨H, N + k * 2 + 1, none⟩)), GR.eq (.slice fa en fc), GR.eq (.bool true), GR.eq (.bool false)] 86 rfl (by kernel_rfl) ?_ ?_
   ·refine ⟨?_, ?_, ?_, ?_, ?_, ?_, ?_, ?_, ?_, ?_, ?_, ?_, ?_, ?_, ?_, ?_, ?_, ?_, ?_, ?_, ?_, ?_, ?_, ?_, ?_, ?_, ?_, ?_, trivial⟩
    ·intro a W hE hd ho hw; have e2 : a.tmps[2]?.getD undef = .pointer (some ⟨g2, 0, none⟩) := ho 2 (by kernel_rfl); exact gs_same (v := .pointer (some ⟨g2, 12, none⟩)) (by go_simp) rfl
    ·intro a W hE hd ho hw; have e57 : a.tmps[57]?.getD undef = .pointer (some ⟨g2, 12, none⟩) := hd 0 57 (by kernel_rfl) (by kernel_rfl) rfl; have c12 := A12.out W hE; exact gs_same (v := .slice (some ⟨G, O, none⟩) gn gc) (by go_simp) rfl
    ·intro a W hE hd ho hw; have e5 : a.tmps[5]?.getD undef = .int .i64 k := ho 5 (by kernel_rfl); exact gs_same (v := .int .i64 k) (by go_simp) rfl
    ·intro a W hE hd ho hw; have e58 : a.tmps[58]?.getD undef = .slice (some ⟨G, O, none⟩) gn gc := hd 1 58 (by kernel_rfl) (by kernel_rfl) rfl; have e59 : a.tmps[59]?.getD undef = .int .i64 k := hd 2 59 (by kernel_rfl) (by kernel_rfl) rfl; exact gs_same (v := .pointer (some ⟨G, O + k * 2, none⟩)) (by go_simp) rfl
    ·intro a W hE hd ho hw; have e60 : a.tmps[60]?.getD undef = .pointer (some ⟨G, O + k * 2, none⟩) := hd 3 60 (by kernel_rfl) (by kernel_rfl) rfl; exact gs_same (v := .pointer (some ⟨G, O + k * 2, none⟩)) (by go_simp) rfl
    ·intro a W hE hd ho hw; have e61 : a.tmps[61]?.getD undef = .pointer (some ⟨G, O + k * 2, none⟩) := hd 4 61 (by kernel_rfl) (by kernel_rfl) rfl; have cp := AP.out W hE; exact gs_same (v := .int .i64 p) (by go_simp) rfl
    ·intro a W hE hd ho hw; have e3 : a.tmps[3]?.getD undef = .pointer (some ⟨g3, 0, none⟩) := ho 3 (by kernel_rfl); exact gs_same (v := .pointer (some ⟨g3, 12, none⟩)) (by go_simp) rfl
    ·intro a W hE hd ho hw; have e63 : a.tmps[63]?.getD undef = .pointer (some ⟨g3, 12, none⟩) := hd 6 63 (by kernel_rfl) (by kernel_rfl) rfl; have c12 := B12.out W hE; exact gs_same (v := .slice (some ⟨H, N, none⟩) gn gd) (by go_simp) rfl
    ·intro a W hE hd ho hw; have e5 : a.tmps[5]?.getD undef = .int .i64 k := ho 5 (by kernel_rfl); exact gs_same (v := .int .i64 k) (by go_simp) rfl
    ·intro a W hE hd ho hw; have e64 : a.tmps[64]?.getD undef = .slice (some ⟨H, N, none⟩) gn gd := hd 7 64 (by kernel_rfl) (by kernel_rfl) rfl; have e65 : a.tmps[65]?.getD undef = .int .i64 k := hd 8 65 (by kernel_rfl) (by kernel_rfl) rfl; exact gs_same (v := .pointer (some ⟨H, N + k * 2, none⟩)) (by go_simp) rfl
    ·intro a W hE hd ho hw; have e66 : a.tmps[66]?.getD undef = .pointer (some ⟨H, N + k * 2, none⟩) := hd 9 66 (by kernel_rfl) (by kernel_rfl) rfl; exact gs_same (v := .pointer (some ⟨H, N + k * 2, none⟩)) (by go_simp) rfl
    ·intro a W hE hd ho hw; have e67 : a.tmps[67]?.getD undef = .pointer (some ⟨H, N + k * 2, none⟩) := hd 10 67 (by kernel_rfl) (by kernel_rfl) rfl; have cp := BP.out W hE; exact gs_same (v := .int .i64 p) (by go_simp) rfl
    ·intro a W hE hd ho hw; have e62 : a.tmps[62]?.getD undef = .int .i64 p := hd 5 62 (by kernel_rfl) (by kernel_rfl) rfl; have e68 : a.tmps[68]?.getD undef = .int .i64 p := hd 11 68 (by kernel_rfl) (by kernel_rfl) rfl; exact gs_same (v := .bool false) (by go_simp) rfl
    ·intro a W hE hd ho hw; have e69 : a.tmps[69]?.getD undef = .bool false := hd 12 69 (by kernel_rfl) (by kernel_rfl) rfl; exact gs_same (v := .bool false) (by go_simp) rfl
    ·intro a W hE hd ho hw; have e2 : a.tmps[2]?.getD undef = .pointer (some ⟨g2, 0, none⟩) := ho 2 (by kernel_rfl); exact gs_same (v := .pointer (some ⟨g2, 12, none⟩)) (by go_simp) rfl
    ·intro a W hE hd ho hw; have e71 : a.tmps[71]?.getD undef = .pointer (some ⟨g2, 12, none⟩) := hd 14 71 (by kernel_rfl) (by kernel_rfl) hw; have c12 := A12.out W hE; exact gs_same (v := .slice (some ⟨G, O, none⟩) gn gc) (by go_simp) rfl
    ·intro a W hE hd ho hw; have e5 : a.tmps[5]?.getD undef = .int .i64 k := ho 5 (by kernel_rfl); exact gs_same (v := .int .i64 k) (by go_simp) rfl
    ·intro a W hE hd ho hw; have e72 : a.tmps[72]?.getD undef = .slice (some ⟨G, O, none⟩) gn gc := hd 15 72 (by kernel_rfl) (by kernel_rfl) hw; have e73 : a.tmps[73]?.getD undef = .int .i64 k := hd 16 73 (by kernel_rfl) (by kernel_rfl) hw; exact gs_same (v := .pointer (some ⟨G, O + k * 2, none⟩)) (by go_simp) rfl
    ·intro a W hE hd ho hw; have e74 : a.tmps[74]?.getD undef = .pointer (some ⟨G, O + k * 2, none⟩) := hd 17 74 (by kernel_rfl) (by kernel_rfl) hw; exact gs_same (v := .pointer (some ⟨G, O + k * 2 + 1, none⟩)) (by go_simp) rfl
    ·intro a W hE hd ho hw; have e75 : a.tmps[75]?.getD undef = .pointer (some ⟨G, O + k * 2 + 1, none⟩) := hd 18 75 (by kernel_rfl) (by kernel_rfl) hw; have ce := AE.out W hE; exact gs_same (v := .slice ea en ec) (by go_simp) rfl
    ·intro a W hE hd ho hw; have e3 : a.tmps[3]?.getD undef = .pointer (some ⟨g3, 0, none⟩) := ho 3 (by kernel_rfl); exact gs_same (v := .pointer (some ⟨g3, 12, none⟩)) (by go_simp) rfl
    ·intro a W hE hd ho hw; have e77 : a.tmps[77]?.getD undef = .pointer (some ⟨g3, 12, none⟩) := hd 20 77 (by kernel_rfl) (by kernel_rfl) hw; have c12 := B12.out W hE; exact gs_same (v := .slice (some ⟨H, N, none⟩) gn gd) (by go_simp) rfl
    ·intro a W hE hd ho hw; have e5 : a.tmps[5]?.getD undef = .int .i64 k := ho 5 (by kernel_rfl); exact gs_same (v := .int .i64 k) (by go_simp) rfl
    ·intro a W hE hd ho hw; have e78 : a.tmps[78]?.getD undef = .slice (some ⟨H, N, none⟩) gn gd := hd 21 78 (by kernel_rfl) (by kernel_rfl) hw; have e79 : a.tmps[79]?.getD undef = .int .i64 k := hd 22 79 (by kernel_rfl) (by kernel_rfl) hw; exact gs_same (v := .pointer (some ⟨H, N + k * 2, none⟩)) (by go_simp) rfl
    ·intro a W hE hd ho hw; have e80 : a.tmps[80]?.getD undef = .pointer (some ⟨H, N + k * 2, none⟩) := hd 23 80 (by kernel_rfl) (by kernel_rfl) hw; exact gs_same (v := .pointer (some ⟨H, N + k * 2 + 1, none⟩)) (by go_simp) rfl
    ·intro a W hE hd ho hw; have e81 : a.tmps[81]?.getD undef = .pointer (some ⟨H, N + k * 2 + 1, none⟩) := hd 24 81 (by kernel_rfl) (by kernel_rfl) hw; have ce := BE.out W hE; exact gs_same (v := .slice fa en fc) (by go_simp) rfl
    ·intro a W hE hd ho hw; have e76 : a.tmps[76]?.getD undef = .slice ea en ec := hd 19 76 (by kernel_rfl) (by kernel_rfl) hw; have e82 : a.tmps[82]?.getD undef = .slice fa en fc := hd 25 82 (by kernel_rfl) (by kernel_rfl) hw; refine gs_call (f := 33) (args := #[.slice ea en ec, .slice fa en fc]) (by go_simp) ?_; refine (KE.out W hE).mono ?_; rintro e w9 ⟨rfl, q, rfl⟩; exact ⟨_, rfl, below_drewN' (Below.refl _ _) q, rfl⟩
    ·intro a W hE hd ho hw; have e83 : a.tmps[83]?.getD undef = .bool true := hd 26 83 (by kernel_rfl) (by kernel_rfl) hw; exact gs_same (v := .bool false) (by go_simp) rfl
   intro vv w6 hE hR; have y13 : vv 13 = .bool false := hR 13 (by omega) rfl; have y27 : vv 27 = .bool false := hR 27 (by omega) (wanted_by (j := 27) (g := 13) (b := false) (t := 70) rfl rfl rfl (by simp only [List.range, List.range.loop, List.foldl_cons, List.foldl_nil, y13, dstAt, List.getElem?_toArray, List.getElem?_cons_zero, List.getElem?_cons_succ, Option.bind_some, Act.put, List.setIfInBounds_toArray, List.set_cons_zero, List.set_cons_succ, Option.getD_some])); simp only [List.range, List.range.loop, List.foldl_cons, List.foldl_nil, y13, y27, List.drop_succ_cons, List.drop_zero]; simp only [dstAt, List.getElem?_toArray, List.getElem?_cons_zero, List.getElem?_cons_succ, Option.bind_some, Act.put, List.setIfInBounds_toArray, List.set_cons_zero, List.set_cons_succ]; have HB6 := lh (HBW.out.trans (hE.below.mono HBW.out.size)); clear y13 y27 hR hE; go_wp2; go_roundw
   case rel => exact ⟨k + 1, by omega, by go_num, HB6.out⟩
   case measure => simp [intOf]; omega
  ·obtain rfl : k = gn := by omega
   go_wp2
   go_ret
   exact ⟨rfl, HB.out.trans (hb.mono HB.out.size)⟩
theorem zero_bd : BdS zeroS := stTo_bd [] (fun x hx => by simp at hx) 0
theorem parseS_bd (s : ByteArray) (hs : s.size <= 80000) : BdS (parseS s) := by
 unfold parseS
 split
 ·rename_i h
  refine stTo_bd _ (fun x hx => ?_) _
  have h4 : s.size <= 4096 := by
   rcases Nat.lt_or_ge 4096 s.size with h1 | h1
   ·unfold parseE at h; rw [if_pos h1] at h; omega
   ·exact h1
  have := linesB_size s x hx
  omega
 ·exact zero_bd
theorem parseS_sets (s : ByteArray) (hs : s.size <= 80000) : (parseS s).2.2.sets.length <= 100000 := by
 unfold parseS
 split
 ·have h1 := stTo_sets (linesB s) (linesB s).length; have h2 := linesB_le s
  omega
 ·simp [zeroS]
theorem name_size {nm : ByteArray} {sh : List Int} {T : Bell.Ty} (h : Bell.tyE (nameE nm) sh T = 0) : nm.size <= 24 := by
 have h1 := nameE_zero (tyE_split h).1; unfold nameB at h1; exact (@of_decide_eq_true _ (Classical.propDecidable _) h1).2.1
set_option maxHeartbeats 4000000 in
set_option maxRecDepth 100000 in
theorem PrintT_any {cs : Array Value} {nm : ByteArray} {sh : List Int} {T : Bell.Ty} {sa qa ga : Option Addr} {sn sc qn qc gn gc : Nat} (w : World) (hT : TyAny w cs nm sh T sa sn sc qa qn qc ga gn gc) (hfw : FirstWords w) (htab : Tab w) :
  Calls Tryz.prog 73 #[.agg cs] w fun x w' => x = .returned (.tuple #[.string (if Bell.tyE (nameE nm) sh T = 0 then typeB nm sh T else ⟨#[]⟩), .int .i64 (Bell.tyE (nameE nm) sh T)]) /\ Below w.heap.size w w' := by
 by_cases hz : Bell.tyE (nameE nm) sh T = 0
 ·obtain ⟨qb, qo, gb, go, rfl, rfl, hO⟩ := hT.ok hz; rw [if_pos hz, hz]; exact Print_ok w hO hfw htab
 ·rw [if_neg hz]; have HO := lh hT; have IT := lh hT.info; obtain ⟨N0, hN0⟩ : ∃ x, x = Bell.tyE (nameE nm) sh T := ⟨_, rfl⟩; rw [<- hN0] at hz ⊢; have HP0 := lh hN0; have hz1 : (N0 == 0) = false := by simp [hz]
  have hz2 : (N0 != 0) = true := by simp [hz]
  clear hT hN0 hfw htab
  go_enter Tryz.func73, Tryz.ntmps73
  go_upto_region 1 with fail
  obtain ⟨w1, hw1⟩ : ∃ W, W = (w.alloc (.cells cs 42)) := ⟨_, rfl⟩; rw [<- hw1]; have B3 : Hid (Blk w1 (w.heap.size) 42 cs) := by show Blk _ _ _ _; rw [hw1]; exact Blk.new _ _ _
  have hb1 : Below w.heap.size w w1 := by rw [hw1]; exact ((Below.refl _ _).alloc (Nat.le_refl _) _)
  obtain ⟨g3, hg3⟩ : ∃ g, g = w.heap.size := ⟨_, rfl⟩; have HGw1 : Hid (g3 = w.heap.size) := hg3; rw [<- hg3] at B3
  try rw [<- hg3]
  clear hw1 hg3; have HB : Hid (Below w.heap.size w w1) := hb1; clear hb1
  go_wp2_with (refine wpList_load_row rfl 42 _ rfl g3 rfl 42 cs (0, 0) _ B3.out Tryz.underlying42 rfl IT.out ?_)
  refine (HO.out.keep HB.out).check.mono ?_; rw [<- HP0.out]; rintro e w2 ⟨rfl, hb⟩; replace HB := lh (HB.out.trans (hb.mono HB.out.size)); replace B3 := lh (B3.out.below hb); clear hb; go_wp2
  go_ret2
  exact ⟨rfl, HB.out⟩
end Go.Proofs.YtmafmebcgmegeaaGreatDoor
