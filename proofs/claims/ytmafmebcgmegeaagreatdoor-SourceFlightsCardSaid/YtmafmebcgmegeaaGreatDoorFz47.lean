/- Texts Fg of the proof. -/
import Derived.Test.YtmafmebcgmegeaaGreatDoorFz46
import Derived.Test.YtmafmebcgmegeaaGreatDoorFz38
namespace Go.Proofs.YtmafmebcgmegeaaGreatDoor
open Go.RowKit Go.Sort
def OwnTq (W : World) (t : Tq) : Prop := ∃ (base base2 : Nat) (P : List (Int × Value)), OwnI0 W base (.slice t.sa t.sn t.sc) t.sn t.sh ∧ OwnI0 W base (.slice t.qa t.qn t.qc) t.qn t.T.squares ∧ W.ownsRow base2 172 2 (.slice t.ga t.gn t.gc) t.gn (stCells P) ∧ P.length = t.gn ∧ (∀ j, j < t.gn → (P.getD j (0, undef)).1 = Bell.ePow t.T.sets j ∧ OwnI0 W base (P.getD j (0, undef)).2 ((t.T.sets.getD j (0, [])).2).length ((t.T.sets.getD j (0, [])).2)) ∧ t.T.sets.length = t.gn
theorem OwnTq.rty {W : World} {t : Tq} (h : OwnTq W t) : RTy W t.cs t.nm t.sh t.T t.sa t.sn t.sc t.qa t.qn t.qc t.ga t.gn t.gc ∧ (t.qn ≤ t.qc ∧ t.qc ≤ 9223372036854775807) := by
  obtain ⟨base, base2, P, h1, h2, h3, h4, h5, h6⟩ := h; exact ⟨rtyG_own rfl h1 h2 h3 h4 h5 h6, h2.cap⟩
theorem OwnTq.ext {W W' : World} {t : Tq} (h : OwnTq W t) (hE : Ext W W') : OwnTq W' t := by
  obtain ⟨base, base2, P, h1, h2, h3, h4, h5, h6⟩ := h; exact ⟨base, base2, P, h1.imp fun k => k.below hE, h2.imp fun k => k.below hE, row_ext h3 hE, h4, fun j hj => ⟨(h5 j hj).1, (h5 j hj).2.imp fun k => k.below hE⟩, h6⟩
theorem OwnTq.grow {W W' : World} {base n : Nat} {v : Value} {xs : List Value} {t : Tq} (h : OwnTq W t) (ho : W.ownsRow base 42 13 v n xs) (hg : W.grownBy W' v.ownBlock) : OwnTq W' t := by
  obtain ⟨base, base2, P, h1, h2, h3, h4, h5, h6⟩ := h; exact ⟨base, base2, P, h1.imp fun k => row_row ho hg k (by decide), h2.imp fun k => row_row ho hg k (by decide), row_row ho hg h3 (by decide), h4, fun j hj => ⟨(h5 j hj).1, (h5 j hj).2.imp fun k => row_row ho hg k (by decide)⟩, h6⟩
set_option maxHeartbeats 1000000 in
set_option maxRecDepth 100000 in
theorem given_own {nm : ByteArray} {sh : List Int} {T : Bell.Ty} {sa : Option Addr} {sn sc : Nat} {qa : Option Addr} {qn qc : Nat} {ga : Option Addr} {gn gc : Nat} {cs : Array Value} (w : World) (hT : RTy w cs nm sh T sa sn sc qa qn qc ga gn gc) (hsn : sn ≤ 100000) (hqn : qn ≤ 100000) (hgn : gn ≤ 100000) (hen : ∀ k, k < gn → ((T.sets.getD k (0, [])).2).length ≤ 100000) :
    Calls Tryz.prog 16 #[.agg cs] w fun e w' => ∃ t' : Tq, e = .returned (.agg t'.cs) ∧ (t'.nm = nm ∧ t'.sh = sh ∧ t'.T = T ∧ t'.sn = sn ∧ t'.qn = qn ∧ t'.gn = gn) ∧ OwnTq w' t' ∧ Below w.heap.size w w' := by
  have HSL : Hid (T.sets.length = gn) := hT.sets.1; have HEN := Lib.hid hen; have HT := Lib.hid hT; have IT : Hid ((Tryz.prog.info? 26).map (·.size) = some cs.size) := by show _ = _; rw [hT.cells]; kernel_rfl
  have HCZ : Hid (cs.size = 13) := by show _ = _; rw [hT.cells]; rfl
  clear hT hen
  go_enter Tryz.func16, Tryz.ntmps16
  go_upto_region 1 with fail
  obtain ⟨w1, hw1⟩ : ∃ W, W = (w.alloc (.cells cs 26)).alloc (.cells #[.string ⟨#[]⟩, .slice none 0 0, .int .i64 0, .int .i64 0, .int .i64 0, .int .i64 0, .int .i64 0, .int .i64 0, .int .i64 0, .int .i64 0, .int .i64 0, .slice none 0 0, .slice none 0 0] 42) := ⟨_, rfl⟩; rw [← hw1]; have T1 : Hid (Blk w1 w.heap.size 26 cs) := by show Blk _ _ _ _; rw [hw1]; exact (Blk.new _ _ _).alloc _
  have O1 : Hid (Blk w1 (w.heap.size + 1) 42 #[.string ⟨#[]⟩, .slice none 0 0, .int .i64 0, .int .i64 0, .int .i64 0, .int .i64 0, .int .i64 0, .int .i64 0, .int .i64 0, .int .i64 0, .int .i64 0, .slice none 0 0, .slice none 0 0]) := by show Blk _ _ _ _; rw [hw1]; exact Blk.at_size _ _ (by simp)
  have HB1 : Hid (Below w.heap.size w w1) := by show Below _ _ _; rw [hw1]; exact ((Below.refl _ _).alloc (Nat.le_refl _) _).alloc (by simp) _
  obtain ⟨g, hg⟩ : ∃ g, g = w.heap.size := ⟨_, rfl⟩; obtain ⟨g2, hg2⟩ : ∃ g2, g2 = w.heap.size + 1 := ⟨_, rfl⟩; rw [← hg2] at O1 ⊢; rw [← hg] at T1 ⊢; have HG1 : Hid (w.heap.size ≤ g) := by show _ ≤ _; omega
  have HG2 : Hid (w.heap.size ≤ g2) := by show _ ≤ _; omega
  have hg12 : g2 ≠ g := by omega
  clear hw1 hg hg2
  go_wp2_with (refine wpList_load_row rfl 26 _ rfl g rfl 26 cs (0, 0) _ T1.out Tryz.underlying26 rfl IT.out ?_)
  refine (refOwned_gen w1 (HT.out.keep HB1.out) hsn hqn hgn HEN.out).mono ?_; rintro e w2 ⟨base, A1, A2, A3, c1, c2, cS, P, rfl, hbase, hown, hb⟩; have hgl : g < w1.heap.size := lt_of_block T1.out; have hgl2 : g2 < w1.heap.size := lt_of_block O1.out; have hs12 := hb.size; have T2 := Lib.hid (T1.out.below hb); have O2 := Lib.hid (O1.out.below hb); have HB2 := Lib.hid (HB1.out.trans (hb.mono HB1.out.size)); obtain ⟨cs2, hcs⟩ : ∃ c, c = tyW nm (.slice A1 sn c1) T (.slice A2 qn c2) (.slice A3 gn cS) := ⟨_, rfl⟩; rw [← hcs]; have IT2 : Hid ((Tryz.prog.info? 26).map (·.size) = some cs2.size) := by show _ = _; rw [hcs]; kernel_rfl
  have TS2 : Hid (cs.size = cs2.size) := by show _ = _; rw [hcs, HCZ.out]; rfl
  have TO2 : Hid (cs2.all (fun u => u.oneCell') = true) := by show _ = _; rw [hcs]; simp [tyW, Value.oneCell']
  have HCS := Lib.hid hcs; have HOW := Lib.hid hown; clear hown hb T1 O1 HB1 HT IT hcs
  go_upto_region 2 with (refine wpList_store_row rfl 26 _ _ rfl g cs2 rfl rfl 26 _ T2.out IT2.out TS2.out TO2.out ?_)
  obtain ⟨w3, hw3⟩ : ∃ W, W = w2.setRow g cs2 := ⟨_, rfl⟩; rw [← hw3]; have T3 : Hid (Blk w3 g 26 cs2) := by show Blk _ _ _ _; rw [hw3]; exact T2.out.setRow _
  have O3 : Hid (Blk w3 g2 42 #[.string ⟨#[]⟩, .slice none 0 0, .int .i64 0, .int .i64 0, .int .i64 0, .int .i64 0, .int .i64 0, .int .i64 0, .int .i64 0, .int .i64 0, .int .i64 0, .slice none 0 0, .slice none 0 0]) := by show Blk _ _ _ _; rw [hw3]; exact O2.out.setRow_far hg12 _
  have HB3 : Hid (Below w.heap.size w w3) := by show Below _ _ _; rw [hw3]; exact HB2.out.setRow' HG1.out _
  have OW3 : Hid (OwnTG w3 base sh T A1 sn c1 A2 qn c2 A3 gn cS P) := HOW.out.high fun b hb _ => by rw [hw3]; exact setRow_other w2 g b cs2 (by omega)
  have HGB : Hid (g2 < base ∧ g < base) := ⟨by omega, by omega⟩; clear hw3 T2 O2 HB2 IT2 TS2 TO2 HOW; obtain ⟨d0, hd0⟩ : ∃ x, x = T.direct.getD 0 0 := ⟨_, rfl⟩; obtain ⟨d1, hd1⟩ : ∃ x, x = T.direct.getD 1 0 := ⟨_, rfl⟩; obtain ⟨d2, hd2⟩ : ∃ x, x = T.direct.getD 2 0 := ⟨_, rfl⟩; obtain ⟨d3, hd3⟩ : ∃ x, x = T.direct.getD 3 0 := ⟨_, rfl⟩; obtain ⟨d4, hd4⟩ : ∃ x, x = T.direct.getD 4 0 := ⟨_, rfl⟩; obtain ⟨d5, hd5⟩ : ∃ x, x = T.direct.getD 5 0 := ⟨_, rfl⟩; obtain ⟨d6, hd6⟩ : ∃ x, x = T.direct.getD 6 0 := ⟨_, rfl⟩; obtain ⟨d7, hd7⟩ : ∃ x, x = T.direct.getD 7 0 := ⟨_, rfl⟩; have r0 : w3.cell? ⟨g, 0, none⟩ = some (.string nm) := (T3.out.cell 0).trans (by rw [HCS.out]; rfl); have r1 : w3.cell? ⟨g, 1, none⟩ = some (.slice A1 sn c1) := (T3.out.cell 1).trans (by rw [HCS.out]; rfl); have r2 : w3.cell? ⟨g, 2, none⟩ = some (.int .i64 d0) := (T3.out.cell 2).trans (by rw [HCS.out, hd0]; rfl); have r3 : w3.cell? ⟨g, 3, none⟩ = some (.int .i64 d1) := (T3.out.cell 3).trans (by rw [HCS.out, hd1]; rfl)
  have r4 : w3.cell? ⟨g, 4, none⟩ = some (.int .i64 d2) := (T3.out.cell 4).trans (by rw [HCS.out, hd2]; rfl); have r5 : w3.cell? ⟨g, 5, none⟩ = some (.int .i64 d3) := (T3.out.cell 5).trans (by rw [HCS.out, hd3]; rfl); have r6 : w3.cell? ⟨g, 6, none⟩ = some (.int .i64 d4) := (T3.out.cell 6).trans (by rw [HCS.out, hd4]; rfl); have r7 : w3.cell? ⟨g, 7, none⟩ = some (.int .i64 d5) := (T3.out.cell 7).trans (by rw [HCS.out, hd5]; rfl); have r8 : w3.cell? ⟨g, 8, none⟩ = some (.int .i64 d6) := (T3.out.cell 8).trans (by rw [HCS.out, hd6]; rfl); have r9 : w3.cell? ⟨g, 9, none⟩ = some (.int .i64 d7) := (T3.out.cell 9).trans (by rw [HCS.out, hd7]; rfl); have r10 : w3.cell? ⟨g, 10, none⟩ = some (.int .i64 T.side) := (T3.out.cell 10).trans (by rw [HCS.out]; rfl); have r11 : w3.cell? ⟨g, 11, none⟩ = some (.slice A2 qn c2) := (T3.out.cell 11).trans (by rw [HCS.out]; rfl); have r12 : w3.cell? ⟨g, 12, none⟩ = some (.slice A3 gn cS) := (T3.out.cell 12).trans (by rw [HCS.out]; rfl)
  have HD0 := Lib.hid hd0; clear hd0; have HD1 := Lib.hid hd1; clear hd1; have HD2 := Lib.hid hd2; clear hd2; have HD3 := Lib.hid hd3; clear hd3; have HD4 := Lib.hid hd4; clear hd4; have HD5 := Lib.hid hd5; clear hd5; have HD6 := Lib.hid hd6; clear hd6; have HD7 := Lib.hid hd7; clear hd7
  go_upto_region 3 with fail
  obtain ⟨g3, hg3⟩ : ∃ x, x = w3.heap.size := ⟨_, rfl⟩; obtain ⟨w4, hw4⟩ : ∃ W, W = w3.alloc (.cells #[.string nm, .slice A1 sn c1, .int .i64 d0, .int .i64 d1, .int .i64 d2, .int .i64 d3, .int .i64 d4, .int .i64 d5, .int .i64 d6, .int .i64 d7, .int .i64 T.side, .slice A2 qn c2, .slice none 0 0] 42) := ⟨_, rfl⟩; rw [← hw4]; rw [← hg3]; have hb4 : Below w3.heap.size w3 w4 := by rw [hw4]; exact (Below.refl _ _).alloc (Nat.le_refl _) _
  have P4 : Hid (Blk w4 g3 42 (tyW nm (.slice A1 sn c1) T (.slice A2 qn c2) (.slice none 0 0))) := by
    show Blk _ _ _ _
    rw [hw4, hg3]; rw [show tyW nm (.slice A1 sn c1) T (.slice A2 qn c2) (.slice none 0 0) = #[.string nm, .slice A1 sn c1, .int .i64 d0, .int .i64 d1, .int .i64 d2, .int .i64 d3, .int .i64 d4, .int .i64 d5, .int .i64 d6, .int .i64 d7, .int .i64 T.side, .slice A2 qn c2, .slice none 0 0] by unfold tyW; rw [← HD0.out, ← HD1.out, ← HD2.out, ← HD3.out, ← HD4.out, ← HD5.out, ← HD6.out, ← HD7.out]]; exact Blk.new _ _ _
  have HB4 : Hid (Below w3.heap.size w3 w4) := hb4; have t12 := ((T3.out.below hb4).cell 12).trans ((T3.out.cell 12).symm.trans r12); have HG3 : Hid (w3.heap.size ≤ g3) := by show _ ≤ _; omega
  clear hw4 hb4 r0 r1 r2 r3 r4 r5 r6 r7 r8 r9 r10 r11 r12 hg3; go_wp2
  go_loopw [5, 22] (fun _ i wr => ∃ (k : Nat) (vs : Value), k ≤ gn ∧ i = .int .i64 k ∧ Hid (Blk wr g3 42 (tyW nm (.slice A1 sn c1) T (.slice A2 qn c2) vs)) ∧ Hid (wr.ownsRow w3.heap.size 172 2 vs k (stCells (P.take k))) ∧ Hid (Below w3.heap.size w3 wr)) (fun _ i _ => gn - (intOf i).toNat)
  case atStart => exact ⟨0, .slice none 0 0, Nat.zero_le _, rfl, P4.out, World.ownsRow_nil _ _ _ _, HB4.out⟩
  case round =>
    clear P4 HB4 t12; obtain ⟨k, vs, hk, rfl, hP3, hrow, hbw⟩ := hrel; have OWr := Lib.hid (OW3.out.high (fun b _ h2 => hbw.out.block b h2))
    by_cases hlt : k < gn
    · have hlP : k < P.length := by rw [OW3.out.len]; exact hlt
      obtain ⟨e1, e2⟩ := OWr.out.each k hlt; obtain ⟨A, c, hv⟩ := e2.sl; obtain ⟨n, hnn⟩ : ∃ n, n = ((T.sets.getD k (0, [])).2).length := ⟨_, rfl⟩; rw [← hnn] at hv; clear hnn; obtain ⟨gS, rfl⟩ := own_addr OWr.out.row (by omega); have l2 := stCells_len P; have p0 : wr.cell? ⟨gS, k * 2, none⟩ = some (.int .i64 (P.getD k (0, undef)).1) := (World.ownsRow.cellAt OWr.out.row (k * 2) (by omega)).trans (stCells_at P k hlP).1; have p1 : wr.cell? ⟨gS, k * 2 + 1, none⟩ = some (.slice A n c) := ((World.ownsRow.cellAt OWr.out.row (k * 2 + 1) (by omega)).trans (stCells_at P k hlP).2).trans (congrArg some hv); obtain ⟨p, hp⟩ : ∃ p, p = (P.getD k (0, undef)).1 := ⟨_, rfl⟩; rw [← hp] at p0
      have HTK : Hid (P.take (k + 1) = P.take k ++ [(p, .slice A n c)]) := by
        show _ = _
        rw [take_one P hlP, hp, ← hv]
      have hlti : (k : Int) < (gn : Int) := by omega
      clear hp hv e1 e2 l2 hlP OWr
      go_upto_region 6 with fail
      obtain ⟨w5, hw5⟩ : ∃ W, W = (wr.alloc (.cells #[.int .i64 p, .slice A n c] 145)) := ⟨_, rfl⟩; rw [← hw5]; have S5 : Hid (Blk w5 (wr.heap.size) 145 #[.int .i64 p, .slice A n c]) := by show Blk _ _ _ _; rw [hw5]; exact Blk.new _ _ _
      have hb : Below wr.heap.size wr w5 := by rw [hw5]; exact ((Below.refl _ _).alloc (Nat.le_refl _) _)
      obtain ⟨g5, hg5⟩ : ∃ g, g = wr.heap.size := ⟨_, rfl⟩; have HGw5 : Hid (g5 = wr.heap.size) := hg5; rw [← hg5] at S5
      try rw [← hg5]
      clear hw5 hg5; have hP5 := hP3.out.below hb; have row5 := row_ext hrow.out hb; have hbe : Below w3.heap.size w3 w5 := hbw.out.trans (hb.mono hbw.out.size); have c12 : w5.cell? ⟨g3, 12, none⟩ = some vs := hP5.cell 12; have s0 := S5.out.cell 0; have s1 := S5.out.cell 1; simp only [List.getElem?_toArray, List.getElem?_cons_zero, List.getElem?_cons_succ] at s0 s1; obtain ⟨iS, hiS, hzS, hsS, hbS⟩ := info_parts infoSet; have HP5 := Lib.hid hP5; have hsz5 := hbe.size; have HBE := Lib.hid hbe; have ROW5 := Lib.hid row5; clear hb p0 p1 hP5 hbe row5 hP3 hrow hbw
      go_wp2_with (at_builtin; refine wpList_append_own _ rfl _ _ 40 rfl w3.heap.size 172 iS (.agg #[.int .i64 0, .slice none 0 0]) 2 32 Tryz.underlying40 hiS hzS hsS hbS rfl (by decide) vs k (stCells (P.take k)) rfl (World.ownsRow.alloc ROW5.out _) ⟨w5.heap.size, 0, none⟩ 1 1 [.int .i64 p, .slice A n c] rfl rfl (set_cells_at w5 172 _ _) (by simp [Value.oneCell']) (by unfold maxLen; omega) (by omega) (by simp; omega) ?_; intro v' w6 hown' hgrow _; obtain ⟨g6, c6, rfl⟩ := own_shapeG hown'; have P6 := row_blk (World.ownsRow.alloc ROW5.out _) hgrow (HP5.out.alloc _) (by decide); have z12 := P6.cell 12; have f12 := P6.frozen 12; simp only [tyW, List.getElem?_toArray, List.getElem?_cons_zero, List.getElem?_cons_succ] at z12)
      go_roundw
      case rel => exact ⟨k + 1, .slice (some ⟨g6, 0, none⟩) (k + 1) c6, by omega, by go_num, P6.set_ 12 _, by rw [HTK.out, stCells_snoc]; exact row_cell hown' P6 (by decide) 12 _, (Below.grown (HBE.out.alloc hsz5 _) hgrow (by simp; omega) (fun j hj => (ROW5.out.lt j hj).1)).setCell HG3.out _⟩
      case measure => simp [intOf]; omega
    · obtain rfl : k = gn := by omega
      clear hlt hk
      obtain ⟨AN, cN, rfl⟩ : ∃ A c, vs = .slice A k c := by
        rcases hrow.out.2 with ⟨h1, h0⟩ | ⟨g, cap, cur, h1, _⟩
        · exact ⟨none, 0, by rw [h1, h0]⟩
        · exact ⟨_, cap, h1⟩
      have OWz := Lib.hid (O3.out.below hbw.out); obtain ⟨tw, htw⟩ : ∃ tw, tw = tyW nm (.slice A1 sn c1) T (.slice A2 qn c2) (.slice AN k cN) := ⟨_, rfl⟩; rw [← htw] at hP3; have HTW := Lib.hid htw; have HTS : Hid (13 = tw.size) := by show _ = _; rw [htw]; rfl
      have tin : Hid ((Tryz.prog.info? 42).map (·.size) = some tw.size) := by show _ = _; rw [htw]; kernel_rfl
      have tone : Hid (tw.all (fun u => u.oneCell') = true) := by show _ = _; rw [htw]; simp [tyW, Value.oneCell']
      clear htw
      go_wp2_with (first | (refine wpList_load_row rfl 42 _ rfl g3 rfl 42 tw (0, 0) _ hP3.out Tryz.underlying42 rfl tin.out ?_) | (refine wpList_store_row rfl 42 _ _ rfl g2 tw rfl rfl 42 _ OWz.out tin.out HTS.out tone.out ?_))
      obtain ⟨wf, hwf⟩ : ∃ W, W = wr.setRow g2 tw := ⟨_, rfl⟩; rw [← hwf]; have RF : Blk wf g2 42 tw := by rw [hwf]; exact OWz.out.setRow _
      have OF : OwnTG wf base sh T A1 sn c1 A2 qn c2 A3 k cS P := OWr.out.high fun b hb _ => by rw [hwf]; exact setRow_other wr g2 b tw (by have := HGB.out.1; omega)
      have rowF : wf.ownsRow w3.heap.size 172 2 (.slice AN k cN) k (stCells P) := by
        have h := hrow.out; rw [List.take_of_length_le (by rw [OW3.out.len]; omega)] at h; rw [hwf]; exact row_in_row h OWz.out (by decide) _
      have BW : Below w.heap.size w wf := by rw [hwf]; exact (HB3.out.trans (hbw.out.mono HB3.out.size)).setRow' HG2.out _
      have r0 : wf.cell? ⟨g2, 0, none⟩ = some (.string nm) := (RF.cell 0).trans (by rw [HTW.out]; rfl); have r1 : wf.cell? ⟨g2, 1, none⟩ = some (.slice A1 sn c1) := (RF.cell 1).trans (by rw [HTW.out]; rfl); have r2 : wf.cell? ⟨g2, 2, none⟩ = some (.int .i64 (T.direct.getD 0 0)) := (RF.cell 2).trans (by rw [HTW.out]; rfl); have r3 : wf.cell? ⟨g2, 3, none⟩ = some (.int .i64 (T.direct.getD 1 0)) := (RF.cell 3).trans (by rw [HTW.out]; rfl); have r4 : wf.cell? ⟨g2, 4, none⟩ = some (.int .i64 (T.direct.getD 2 0)) := (RF.cell 4).trans (by rw [HTW.out]; rfl); have r5 : wf.cell? ⟨g2, 5, none⟩ = some (.int .i64 (T.direct.getD 3 0)) := (RF.cell 5).trans (by rw [HTW.out]; rfl); have r6 : wf.cell? ⟨g2, 6, none⟩ = some (.int .i64 (T.direct.getD 4 0)) := (RF.cell 6).trans (by rw [HTW.out]; rfl); have r7 : wf.cell? ⟨g2, 7, none⟩ = some (.int .i64 (T.direct.getD 5 0)) := (RF.cell 7).trans (by rw [HTW.out]; rfl)
      have r8 : wf.cell? ⟨g2, 8, none⟩ = some (.int .i64 (T.direct.getD 6 0)) := (RF.cell 8).trans (by rw [HTW.out]; rfl); have r9 : wf.cell? ⟨g2, 9, none⟩ = some (.int .i64 (T.direct.getD 7 0)) := (RF.cell 9).trans (by rw [HTW.out]; rfl); have r10 : wf.cell? ⟨g2, 10, none⟩ = some (.int .i64 T.side) := (RF.cell 10).trans (by rw [HTW.out]; rfl); have r11 : wf.cell? ⟨g2, 11, none⟩ = some (.slice A2 qn c2) := (RF.cell 11).trans (by rw [HTW.out]; rfl); have r12 : wf.cell? ⟨g2, 12, none⟩ = some (.slice AN k cN) := (RF.cell 12).trans (by rw [HTW.out]; rfl); have EQ : Value.agg #[.string nm, .slice A1 sn c1, .int .i64 (T.direct.getD 0 0), .int .i64 (T.direct.getD 1 0), .int .i64 (T.direct.getD 2 0), .int .i64 (T.direct.getD 3 0), .int .i64 (T.direct.getD 4 0), .int .i64 (T.direct.getD 5 0), .int .i64 (T.direct.getD 6 0), .int .i64 (T.direct.getD 7 0), .int .i64 T.side, .slice A2 qn c2, .slice AN k cN] = .agg tw := by rw [HTW.out]; rfl
      (try simp only [Exit.inBlock, Exit.then])
      refine bodyPost_ret (v := .agg #[.string nm, .slice A1 sn c1, .int .i64 (T.direct.getD 0 0), .int .i64 (T.direct.getD 1 0), .int .i64 (T.direct.getD 2 0), .int .i64 (T.direct.getD 3 0), .int .i64 (T.direct.getD 4 0), .int .i64 (T.direct.getD 5 0), .int .i64 (T.direct.getD 6 0), .int .i64 (T.direct.getD 7 0), .int .i64 T.side, .slice A2 qn c2, .slice AN k cN]) (by simp [results, Tryz.results16, go_sem, asAddr, r0, r1, r2, r3, r4, r5, r6, r7, r8, r9, r10, r11, r12]) rfl ?_; rw [EQ]; exact ⟨⟨nm, sh, T, A1, sn, c1, A2, qn, c2, AN, k, cN⟩, by rw [HTW.out]; rfl, ⟨rfl, rfl, rfl, rfl, rfl, rfl⟩, ⟨base, _, P, OF.sh, OF.sq, rowF, OF.len, OF.each, HSL.out⟩, BW⟩
def tyRow (ts : List Tq) : List Value := ts.flatMap fun t => t.cs.toList
theorem tyRow_snoc (ts : List Tq) (t : Tq) : tyRow (ts ++ [t]) = tyRow ts ++ t.cs.toList := by simp [tyRow]
theorem tyRow_at {j : Nat} (hj : j < 13) : ∀ (ts : List Tq) (i : Nat), i < ts.length → (tyRow ts)[i * 13 + j]? = some ((tqAt ts i).cs.getD j undef)
  | [], i, h => absurd h (Nat.not_lt_zero _)
  | t :: l, 0, _ => by
    have h : tyRow (t :: l) = t.cs.toList ++ tyRow l := by simp [tyRow]
    have h2 : t.cs.toList.length = 13 := rfl; rw [h, Nat.zero_mul, Nat.zero_add, List.getElem?_append_left (by omega)]
    show t.cs.toList[j]? = some (t.cs.getD j undef)
    have h3 : j < t.cs.size := hj; rw [Array.getElem?_toList, Array.getElem?_eq_getElem h3, Array.getD_eq_getD_getElem?, Array.getElem?_eq_getElem h3, Option.getD_some]
  | t :: l, i + 1, hi => by
    have h : tyRow (t :: l) = t.cs.toList ++ tyRow l := by simp [tyRow]
    have h2 : t.cs.toList.length = 13 := rfl; rw [h, List.getElem?_append_right (by omega), h2, show (i + 1) * 13 + j - 13 = i * 13 + j by omega]; exact tyRow_at hj l i (by simpa using hi)
theorem cells_list_at (w : World) (t : TypeId) (xs : List Value) : ∀ (j : Nat) (u : Value), xs[j]? = some u → (w.alloc (.cells xs.toArray t)).cell? ((⟨w.heap.size, 0, none⟩ : Addr).add j) = some u := fun j u h => by
  rw [addAddr, Nat.zero_add, (Blk.new w t xs.toArray).cell j]
  simpa using h
theorem infoTyp : (Tryz.prog.info? 42).map (fun i => (i.zero, i.size, i.bytes)) = some (some (.agg #[.string ⟨#[]⟩, .slice none 0 0, .int .i64 0, .int .i64 0, .int .i64 0, .int .i64 0, .int .i64 0, .int .i64 0, .int .i64 0, .int .i64 0, .int .i64 0, .slice none 0 0, .slice none 0 0]), 13, 160) := by kernel_rfl
def SimT (ts ts' : List Tq) (n : Nat) : Prop := ∀ i, i < n → (tqAt ts' i).nm = (tqAt ts i).nm ∧ (tqAt ts' i).sh = (tqAt ts i).sh ∧ (tqAt ts' i).T = (tqAt ts i).T
theorem tqAt_snoc (ts : List Tq) (t : Tq) : tqAt (ts ++ [t]) ts.length = t := by
  unfold tqAt; simp [List.getD_eq_getElem?_getD]
theorem tqAt_before (ts : List Tq) (t : Tq) {i : Nat} (h : i < ts.length) : tqAt (ts ++ [t]) i = tqAt ts i := by
  unfold tqAt; simp [List.getD_eq_getElem?_getD, List.getElem?_append_left h]
set_option maxHeartbeats 2000000 in
set_option maxRecDepth 100000 in
theorem types_any (A : Option Addr) (n c : Nat) (ts : List Tq) (w : World) (hts : RqsAt w A n ts) (hS : ∀ i, i < n → TqS (tqAt ts i)) (hn : n ≤ 100000) :
    Calls Tryz.prog 64 #[.slice A n c] w fun e w' => ∃ A' c' ts', e = .returned (.slice A' n c') ∧ TqsAt w' A' n ts' ∧ SimT ts ts' n ∧ Below w.heap.size w w' := by
  obtain ⟨iT, hiT, hzT, hsT, hbT⟩ := info_parts infoTyp; have HTS := Lib.hid hts; have HS := Lib.hid hS; clear hts hS
  go_enter Tryz.func64, Tryz.ntmps64
  go_wp2
  go_loopw [3, 5, 8] (fun v _ i wr => ∃ (k : Nat) (ts' : List Tq), k ≤ n ∧ i = .int .i64 k ∧ ts'.length = k ∧ Hid (wr.ownsRow w.heap.size 42 13 v k (tyRow ts')) ∧ Hid (∀ i, i < k → OwnTq wr (tqAt ts' i)) ∧ Hid (SimT ts ts' k) ∧ Hid (Below w.heap.size w wr)) (fun _ _ i _ => n - (intOf i).toNat)
  case atStart => exact ⟨0, [], Nat.zero_le _, rfl, rfl, World.ownsRow_nil _ _ _ _, (fun i hi => by omega), (fun i hi => by omega), Below.refl _ _⟩
  case round =>
    obtain ⟨k, ts', hk, rfl, hlen, hown, hall, hsim, hb⟩ := hrel
    by_cases hlt : k < n
    · have pk : (k : Int) < (n : Int) := by omega
      have HB := Lib.hid hb.out; obtain ⟨b, o, rfl, hc⟩ := (HTS.out.keep HB.out).2 (by omega); obtain ⟨hrg, hrt⟩ := hc k hlt; obtain ⟨hd8, hsh⟩ := HS.out k hlt; obtain ⟨T, hT⟩ : ∃ T, T = tqAt ts k := ⟨_, rfl⟩; have HTK := Lib.hid hT; rw [← hT] at hrg hrt hd8 hsh; obtain ⟨d0, h0⟩ : ∃ d, d = T.T.direct.getD 0 0 := ⟨_, rfl⟩; obtain ⟨d1, h1⟩ : ∃ d, d = T.T.direct.getD 1 0 := ⟨_, rfl⟩; obtain ⟨d2, h2⟩ : ∃ d, d = T.T.direct.getD 2 0 := ⟨_, rfl⟩; obtain ⟨d3, h3⟩ : ∃ d, d = T.T.direct.getD 3 0 := ⟨_, rfl⟩; obtain ⟨d4, h4⟩ : ∃ d, d = T.T.direct.getD 4 0 := ⟨_, rfl⟩; obtain ⟨d5, h5⟩ : ∃ d, d = T.T.direct.getD 5 0 := ⟨_, rfl⟩; obtain ⟨d6, h6⟩ : ∃ d, d = T.T.direct.getD 6 0 := ⟨_, rfl⟩; obtain ⟨d7, h7⟩ : ∃ d, d = T.T.direct.getD 7 0 := ⟨_, rfl⟩; have hcsE : T.cs = #[.string T.nm, .slice T.sa T.sn T.sc, .int .i64 d0, .int .i64 d1, .int .i64 d2, .int .i64 d3, .int .i64 d4, .int .i64 d5, .int .i64 d6, .int .i64 d7, .int .i64 T.T.side, .slice T.qa T.qn T.qc, .slice T.ga T.gn T.gc] := by rw [h0, h1, h2, h3, h4, h5, h6, h7]; rfl
      rw [hcsE] at hrg hrt; have c0 := hrg 0 _ rfl; have c1 := hrg 1 _ rfl; have c2 := hrg 2 _ rfl; have c3 := hrg 3 _ rfl; have c4 := hrg 4 _ rfl; have c5 := hrg 5 _ rfl; have c6 := hrg 6 _ rfl; have c7 := hrg 7 _ rfl; have c8 := hrg 8 _ rfl; have c9 := hrg 9 _ rfl; have c10 := hrg 10 _ rfl; have c11 := hrg 11 _ rfl; have c12 := hrg 12 _ rfl; simp only [Nat.add_zero] at c0; have HRT := Lib.hid hrt; have HSH := Lib.hid hsh; clear hc hrg hrt hd8 hsh hT hcsE h0 h1 h2 h3 h4 h5 h6 h7 hb
      go_upto_region 5 with fail
      obtain ⟨wa, hwa⟩ : ∃ W, W = (wr.alloc (.cells #[.string T.nm, .slice T.sa T.sn T.sc, .int .i64 d0, .int .i64 d1, .int .i64 d2, .int .i64 d3, .int .i64 d4, .int .i64 d5, .int .i64 d6, .int .i64 d7, .int .i64 T.T.side, .slice T.qa T.qn T.qc, .slice T.ga T.gn T.gc] 26)) := ⟨_, rfl⟩; rw [← hwa]; have B : Hid (Blk wa (wr.heap.size) 26 #[.string T.nm, .slice T.sa T.sn T.sc, .int .i64 d0, .int .i64 d1, .int .i64 d2, .int .i64 d3, .int .i64 d4, .int .i64 d5, .int .i64 d6, .int .i64 d7, .int .i64 T.T.side, .slice T.qa T.qn T.qc, .slice T.ga T.gn T.gc]) := by show Blk _ _ _ _; rw [hwa]; exact Blk.new _ _ _
      have hba : Below wr.heap.size wr wa := by rw [hwa]; exact ((Below.refl _ _).alloc (Nat.le_refl _) _)
      obtain ⟨g5, hg5⟩ : ∃ g, g = wr.heap.size := ⟨_, rfl⟩; have HGwa : Hid (g5 = wr.heap.size) := hg5; rw [← hg5] at B
      try rw [← hg5]
      clear hwa hg5; have BB := B.out; have zc0 := BB.cell 0; have zf0 := BB.frozen 0; have zc1 := BB.cell 1; have zf1 := BB.frozen 1; have zc2 := BB.cell 2; have zf2 := BB.frozen 2; have zc3 := BB.cell 3; have zf3 := BB.frozen 3; have zc4 := BB.cell 4; have zf4 := BB.frozen 4; have zc5 := BB.cell 5; have zf5 := BB.frozen 5; have zc6 := BB.cell 6; have zf6 := BB.frozen 6; have zc7 := BB.cell 7; have zf7 := BB.frozen 7; have zc8 := BB.cell 8; have zf8 := BB.frozen 8; have zc9 := BB.cell 9; have zf9 := BB.frozen 9; have zc10 := BB.cell 10; have zf10 := BB.frozen 10; have zc11 := BB.cell 11; have zf11 := BB.frozen 11; have zc12 := BB.cell 12; have zf12 := BB.frozen 12; simp only [List.getElem?_toArray, List.getElem?_cons_zero, List.getElem?_cons_succ] at zc0 zc1 zc2 zc3 zc4 zc5 zc6 zc7 zc8 zc9 zc10 zc11 zc12; clear BB; clear c0 c1 c2 c3 c4 c5 c6 c7 c8 c9 c10 c11 c12; have HBA := Lib.hid hba
      replace HB := Lib.hid (HB.out.trans (hba.mono HB.out.size)); clear hba
      go_wp2_with fail
      refine (given_own wa (HRT.out.keep HBA.out) (by have := HSH.out.shares; omega) (by have := HSH.out.squares; omega) (by have := HSH.out.sets; omega) (fun k hk => by have := HSH.out.each k hk; omega)).mono ?_; rintro e wb ⟨t', rfl, hsame, hown', hb⟩; have HBB := Lib.hid hb; have hsz := HB.out.size; have hszb := hb.size; replace HB := Lib.hid (HB.out.trans (hb.mono HB.out.size)); clear hb; have HO := Lib.hid hown'; have HSM := Lib.hid hsame; have row5 := Lib.hid (row_ext (row_ext hown.out HBA.out) HBB.out); have HAL : Hid (∀ i, i < k → OwnTq wb (tqAt ts' i)) := fun i hi => ((hall.out i hi).ext HBA.out).ext HBB.out
      have hw5 : w.heap.size ≤ wb.heap.size := by omega
      have HTR := Lib.hid (tyRow_snoc ts' t'); obtain ⟨q0, h0⟩ : ∃ d, d = t'.T.direct.getD 0 0 := ⟨_, rfl⟩; obtain ⟨q1, h1⟩ : ∃ d, d = t'.T.direct.getD 1 0 := ⟨_, rfl⟩; obtain ⟨q2, h2⟩ : ∃ d, d = t'.T.direct.getD 2 0 := ⟨_, rfl⟩; obtain ⟨q3, h3⟩ : ∃ d, d = t'.T.direct.getD 3 0 := ⟨_, rfl⟩; obtain ⟨q4, h4⟩ : ∃ d, d = t'.T.direct.getD 4 0 := ⟨_, rfl⟩; obtain ⟨q5, h5⟩ : ∃ d, d = t'.T.direct.getD 5 0 := ⟨_, rfl⟩; obtain ⟨q6, h6⟩ : ∃ d, d = t'.T.direct.getD 6 0 := ⟨_, rfl⟩; obtain ⟨q7, h7⟩ : ∃ d, d = t'.T.direct.getD 7 0 := ⟨_, rfl⟩; have hcsE : t'.cs = #[.string t'.nm, .slice t'.sa t'.sn t'.sc, .int .i64 q0, .int .i64 q1, .int .i64 q2, .int .i64 q3, .int .i64 q4, .int .i64 q5, .int .i64 q6, .int .i64 q7, .int .i64 t'.T.side, .slice t'.qa t'.qn t'.qc, .slice t'.ga t'.gn t'.gc] := by rw [h0, h1, h2, h3, h4, h5, h6, h7]; rfl
      rw [hcsE]; have HCE := Lib.hid hcsE; clear hown' hsame hcsE h0 h1 h2 h3 h4 h5 h6 h7 zc0 zc1 zc2 zc3 zc4 zc5 zc6 zc7 zc8 zc9 zc10 zc11 zc12 zf0 zf1 zf2 zf3 zf4 zf5 zf6 zf7 zf8 zf9 zf10 zf11 zf12 HBA HBB HRT HSH B hown hall hsz hszb
      go_wp2_with (at_builtin; refine wpList_append_own _ rfl _ _ 113 rfl w.heap.size 42 iT (.agg #[.string ⟨#[]⟩, .slice none 0 0, .int .i64 0, .int .i64 0, .int .i64 0, .int .i64 0, .int .i64 0, .int .i64 0, .int .i64 0, .int .i64 0, .int .i64 0, .slice none 0 0, .slice none 0 0]) 13 160 Tryz.underlying113 hiT hzT hsT hbT rfl (by decide) _ _ _ rfl (World.ownsRow.alloc row5.out _) ⟨wb.heap.size, 0, none⟩ 1 1 [.string t'.nm, .slice t'.sa t'.sn t'.sc, .int .i64 q0, .int .i64 q1, .int .i64 q2, .int .i64 q3, .int .i64 q4, .int .i64 q5, .int .i64 q6, .int .i64 q7, .int .i64 t'.T.side, .slice t'.qa t'.qn t'.qc, .slice t'.ga t'.gn t'.gc] rfl rfl (cells_list_at _ _ _) (by simp [Value.oneCell']) (by unfold maxLen; omega) (by omega) (by simp; omega) ?_; intro v' w1 hown' hgrow _)
      have R : Hid (w1.ownsRow w.heap.size 42 13 v' (k + 1) (tyRow (ts' ++ [t']))) := by
        show World.ownsRow _ _ _ _ _ _ _
        rw [HTR.out, HCE.out]; exact hown'
      have B1 : Hid (Below w.heap.size w w1) := Below.grown (HB.out.alloc hw5 _) hgrow (by simp; omega) (fun j hj => (row5.out.lt j hj).1)
      have AL : Hid (∀ i, i < k + 1 → OwnTq w1 (tqAt (ts' ++ [t']) i)) := fun i hi => by
        have rowA := World.ownsRow.alloc row5.out (.cells #[.string t'.nm, .slice t'.sa t'.sn t'.sc, .int .i64 q0, .int .i64 q1, .int .i64 q2, .int .i64 q3, .int .i64 q4, .int .i64 q5, .int .i64 q6, .int .i64 q7, .int .i64 t'.T.side, .slice t'.qa t'.qn t'.qc, .slice t'.ga t'.gn t'.gc] 42); have ex : Ext wb (wb.alloc (.cells #[.string t'.nm, .slice t'.sa t'.sn t'.sc, .int .i64 q0, .int .i64 q1, .int .i64 q2, .int .i64 q3, .int .i64 q4, .int .i64 q5, .int .i64 q6, .int .i64 q7, .int .i64 t'.T.side, .slice t'.qa t'.qn t'.qc, .slice t'.ga t'.gn t'.gc] 42)) := (Below.refl _ _).alloc (Nat.le_refl _) _; rcases Nat.lt_or_ge i k with h | h
        · rw [tqAt_before _ _ (by omega)]; exact ((HAL.out i h).ext ex).grow rowA hgrow
        · obtain rfl : i = k := by omega
          rw [show tqAt (ts' ++ [t']) i = t' by have := tqAt_snoc ts' t'; rwa [hlen] at this]; exact (HO.out.ext ex).grow rowA hgrow
      have SM : Hid (SimT ts (ts' ++ [t']) (k + 1)) := fun i hi => by
        rcases Nat.lt_or_ge i k with h | h
        · rw [tqAt_before _ _ (by omega)]; exact hsim.out i h
        · obtain rfl : i = k := by omega
          rw [show tqAt (ts' ++ [t']) i = t' by have := tqAt_snoc ts' t'; rwa [hlen] at this, ← HTK.out]; exact ⟨HSM.out.1, HSM.out.2.1, HSM.out.2.2.1⟩
      clear hown' hgrow; go_wp2; go_roundw
      case rel => exact ⟨k + 1, ts' ++ [t'], by omega, by go_num, by simp [hlen], R, AL, SM, B1⟩
      case measure => simp [intOf]; omega
    · obtain rfl : k = n := by omega
      have HB := Lib.hid hb.out
      have HT : Hid (∃ A' c', u3 = .slice A' k c' ∧ TqsAt wr A' k ts') := by
        show ∃ A' c', _
        have hcell : ∀ (g : Nat), u3.ownBlock = some g → ∀ i, i < k → ∀ j, j < 13 → wr.cell? ⟨g, i * 13 + j, none⟩ = some ((tqAt ts' i).cs.getD j undef) := fun g hg i hi j hj => by
          rcases hown.out.2 with ⟨h1, h0⟩ | ⟨g', cap, cur, h1, _⟩
          · omega
          · rw [h1] at hg; have e : g' = g := by simpa [Value.ownBlock] using hg
            subst e; have h2 := hown.out; rw [h1] at h2; rw [World.ownsRow.cellAt h2 (i * 13 + j) (by omega), tyRow_at hj ts' i (by omega)]
        have ok : ∀ i, i < k → TqOk wr (tqAt ts' i) := fun i hi => by
          obtain ⟨h1, h2⟩ := (hall.out i hi).rty; obtain ⟨e1, e2, e3⟩ := hsim.out i hi; obtain ⟨hd8, hsh⟩ := HS.out i hi; refine ⟨h1, by rw [e3]; exact hd8, ?_, ?_, ?_, h2, ?_⟩
          · have := hsh.name; rw [e1]; omega
          · have := hsh.shares; have h9 := h1.shares.1; obtain ⟨b, o, _, hc⟩ := HTS.out.2 (by omega); have h8 := (hc i hi).2.shares.1; rw [← h9, e2, h8]; omega
          · have := hsh.squares; have h9 := h1.squares.1; obtain ⟨b, o, _, hc⟩ := HTS.out.2 (by omega); have h8 := (hc i hi).2.squares.1; rw [← h9, e3, h8]; omega
          · intro q hq; have h9 := h1.sets.1; obtain ⟨b, o, _, hc⟩ := HTS.out.2 (by omega); have h8 := (hc i hi).2.sets.1; rw [e3] at h9 ⊢; have := hsh.each q (by omega)
            omega
        rcases hown.out.2 with ⟨h1, h0⟩ | ⟨g, cap, cur, h1, _⟩
        · subst h0; exact ⟨none, 0, h1, hlen, fun h => absurd h (by omega)⟩
        · refine ⟨_, cap, h1, hlen, fun _ => ⟨g, 0, rfl, fun i hi => ⟨fun j hj => ?_, ok i hi⟩⟩⟩; rw [Nat.zero_add]; exact hcell g (by rw [h1]; rfl) i hi j hj
      obtain ⟨A', c', hv, ht⟩ := HT.out; have HTT := Lib.hid ht; subst hv; clear ht HT hown hall hb; go_wp2; go_ret; exact ⟨A', c', ts', rfl, HTT.out, hsim.out, HB.out⟩
end Go.Proofs.YtmafmebcgmegeaaGreatDoor
