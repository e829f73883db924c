/- Texts Qd Qe of the proof. -/
import Derived.Test.YtmafmebcgmegeaaGreatDoorW50
import Derived.Test.YtmafmebcgmegeaaGreatDoorW37
namespace Go.Proofs.YtmafmebcgmegeaaGreatDoor
open Go.RowKit Go.Sort
theorem set_cells_at (w : World) (t : TypeId) (a b : Value) : ∀ (j : Nat) (u : Value), [a, b][j]? = some u → (w.alloc (.cells #[a, b] t)).cell? ((⟨w.heap.size, 0, none⟩ : Addr).add j) = some u := fun j u h => by
  rw [addAddr, Nat.zero_add, (Blk.new w t #[a, b]).cell j]
  simpa using h
theorem own_shapeG {w : World} {base size n : Nat} {e : TypeId} {v : Value} {xs : List Value} (h : w.ownsRow base e size v (n + 1) xs) : ∃ g c, v = .slice (some ⟨g, 0, none⟩) (n + 1) c := by
  rcases h.2 with ⟨_, h0⟩ | ⟨g, cap, cur, h1, _⟩
  · omega
  · exact ⟨g, cap, h1⟩
theorem take_one (P : List (Int × Value)) {k : Nat} (hk : k < P.length) : P.take (k + 1) = P.take k ++ [P.getD k (0, undef)] := by
  rw [List.take_succ_eq_append_getElem hk, List.getD_eq_getElem?_getD, List.getElem?_eq_getElem hk]
  rfl
set_option maxHeartbeats 1000000 in
set_option maxRecDepth 100000 in
theorem given_any {nm : ByteArray} {sh : List Int} {T : Bell.Ty} {sa : Option Addr} {sn sc : Nat} {qa : Option Addr} {qn qc : Nat} {ga : Option Addr} {gn gc : Nat} {cs : Array Value} (w : World) (hT : RTy w cs nm sh T sa sn sc qa qn qc ga gn gc) (hg : GoodT sh T) (hnm : nameB nm = true) (hsz : nm.size ≤ 40) :
    Calls Tryz.prog 16 #[.agg cs] w fun e w' => ∃ cs' sa' sc' qb qo qc' gb go gc', e = .returned (.agg cs') ∧ TyOk w' cs' nm sh T sa' sn sc' qb qo qn qc' gb go gn gc' ∧ Below w.heap.size w w' := by
  have hgn : 0 < gn ∧ gn ≤ 6 := by have h1 := hg.cnt.1; rw [hT.sets.1] at h1; exact h1
  have HSL : Hid (T.sets.length = gn) := hT.sets.1
  have HT := Lib.hid hT
  have HG := Lib.hid hg
  have HNM := Lib.hid hnm
  have HSZ := Lib.hid hsz
  have IT : Hid ((Tryz.prog.info? 26).map (·.size) = some cs.size) := by show _ = _; rw [hT.cells]; kernel_rfl
  have HCZ : Hid (cs.size = 13) := by show _ = _; rw [hT.cells]; rfl
  clear hT hg hnm hsz
  go_enter Tryz.func16, Tryz.ntmps16
  go_upto_region 1 with fail
  obtain ⟨w1, hw1⟩ : ∃ W, W = (w.alloc (.cells cs 26)).alloc (.cells #[.string ⟨#[]⟩, .slice none 0 0, .int .i64 0, .int .i64 0, .int .i64 0, .int .i64 0, .int .i64 0, .int .i64 0, .int .i64 0, .int .i64 0, .int .i64 0, .slice none 0 0, .slice none 0 0] 42) := ⟨_, rfl⟩
  rw [← hw1]
  have T1 : Hid (Blk w1 w.heap.size 26 cs) := by show Blk _ _ _ _; rw [hw1]; exact (Blk.new _ _ _).alloc _
  have O1 : Hid (Blk w1 (w.heap.size + 1) 42 #[.string ⟨#[]⟩, .slice none 0 0, .int .i64 0, .int .i64 0, .int .i64 0, .int .i64 0, .int .i64 0, .int .i64 0, .int .i64 0, .int .i64 0, .int .i64 0, .slice none 0 0, .slice none 0 0]) := by show Blk _ _ _ _; rw [hw1]; exact Blk.at_size _ _ (by simp)
  have HB1 : Hid (Below w.heap.size w w1) := by show Below _ _ _; rw [hw1]; exact ((Below.refl _ _).alloc (Nat.le_refl _) _).alloc (by simp) _
  obtain ⟨g, hg⟩ : ∃ g, g = w.heap.size := ⟨_, rfl⟩
  obtain ⟨g2, hg2⟩ : ∃ g2, g2 = w.heap.size + 1 := ⟨_, rfl⟩
  rw [← hg2] at O1 ⊢
  rw [← hg] at T1 ⊢
  have HG1 : Hid (w.heap.size ≤ g) := by show _ ≤ _; omega
  have HG2 : Hid (w.heap.size ≤ g2) := by show _ ≤ _; omega
  have hg12 : g2 ≠ g := by omega
  clear hw1 hg hg2
  go_wp2_with (refine wpList_load_row rfl 26 _ rfl g rfl 26 cs (0, 0) _ T1.out Tryz.underlying26 rfl IT.out ?_)
  refine (refOwned_any w1 (HT.out.keep HB1.out) HG.out).mono ?_
  rintro e w2 ⟨base, A1, c1, gq, c2, gS, cS, P, rfl, hbase, hown, hb⟩
  have hgl : g < w1.heap.size := lt_of_block T1.out
  have hgl2 : g2 < w1.heap.size := lt_of_block O1.out
  have hs12 := hb.size
  have T2 := Lib.hid (T1.out.below hb)
  have O2 := Lib.hid (O1.out.below hb)
  have HB2 := Lib.hid (HB1.out.trans (hb.mono HB1.out.size))
  obtain ⟨cs2, hcs⟩ : ∃ c, c = tyW nm (.slice A1 sn c1) T (.slice (some ⟨gq, 0, none⟩) qn c2) (.slice (some ⟨gS, 0, none⟩) gn cS) := ⟨_, rfl⟩
  rw [← hcs]
  have IT2 : Hid ((Tryz.prog.info? 26).map (·.size) = some cs2.size) := by show _ = _; rw [hcs]; kernel_rfl
  have TS2 : Hid (cs.size = cs2.size) := by show _ = _; rw [hcs, HCZ.out]; rfl
  have TO2 : Hid (cs2.all (fun u => u.oneCell') = true) := by show _ = _; rw [hcs]; simp [tyW, Value.oneCell']
  have HCS := Lib.hid hcs
  have HOW := Lib.hid hown
  clear hown hb T1 O1 HB1 HT IT hcs
  go_upto_region 2 with (refine wpList_store_row rfl 26 _ _ rfl g cs2 rfl rfl 26 _ T2.out IT2.out TS2.out TO2.out ?_)
  obtain ⟨w3, hw3⟩ : ∃ W, W = w2.setRow g cs2 := ⟨_, rfl⟩
  rw [← hw3]
  have T3 : Hid (Blk w3 g 26 cs2) := by show Blk _ _ _ _; rw [hw3]; exact T2.out.setRow _
  have O3 : Hid (Blk w3 g2 42 #[.string ⟨#[]⟩, .slice none 0 0, .int .i64 0, .int .i64 0, .int .i64 0, .int .i64 0, .int .i64 0, .int .i64 0, .int .i64 0, .int .i64 0, .int .i64 0, .slice none 0 0, .slice none 0 0]) := by show Blk _ _ _ _; rw [hw3]; exact O2.out.setRow_far hg12 _
  have HB3 : Hid (Below w.heap.size w w3) := by show Below _ _ _; rw [hw3]; exact HB2.out.setRow' HG1.out _
  have OW3 : Hid (OwnTy w3 base sh T A1 sn c1 gq qn c2 gS gn cS P) := HOW.out.high fun b hb _ => by rw [hw3]; exact setRow_other w2 g b cs2 (by omega)
  have HGB : Hid (g2 < base ∧ g < base) := ⟨by omega, by omega⟩
  clear hw3 T2 O2 HB2 IT2 TS2 TO2 HOW
  obtain ⟨d0, hd0⟩ : ∃ x, x = T.direct.getD 0 0 := ⟨_, rfl⟩
  obtain ⟨d1, hd1⟩ : ∃ x, x = T.direct.getD 1 0 := ⟨_, rfl⟩
  obtain ⟨d2, hd2⟩ : ∃ x, x = T.direct.getD 2 0 := ⟨_, rfl⟩
  obtain ⟨d3, hd3⟩ : ∃ x, x = T.direct.getD 3 0 := ⟨_, rfl⟩
  obtain ⟨d4, hd4⟩ : ∃ x, x = T.direct.getD 4 0 := ⟨_, rfl⟩
  obtain ⟨d5, hd5⟩ : ∃ x, x = T.direct.getD 5 0 := ⟨_, rfl⟩
  obtain ⟨d6, hd6⟩ : ∃ x, x = T.direct.getD 6 0 := ⟨_, rfl⟩
  obtain ⟨d7, hd7⟩ : ∃ x, x = T.direct.getD 7 0 := ⟨_, rfl⟩
  have r0 : w3.cell? ⟨g, 0, none⟩ = some (.string nm) := (T3.out.cell 0).trans (by rw [HCS.out]; rfl)
  have r1 : w3.cell? ⟨g, 1, none⟩ = some (.slice A1 sn c1) := (T3.out.cell 1).trans (by rw [HCS.out]; rfl)
  have r2 : w3.cell? ⟨g, 2, none⟩ = some (.int .i64 d0) := (T3.out.cell 2).trans (by rw [HCS.out, hd0]; rfl)
  have r3 : w3.cell? ⟨g, 3, none⟩ = some (.int .i64 d1) := (T3.out.cell 3).trans (by rw [HCS.out, hd1]; rfl)
  have r4 : w3.cell? ⟨g, 4, none⟩ = some (.int .i64 d2) := (T3.out.cell 4).trans (by rw [HCS.out, hd2]; rfl)
  have r5 : w3.cell? ⟨g, 5, none⟩ = some (.int .i64 d3) := (T3.out.cell 5).trans (by rw [HCS.out, hd3]; rfl)
  have r6 : w3.cell? ⟨g, 6, none⟩ = some (.int .i64 d4) := (T3.out.cell 6).trans (by rw [HCS.out, hd4]; rfl)
  have r7 : w3.cell? ⟨g, 7, none⟩ = some (.int .i64 d5) := (T3.out.cell 7).trans (by rw [HCS.out, hd5]; rfl)
  have r8 : w3.cell? ⟨g, 8, none⟩ = some (.int .i64 d6) := (T3.out.cell 8).trans (by rw [HCS.out, hd6]; rfl)
  have r9 : w3.cell? ⟨g, 9, none⟩ = some (.int .i64 d7) := (T3.out.cell 9).trans (by rw [HCS.out, hd7]; rfl)
  have r10 : w3.cell? ⟨g, 10, none⟩ = some (.int .i64 T.side) := (T3.out.cell 10).trans (by rw [HCS.out]; rfl)
  have r11 : w3.cell? ⟨g, 11, none⟩ = some (.slice (some ⟨gq, 0, none⟩) qn c2) := (T3.out.cell 11).trans (by rw [HCS.out]; rfl)
  have r12 : w3.cell? ⟨g, 12, none⟩ = some (.slice (some ⟨gS, 0, none⟩) gn cS) := (T3.out.cell 12).trans (by rw [HCS.out]; rfl)
  have HD0 := Lib.hid hd0
  clear hd0
  have HD1 := Lib.hid hd1
  clear hd1
  have HD2 := Lib.hid hd2
  clear hd2
  have HD3 := Lib.hid hd3
  clear hd3
  have HD4 := Lib.hid hd4
  clear hd4
  have HD5 := Lib.hid hd5
  clear hd5
  have HD6 := Lib.hid hd6
  clear hd6
  have HD7 := Lib.hid hd7
  clear hd7
  go_upto_region 3 with fail
  obtain ⟨g3, hg3⟩ : ∃ x, x = w3.heap.size := ⟨_, rfl⟩
  obtain ⟨w4, hw4⟩ : ∃ W, W = w3.alloc (.cells #[.string nm, .slice A1 sn c1, .int .i64 d0, .int .i64 d1, .int .i64 d2, .int .i64 d3, .int .i64 d4, .int .i64 d5, .int .i64 d6, .int .i64 d7, .int .i64 T.side, .slice (some ⟨gq, 0, none⟩) qn c2, .slice none 0 0] 42) := ⟨_, rfl⟩
  rw [← hw4]
  rw [← hg3]
  have hb4 : Below w3.heap.size w3 w4 := by rw [hw4]; exact (Below.refl _ _).alloc (Nat.le_refl _) _
  have P4 : Hid (Blk w4 g3 42 (tyW nm (.slice A1 sn c1) T (.slice (some ⟨gq, 0, none⟩) qn c2) (.slice none 0 0))) := by
    show Blk _ _ _ _
    rw [hw4, hg3]
    rw [show tyW nm (.slice A1 sn c1) T (.slice (some ⟨gq, 0, none⟩) qn c2) (.slice none 0 0) = #[.string nm, .slice A1 sn c1, .int .i64 d0, .int .i64 d1, .int .i64 d2, .int .i64 d3, .int .i64 d4, .int .i64 d5, .int .i64 d6, .int .i64 d7, .int .i64 T.side, .slice (some ⟨gq, 0, none⟩) qn c2, .slice none 0 0] by unfold tyW; rw [← HD0.out, ← HD1.out, ← HD2.out, ← HD3.out, ← HD4.out, ← HD5.out, ← HD6.out, ← HD7.out]]
    exact Blk.new _ _ _
  have HB4 : Hid (Below w3.heap.size w3 w4) := hb4
  have t12 := ((T3.out.below hb4).cell 12).trans ((T3.out.cell 12).symm.trans r12)
  have HG3 : Hid (w3.heap.size ≤ g3) := by show _ ≤ _; omega
  clear hw4 hb4 r0 r1 r2 r3 r4 r5 r6 r7 r8 r9 r10 r11 r12 hg3
  go_wp2
  go_loopw [5, 22] (fun _ i wr => ∃ (k : Nat) (vs : Value), k ≤ gn ∧ i = .int .i64 k ∧ Hid (Blk wr g3 42 (tyW nm (.slice A1 sn c1) T (.slice (some ⟨gq, 0, none⟩) qn c2) vs)) ∧ Hid (wr.ownsRow w3.heap.size 172 2 vs k (stCells (P.take k))) ∧ Hid (Below w3.heap.size w3 wr)) (fun _ i _ => gn - (intOf i).toNat)
  case atStart => exact ⟨0, .slice none 0 0, Nat.zero_le _, rfl, P4.out, World.ownsRow_nil _ _ _ _, HB4.out⟩
  case round =>
    clear P4 HB4 t12
    obtain ⟨k, vs, hk, rfl, hP3, hrow, hbw⟩ := hrel
    have OWr := Lib.hid (OW3.out.high (fun b _ h2 => hbw.out.block b h2))
    by_cases hlt : k < gn
    · have hlP : k < P.length := by rw [OW3.out.len]; exact hlt
      obtain ⟨e1, e2⟩ := OWr.out.each k hlt
      obtain ⟨A, n, c, hv, _⟩ := e2.slice
      have l2 := stCells_len P
      have p0 : wr.cell? ⟨gS, k * 2, none⟩ = some (.int .i64 (P.getD k (0, undef)).1) := (World.ownsRow.cellAt OWr.out.row (k * 2) (by omega)).trans (stCells_at P k hlP).1
      have p1 : wr.cell? ⟨gS, k * 2 + 1, none⟩ = some (.slice A n c) := ((World.ownsRow.cellAt OWr.out.row (k * 2 + 1) (by omega)).trans (stCells_at P k hlP).2).trans (congrArg some hv)
      obtain ⟨p, hp⟩ : ∃ p, p = (P.getD k (0, undef)).1 := ⟨_, rfl⟩
      rw [← hp] at p0
      have HTK : Hid (P.take (k + 1) = P.take k ++ [(p, .slice A n c)]) := by
        show _ = _
        rw [take_one P hlP, hp, ← hv]
      have hlti : (k : Int) < (gn : Int) := by omega
      clear hp hv e1 e2 l2 hlP OWr
      go_upto_region 6 with fail
      obtain ⟨w5, hw5⟩ : ∃ W, W = (wr.alloc (.cells #[.int .i64 p, .slice A n c] 145)) := ⟨_, rfl⟩
      rw [← hw5]
      have S5 : Hid (Blk w5 (wr.heap.size) 145 #[.int .i64 p, .slice A n c]) := by show Blk _ _ _ _; rw [hw5]; exact Blk.new _ _ _
      have hb : Below wr.heap.size wr w5 := by rw [hw5]; exact ((Below.refl _ _).alloc (Nat.le_refl _) _)
      obtain ⟨g5, hg5⟩ : ∃ g, g = wr.heap.size := ⟨_, rfl⟩
      have HGw5 : Hid (g5 = wr.heap.size) := hg5
      rw [← hg5] at S5
      try rw [← hg5]
      clear hw5 hg5
      have hP5 := hP3.out.below hb
      have row5 := row_ext hrow.out hb
      have hbe : Below w3.heap.size w3 w5 := hbw.out.trans (hb.mono hbw.out.size)
      have c12 : w5.cell? ⟨g3, 12, none⟩ = some vs := hP5.cell 12
      have s0 := S5.out.cell 0
      have s1 := S5.out.cell 1
      simp only [List.getElem?_toArray, List.getElem?_cons_zero, List.getElem?_cons_succ] at s0 s1
      obtain ⟨iS, hiS, hzS, hsS, hbS⟩ := info_parts infoSet
      have HP5 := Lib.hid hP5
      have hsz5 := hbe.size
      have HBE := Lib.hid hbe
      have ROW5 := Lib.hid row5
      clear hb p0 p1 hP5 hbe row5 hP3 hrow hbw
      go_wp2_with (at_builtin; refine wpList_append_own _ rfl _ _ 40 rfl w3.heap.size 172 iS (.agg #[.int .i64 0, .slice none 0 0]) 2 32 Tryz.underlying40 hiS hzS hsS hbS rfl (by decide) vs k (stCells (P.take k)) rfl (World.ownsRow.alloc ROW5.out _) ⟨w5.heap.size, 0, none⟩ 1 1 [.int .i64 p, .slice A n c] rfl rfl (set_cells_at w5 172 _ _) (by simp [Value.oneCell']) (by unfold maxLen; omega) (by omega) (by simp; omega) ?_; intro v' w6 hown' hgrow _; obtain ⟨g6, c6, rfl⟩ := own_shapeG hown'; have P6 := row_blk (World.ownsRow.alloc ROW5.out _) hgrow (HP5.out.alloc _) (by decide); have z12 := P6.cell 12; have f12 := P6.frozen 12; simp only [tyW, List.getElem?_toArray, List.getElem?_cons_zero, List.getElem?_cons_succ] at z12)
      go_roundw
      case rel => exact ⟨k + 1, .slice (some ⟨g6, 0, none⟩) (k + 1) c6, by omega, by go_num, P6.set_ 12 _, by rw [HTK.out, stCells_snoc]; exact row_cell hown' P6 (by decide) 12 _, (Below.grown (HBE.out.alloc hsz5 _) hgrow (by simp; omega) (fun j hj => (ROW5.out.lt j hj).1)).setCell HG3.out _⟩
      case measure => simp [intOf]; omega
    · obtain rfl : k = gn := by omega
      clear hlt hk
      obtain ⟨gN, cN, rfl⟩ : ∃ g c, vs = .slice (some ⟨g, 0, none⟩) k c := by
        rcases hrow.out.2 with ⟨_, h0⟩ | ⟨g, cap, cur, h1, _⟩
        · omega
        · exact ⟨g, cap, h1⟩
      have OWz := Lib.hid (O3.out.below hbw.out)
      obtain ⟨tw, htw⟩ : ∃ tw, tw = tyW nm (.slice A1 sn c1) T (.slice (some ⟨gq, 0, none⟩) qn c2) (.slice (some ⟨gN, 0, none⟩) k cN) := ⟨_, rfl⟩
      rw [← htw] at hP3
      have HTW := Lib.hid htw
      have HTS : Hid (13 = tw.size) := by show _ = _; rw [htw]; rfl
      have tin : Hid ((Tryz.prog.info? 42).map (·.size) = some tw.size) := by show _ = _; rw [htw]; kernel_rfl
      have tone : Hid (tw.all (fun u => u.oneCell') = true) := by show _ = _; rw [htw]; simp [tyW, Value.oneCell']
      clear htw
      go_wp2_with (first | (refine wpList_load_row rfl 42 _ rfl g3 rfl 42 tw (0, 0) _ hP3.out Tryz.underlying42 rfl tin.out ?_) | (refine wpList_store_row rfl 42 _ _ rfl g2 tw rfl rfl 42 _ OWz.out tin.out HTS.out tone.out ?_))
      obtain ⟨wf, hwf⟩ : ∃ W, W = wr.setRow g2 tw := ⟨_, rfl⟩
      rw [← hwf]
      have RF : Blk wf g2 42 tw := by rw [hwf]; exact OWz.out.setRow _
      have OF : OwnTy wf base sh T A1 sn c1 gq qn c2 gS k cS P := OWr.out.high fun b hb _ => by rw [hwf]; exact setRow_other wr g2 b tw (by have := HGB.out.1; omega)
      have rowF : wf.ownsRow w3.heap.size 172 2 (.slice (some ⟨gN, 0, none⟩) k cN) k (stCells P) := by
        have h := hrow.out
        rw [List.take_of_length_le (by rw [OW3.out.len]; omega)] at h
        rw [hwf]; exact row_in_row h OWz.out (by decide) _
      have BW : Below w.heap.size w wf := by rw [hwf]; exact (HB3.out.trans (hbw.out.mono HB3.out.size)).setRow' HG2.out _
      have r0 : wf.cell? ⟨g2, 0, none⟩ = some (.string nm) := (RF.cell 0).trans (by rw [HTW.out]; rfl)
      have r1 : wf.cell? ⟨g2, 1, none⟩ = some (.slice A1 sn c1) := (RF.cell 1).trans (by rw [HTW.out]; rfl)
      have r2 : wf.cell? ⟨g2, 2, none⟩ = some (.int .i64 (T.direct.getD 0 0)) := (RF.cell 2).trans (by rw [HTW.out]; rfl)
      have r3 : wf.cell? ⟨g2, 3, none⟩ = some (.int .i64 (T.direct.getD 1 0)) := (RF.cell 3).trans (by rw [HTW.out]; rfl)
      have r4 : wf.cell? ⟨g2, 4, none⟩ = some (.int .i64 (T.direct.getD 2 0)) := (RF.cell 4).trans (by rw [HTW.out]; rfl)
      have r5 : wf.cell? ⟨g2, 5, none⟩ = some (.int .i64 (T.direct.getD 3 0)) := (RF.cell 5).trans (by rw [HTW.out]; rfl)
      have r6 : wf.cell? ⟨g2, 6, none⟩ = some (.int .i64 (T.direct.getD 4 0)) := (RF.cell 6).trans (by rw [HTW.out]; rfl)
      have r7 : wf.cell? ⟨g2, 7, none⟩ = some (.int .i64 (T.direct.getD 5 0)) := (RF.cell 7).trans (by rw [HTW.out]; rfl)
      have r8 : wf.cell? ⟨g2, 8, none⟩ = some (.int .i64 (T.direct.getD 6 0)) := (RF.cell 8).trans (by rw [HTW.out]; rfl)
      have r9 : wf.cell? ⟨g2, 9, none⟩ = some (.int .i64 (T.direct.getD 7 0)) := (RF.cell 9).trans (by rw [HTW.out]; rfl)
      have r10 : wf.cell? ⟨g2, 10, none⟩ = some (.int .i64 T.side) := (RF.cell 10).trans (by rw [HTW.out]; rfl)
      have r11 : wf.cell? ⟨g2, 11, none⟩ = some (.slice (some ⟨gq, 0, none⟩) qn c2) := (RF.cell 11).trans (by rw [HTW.out]; rfl)
      have r12 : wf.cell? ⟨g2, 12, none⟩ = some (.slice (some ⟨gN, 0, none⟩) k cN) := (RF.cell 12).trans (by rw [HTW.out]; rfl)
      have EQ : Value.agg #[.string nm, .slice A1 sn c1, .int .i64 (T.direct.getD 0 0), .int .i64 (T.direct.getD 1 0), .int .i64 (T.direct.getD 2 0), .int .i64 (T.direct.getD 3 0), .int .i64 (T.direct.getD 4 0), .int .i64 (T.direct.getD 5 0), .int .i64 (T.direct.getD 6 0), .int .i64 (T.direct.getD 7 0), .int .i64 T.side, .slice (some ⟨gq, 0, none⟩) qn c2, .slice (some ⟨gN, 0, none⟩) k cN] = .agg tw := by rw [HTW.out]; rfl
      (try simp only [Exit.inBlock, Exit.then])
      refine bodyPost_ret (v := .agg #[.string nm, .slice A1 sn c1, .int .i64 (T.direct.getD 0 0), .int .i64 (T.direct.getD 1 0), .int .i64 (T.direct.getD 2 0), .int .i64 (T.direct.getD 3 0), .int .i64 (T.direct.getD 4 0), .int .i64 (T.direct.getD 5 0), .int .i64 (T.direct.getD 6 0), .int .i64 (T.direct.getD 7 0), .int .i64 T.side, .slice (some ⟨gq, 0, none⟩) qn c2, .slice (some ⟨gN, 0, none⟩) k cN]) (by simp [results, Tryz.results16, go_sem, asAddr, r0, r1, r2, r3, r4, r5, r6, r7, r8, r9, r10, r11, r12]) rfl ?_
      rw [EQ]
      exact ⟨tw, A1, c1, gq, 0, c2, gN, 0, cN, rfl, tyOk_own HTW.out OF.sh OF.sq rowF OF.len OF.each HSL.out HG.out HNM.out HSZ.out OF.cap.1 OF.cap.2, BW⟩
end Go.Proofs.YtmafmebcgmegeaaGreatDoor

namespace Go.Proofs.YtmafmebcgmegeaaGreatDoor
open Go.RowKit Go.Sort
def bandTo (sh : List Int) (e : Int) (n : Nat) : Nat → Int
  | 0 => 0
  | k + 1 => bandTo sh e n k + bandAt sh e n k
theorem bandTo_is (sh : List Int) (e : Int) (n : Nat) : ∀ k, bandTo sh e n (k + 1) = partTo sh e (k + 1) + (e - partTo sh e n)
  | 0 => by simp [bandTo, bandAt, partTo]
  | k + 1 => by
    have h := bandTo_is sh e n k
    show bandTo sh e n (k + 1) + bandAt sh e n (k + 1) = partTo sh e (k + 1) + partE e (sh.getD (k + 1) 0) + (e - partTo sh e n)
    rw [h, show bandAt sh e n (k + 1) = partE e (sh.getD (k + 1) 0) from if_neg (by omega)]
    omega
theorem bandTo_all {sh : List Int} {e : Int} {n : Nat} (hn : 0 < n) : bandTo sh e n n = e := by
  obtain ⟨k, rfl⟩ : ∃ k, n = k + 1 := ⟨n - 1, by omega⟩
  rw [bandTo_is]
  omega
theorem part_le {e s : Int} (he : 0 ≤ e) (hs : 0 ≤ s) : partE e s * 1000 ≤ e * s := by
  have h1 : 0 ≤ e * s := Int.mul_nonneg he hs
  unfold partE
  omega
theorem partTo_le {sh : List Int} {e : Int} (he : 0 ≤ e) (hs : ∀ x, x ∈ sh → 0 ≤ x) : ∀ k, k ≤ sh.length → partTo sh e k * 1000 ≤ e * (sh.take k).sum
  | 0, _ => by simp [partTo]
  | k + 1, hk => by
    have h1 := partTo_le he hs k (by omega)
    have hg : sh.getD k 0 = sh[k] := by rw [List.getD_eq_getElem?_getD, List.getElem?_eq_getElem (show k < sh.length by omega)]; rfl
    have h2 := part_le he (hs (sh.getD k 0) (by rw [hg]; exact List.getElem_mem _))
    have h3 : (sh.take (k + 1)).sum = (sh.take k).sum + sh.getD k 0 := by
      rw [hg, ← List.take_append_getElem (show k < sh.length by omega), List.sum_append]
      simp
    rw [h3, Int.mul_add]
    simp only [partTo]
    omega
theorem band_nonneg {sh : List Int} {e : Int} (he : 0 ≤ e ∧ e ≤ 10000000000000) (g : GoodSh sh) {i : Nat} (hi : i < sh.length) : 0 ≤ bandAt sh e sh.length i := by
  have hp : ∀ i, i < sh.length → 0 ≤ partE e (sh.getD i 0) := fun i hi => (partE_in he (g.rng (sh.getD i 0) (by rw [List.getD_eq_getElem?_getD, List.getElem?_eq_getElem hi]; exact List.getElem_mem _))).1
  have h1 := partTo_le he.1 (fun x hx => (g.rng x hx).1) sh.length (Nat.le_refl _)
  rw [List.take_length, ← sumL_sum, g.sum] at h1
  have h2 := hp i hi
  unfold bandAt
  split
  · have := hp 0 (by omega); omega
  · exact h2
theorem bandTo_up {sh : List Int} {e : Int} (he : 0 ≤ e ∧ e ≤ 10000000000000) (g : GoodSh sh) : ∀ d k, k + d = sh.length → 0 ≤ bandTo sh e sh.length k ∧ bandTo sh e sh.length k ≤ e
  | 0, k, h => by
    obtain rfl : k = sh.length := by omega
    rw [bandTo_all g.cnt.1]
    omega
  | d + 1, k, h => by
    have h1 := bandTo_up he g d (k + 1) (by omega)
    have h2 := band_nonneg he g (show k < sh.length by omega)
    have h3 : ∀ j, j ≤ sh.length → 0 ≤ bandTo sh e sh.length j := fun j => by
      induction j with
      | zero => intro _; exact Int.le_refl _
      | succ j ih =>
        intro hj
        have := ih (by omega)
        have := band_nonneg he g (show j < sh.length by omega)
        simp only [bandTo]
        omega
    have h4 := h3 k (by omega)
    simp only [bandTo] at h1
    omega
end Go.Proofs.YtmafmebcgmegeaaGreatDoor
