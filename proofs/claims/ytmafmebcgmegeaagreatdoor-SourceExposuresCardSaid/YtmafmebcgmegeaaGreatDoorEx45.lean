/- Texts Xx Wg Jc of the proof. -/
import Derived.Test.YtmafmebcgmegeaaGreatDoorEx44
import Derived.Test.YtmafmebcgmegeaaGreatDoorEx43
import Derived.Test.YtmafmebcgmegeaaGreatDoorEx3
namespace Go.Proofs.YtmafmebcgmegeaaGreatDoor
open Go.RowKit Go.Sort
theorem own_addr {w : World} {base size n c : Nat} {t : TypeId} {A : Option Addr} {xs : List Value} (h : w.ownsRow base t size (.slice A n c) n xs) (hn : 0 < n) : ∃ g, A = some ⟨g, 0, none⟩ := by
  rcases h.2 with ⟨_, h0⟩ | ⟨g, cap, cur, h1, _⟩
  · omega
  · injection h1 with e
    exact ⟨g, e⟩
theorem rtyG_own {W : World} {base base2 sn c1 c2 qn k c3 : Nat} {A1 A2 A3 : Option Addr} {nm : ByteArray} {sh : List Int} {T : Bell.Ty} {tw : Array Value} {P : List (Int × Value)} {t : TypeId} (hw : tw = tyW nm (.slice A1 sn c1) T (.slice A2 qn c2) (.slice A3 k c3)) (hA : OwnI0 W base (.slice A1 sn c1) sn sh) (hB : OwnI0 W base (.slice A2 qn c2) qn T.squares)
    (hR : W.ownsRow base2 t 2 (.slice A3 k c3) k (stCells P)) (hP : P.length = k) (hE : ∀ j, j < k → (P.getD j (0, undef)).1 = Bell.ePow T.sets j ∧ OwnI0 W base (P.getD j (0, undef)).2 ((T.sets.getD j (0, [])).2).length ((T.sets.getD j (0, [])).2)) (hl : T.sets.length = k) :
    RTy W tw nm sh T A1 sn c1 A2 qn c2 A3 k c3 := by
  refine ⟨hw, hA.at_, hB.at_, hl, fun h0 => ?_⟩
  obtain ⟨gS, rfl⟩ := own_addr hR h0
  refine ⟨gS, 0, rfl, hl, fun j hj => ?_⟩
  obtain ⟨e1, e2⟩ := hE j hj
  obtain ⟨A, c, hv⟩ := e2.sl
  have e2' := e2
  rw [hv] at e2'
  have p0 := (stCells_at P j (by rw [hP]; exact hj)).1
  have p1 := (stCells_at P j (by rw [hP]; exact hj)).2
  refine ⟨A, _, c, ?_, ?_, e2'.at_⟩
  · rw [Nat.zero_add, World.ownsRow.cellAt hR (j * 2) (by omega), p0, e1]
  · rw [Nat.zero_add, World.ownsRow.cellAt hR (j * 2 + 1) (by omega), p1, hv]
set_option maxHeartbeats 1000000 in
set_option maxRecDepth 100000 in
theorem given_gen {nm : ByteArray} {sh : List Int} {T : Bell.Ty} {sa : Option Addr} {sn sc : Nat} {qa : Option Addr} {qn qc : Nat} {ga : Option Addr} {gn gc : Nat} {cs : Array Value} (w : World) (hT : RTy w cs nm sh T sa sn sc qa qn qc ga gn gc) (hsn : sn ≤ 100000) (hqn : qn ≤ 100000) (hgn : gn ≤ 100000) (hen : ∀ k, k < gn → ((T.sets.getD k (0, [])).2).length ≤ 100000) :
    Calls Tryz.prog 16 #[.agg cs] w fun e w' => ∃ cs' A1 c1 A2 c2 A3 c3, e = .returned (.agg cs') ∧ RTy w' cs' nm sh T A1 sn c1 A2 qn c2 A3 gn c3 ∧ (qn ≤ c2 ∧ c2 ≤ 9223372036854775807) ∧ Below w.heap.size w w' := by
  have HSL : Hid (T.sets.length = gn) := hT.sets.1
  have HEN := Lib.hid hen
  have HT := Lib.hid hT
  have IT : Hid ((Tryz.prog.info? 26).map (·.size) = some cs.size) := by show _ = _; rw [hT.cells]; kernel_rfl
  have HCZ : Hid (cs.size = 13) := by show _ = _; rw [hT.cells]; rfl
  clear hT hen
  go_enter Tryz.func16, Tryz.ntmps16
  go_upto_region 1 with fail
  obtain ⟨w1, hw1⟩ : ∃ W, W = (w.alloc (.cells cs 26)).alloc (.cells #[.string ⟨#[]⟩, .slice none 0 0, .int .i64 0, .int .i64 0, .int .i64 0, .int .i64 0, .int .i64 0, .int .i64 0, .int .i64 0, .int .i64 0, .int .i64 0, .slice none 0 0, .slice none 0 0] 42) := ⟨_, rfl⟩
  rw [← hw1]
  have T1 : Hid (Blk w1 w.heap.size 26 cs) := by show Blk _ _ _ _; rw [hw1]; exact (Blk.new _ _ _).alloc _
  have O1 : Hid (Blk w1 (w.heap.size + 1) 42 #[.string ⟨#[]⟩, .slice none 0 0, .int .i64 0, .int .i64 0, .int .i64 0, .int .i64 0, .int .i64 0, .int .i64 0, .int .i64 0, .int .i64 0, .int .i64 0, .slice none 0 0, .slice none 0 0]) := by show Blk _ _ _ _; rw [hw1]; exact Blk.at_size _ _ (by simp)
  have HB1 : Hid (Below w.heap.size w w1) := by show Below _ _ _; rw [hw1]; exact ((Below.refl _ _).alloc (Nat.le_refl _) _).alloc (by simp) _
  obtain ⟨g, hg⟩ : ∃ g, g = w.heap.size := ⟨_, rfl⟩
  obtain ⟨g2, hg2⟩ : ∃ g2, g2 = w.heap.size + 1 := ⟨_, rfl⟩
  rw [← hg2] at O1 ⊢
  rw [← hg] at T1 ⊢
  have HG1 : Hid (w.heap.size ≤ g) := by show _ ≤ _; omega
  have HG2 : Hid (w.heap.size ≤ g2) := by show _ ≤ _; omega
  have hg12 : g2 ≠ g := by omega
  clear hw1 hg hg2
  go_wp2_with (refine wpList_load_row rfl 26 _ rfl g rfl 26 cs (0, 0) _ T1.out Tryz.underlying26 rfl IT.out ?_)
  refine (refOwned_gen w1 (HT.out.keep HB1.out) hsn hqn hgn HEN.out).mono ?_
  rintro e w2 ⟨base, A1, A2, A3, c1, c2, cS, P, rfl, hbase, hown, hb⟩
  have hgl : g < w1.heap.size := lt_of_block T1.out
  have hgl2 : g2 < w1.heap.size := lt_of_block O1.out
  have hs12 := hb.size
  have T2 := Lib.hid (T1.out.below hb)
  have O2 := Lib.hid (O1.out.below hb)
  have HB2 := Lib.hid (HB1.out.trans (hb.mono HB1.out.size))
  obtain ⟨cs2, hcs⟩ : ∃ c, c = tyW nm (.slice A1 sn c1) T (.slice A2 qn c2) (.slice A3 gn cS) := ⟨_, rfl⟩
  rw [← hcs]
  have IT2 : Hid ((Tryz.prog.info? 26).map (·.size) = some cs2.size) := by show _ = _; rw [hcs]; kernel_rfl
  have TS2 : Hid (cs.size = cs2.size) := by show _ = _; rw [hcs, HCZ.out]; rfl
  have TO2 : Hid (cs2.all (fun u => u.oneCell') = true) := by show _ = _; rw [hcs]; simp [tyW, Value.oneCell']
  have HCS := Lib.hid hcs
  have HOW := Lib.hid hown
  clear hown hb T1 O1 HB1 HT IT hcs
  go_upto_region 2 with (refine wpList_store_row rfl 26 _ _ rfl g cs2 rfl rfl 26 _ T2.out IT2.out TS2.out TO2.out ?_)
  obtain ⟨w3, hw3⟩ : ∃ W, W = w2.setRow g cs2 := ⟨_, rfl⟩
  rw [← hw3]
  have T3 : Hid (Blk w3 g 26 cs2) := by show Blk _ _ _ _; rw [hw3]; exact T2.out.setRow _
  have O3 : Hid (Blk w3 g2 42 #[.string ⟨#[]⟩, .slice none 0 0, .int .i64 0, .int .i64 0, .int .i64 0, .int .i64 0, .int .i64 0, .int .i64 0, .int .i64 0, .int .i64 0, .int .i64 0, .slice none 0 0, .slice none 0 0]) := by show Blk _ _ _ _; rw [hw3]; exact O2.out.setRow_far hg12 _
  have HB3 : Hid (Below w.heap.size w w3) := by show Below _ _ _; rw [hw3]; exact HB2.out.setRow' HG1.out _
  have OW3 : Hid (OwnTG w3 base sh T A1 sn c1 A2 qn c2 A3 gn cS P) := HOW.out.high fun b hb _ => by rw [hw3]; exact setRow_other w2 g b cs2 (by omega)
  have HGB : Hid (g2 < base ∧ g < base) := ⟨by omega, by omega⟩
  clear hw3 T2 O2 HB2 IT2 TS2 TO2 HOW
  obtain ⟨d0, hd0⟩ : ∃ x, x = T.direct.getD 0 0 := ⟨_, rfl⟩
  obtain ⟨d1, hd1⟩ : ∃ x, x = T.direct.getD 1 0 := ⟨_, rfl⟩
  obtain ⟨d2, hd2⟩ : ∃ x, x = T.direct.getD 2 0 := ⟨_, rfl⟩
  obtain ⟨d3, hd3⟩ : ∃ x, x = T.direct.getD 3 0 := ⟨_, rfl⟩
  obtain ⟨d4, hd4⟩ : ∃ x, x = T.direct.getD 4 0 := ⟨_, rfl⟩
  obtain ⟨d5, hd5⟩ : ∃ x, x = T.direct.getD 5 0 := ⟨_, rfl⟩
  obtain ⟨d6, hd6⟩ : ∃ x, x = T.direct.getD 6 0 := ⟨_, rfl⟩
  obtain ⟨d7, hd7⟩ : ∃ x, x = T.direct.getD 7 0 := ⟨_, rfl⟩
  have r0 : w3.cell? ⟨g, 0, none⟩ = some (.string nm) := (T3.out.cell 0).trans (by rw [HCS.out]; rfl)
  have r1 : w3.cell? ⟨g, 1, none⟩ = some (.slice A1 sn c1) := (T3.out.cell 1).trans (by rw [HCS.out]; rfl)
  have r2 : w3.cell? ⟨g, 2, none⟩ = some (.int .i64 d0) := (T3.out.cell 2).trans (by rw [HCS.out, hd0]; rfl)
  have r3 : w3.cell? ⟨g, 3, none⟩ = some (.int .i64 d1) := (T3.out.cell 3).trans (by rw [HCS.out, hd1]; rfl)
  have r4 : w3.cell? ⟨g, 4, none⟩ = some (.int .i64 d2) := (T3.out.cell 4).trans (by rw [HCS.out, hd2]; rfl)
  have r5 : w3.cell? ⟨g, 5, none⟩ = some (.int .i64 d3) := (T3.out.cell 5).trans (by rw [HCS.out, hd3]; rfl)
  have r6 : w3.cell? ⟨g, 6, none⟩ = some (.int .i64 d4) := (T3.out.cell 6).trans (by rw [HCS.out, hd4]; rfl)
  have r7 : w3.cell? ⟨g, 7, none⟩ = some (.int .i64 d5) := (T3.out.cell 7).trans (by rw [HCS.out, hd5]; rfl)
  have r8 : w3.cell? ⟨g, 8, none⟩ = some (.int .i64 d6) := (T3.out.cell 8).trans (by rw [HCS.out, hd6]; rfl)
  have r9 : w3.cell? ⟨g, 9, none⟩ = some (.int .i64 d7) := (T3.out.cell 9).trans (by rw [HCS.out, hd7]; rfl)
  have r10 : w3.cell? ⟨g, 10, none⟩ = some (.int .i64 T.side) := (T3.out.cell 10).trans (by rw [HCS.out]; rfl)
  have r11 : w3.cell? ⟨g, 11, none⟩ = some (.slice A2 qn c2) := (T3.out.cell 11).trans (by rw [HCS.out]; rfl)
  have r12 : w3.cell? ⟨g, 12, none⟩ = some (.slice A3 gn cS) := (T3.out.cell 12).trans (by rw [HCS.out]; rfl)
  have HD0 := Lib.hid hd0
  clear hd0
  have HD1 := Lib.hid hd1
  clear hd1
  have HD2 := Lib.hid hd2
  clear hd2
  have HD3 := Lib.hid hd3
  clear hd3
  have HD4 := Lib.hid hd4
  clear hd4
  have HD5 := Lib.hid hd5
  clear hd5
  have HD6 := Lib.hid hd6
  clear hd6
  have HD7 := Lib.hid hd7
  clear hd7
  go_upto_region 3 with fail
  obtain ⟨g3, hg3⟩ : ∃ x, x = w3.heap.size := ⟨_, rfl⟩
  obtain ⟨w4, hw4⟩ : ∃ W, W = w3.alloc (.cells #[.string nm, .slice A1 sn c1, .int .i64 d0, .int .i64 d1, .int .i64 d2, .int .i64 d3, .int .i64 d4, .int .i64 d5, .int .i64 d6, .int .i64 d7, .int .i64 T.side, .slice A2 qn c2, .slice none 0 0] 42) := ⟨_, rfl⟩
  rw [← hw4]
  rw [← hg3]
  have hb4 : Below w3.heap.size w3 w4 := by rw [hw4]; exact (Below.refl _ _).alloc (Nat.le_refl _) _
  have P4 : Hid (Blk w4 g3 42 (tyW nm (.slice A1 sn c1) T (.slice A2 qn c2) (.slice none 0 0))) := by
    show Blk _ _ _ _
    rw [hw4, hg3]
    rw [show tyW nm (.slice A1 sn c1) T (.slice A2 qn c2) (.slice none 0 0) = #[.string nm, .slice A1 sn c1, .int .i64 d0, .int .i64 d1, .int .i64 d2, .int .i64 d3, .int .i64 d4, .int .i64 d5, .int .i64 d6, .int .i64 d7, .int .i64 T.side, .slice A2 qn c2, .slice none 0 0] by unfold tyW; rw [← HD0.out, ← HD1.out, ← HD2.out, ← HD3.out, ← HD4.out, ← HD5.out, ← HD6.out, ← HD7.out]]
    exact Blk.new _ _ _
  have HB4 : Hid (Below w3.heap.size w3 w4) := hb4
  have t12 := ((T3.out.below hb4).cell 12).trans ((T3.out.cell 12).symm.trans r12)
  have HG3 : Hid (w3.heap.size ≤ g3) := by show _ ≤ _; omega
  clear hw4 hb4 r0 r1 r2 r3 r4 r5 r6 r7 r8 r9 r10 r11 r12 hg3
  go_wp2
  go_loopw [5, 22] (fun _ i wr => ∃ (k : Nat) (vs : Value), k ≤ gn ∧ i = .int .i64 k ∧ Hid (Blk wr g3 42 (tyW nm (.slice A1 sn c1) T (.slice A2 qn c2) vs)) ∧ Hid (wr.ownsRow w3.heap.size 172 2 vs k (stCells (P.take k))) ∧ Hid (Below w3.heap.size w3 wr)) (fun _ i _ => gn - (intOf i).toNat)
  case atStart => exact ⟨0, .slice none 0 0, Nat.zero_le _, rfl, P4.out, World.ownsRow_nil _ _ _ _, HB4.out⟩
  case round =>
    clear P4 HB4 t12
    obtain ⟨k, vs, hk, rfl, hP3, hrow, hbw⟩ := hrel
    have OWr := Lib.hid (OW3.out.high (fun b _ h2 => hbw.out.block b h2))
    by_cases hlt : k < gn
    · have hlP : k < P.length := by rw [OW3.out.len]; exact hlt
      obtain ⟨e1, e2⟩ := OWr.out.each k hlt
      obtain ⟨A, c, hv⟩ := e2.sl
      obtain ⟨n, hnn⟩ : ∃ n, n = ((T.sets.getD k (0, [])).2).length := ⟨_, rfl⟩
      rw [← hnn] at hv
      clear hnn
      obtain ⟨gS, rfl⟩ := own_addr OWr.out.row (by omega)
      have l2 := stCells_len P
      have p0 : wr.cell? ⟨gS, k * 2, none⟩ = some (.int .i64 (P.getD k (0, undef)).1) := (World.ownsRow.cellAt OWr.out.row (k * 2) (by omega)).trans (stCells_at P k hlP).1
      have p1 : wr.cell? ⟨gS, k * 2 + 1, none⟩ = some (.slice A n c) := ((World.ownsRow.cellAt OWr.out.row (k * 2 + 1) (by omega)).trans (stCells_at P k hlP).2).trans (congrArg some hv)
      obtain ⟨p, hp⟩ : ∃ p, p = (P.getD k (0, undef)).1 := ⟨_, rfl⟩
      rw [← hp] at p0
      have HTK : Hid (P.take (k + 1) = P.take k ++ [(p, .slice A n c)]) := by
        show _ = _
        rw [take_one P hlP, hp, ← hv]
      have hlti : (k : Int) < (gn : Int) := by omega
      clear hp hv e1 e2 l2 hlP OWr
      go_upto_region 6 with fail
      obtain ⟨w5, hw5⟩ : ∃ W, W = (wr.alloc (.cells #[.int .i64 p, .slice A n c] 145)) := ⟨_, rfl⟩
      rw [← hw5]
      have S5 : Hid (Blk w5 (wr.heap.size) 145 #[.int .i64 p, .slice A n c]) := by show Blk _ _ _ _; rw [hw5]; exact Blk.new _ _ _
      have hb : Below wr.heap.size wr w5 := by rw [hw5]; exact ((Below.refl _ _).alloc (Nat.le_refl _) _)
      obtain ⟨g5, hg5⟩ : ∃ g, g = wr.heap.size := ⟨_, rfl⟩
      have HGw5 : Hid (g5 = wr.heap.size) := hg5
      rw [← hg5] at S5
      try rw [← hg5]
      clear hw5 hg5
      have hP5 := hP3.out.below hb
      have row5 := row_ext hrow.out hb
      have hbe : Below w3.heap.size w3 w5 := hbw.out.trans (hb.mono hbw.out.size)
      have c12 : w5.cell? ⟨g3, 12, none⟩ = some vs := hP5.cell 12
      have s0 := S5.out.cell 0
      have s1 := S5.out.cell 1
      simp only [List.getElem?_toArray, List.getElem?_cons_zero, List.getElem?_cons_succ] at s0 s1
      obtain ⟨iS, hiS, hzS, hsS, hbS⟩ := info_parts infoSet
      have HP5 := Lib.hid hP5
      have hsz5 := hbe.size
      have HBE := Lib.hid hbe
      have ROW5 := Lib.hid row5
      clear hb p0 p1 hP5 hbe row5 hP3 hrow hbw
      go_wp2_with (at_builtin; refine wpList_append_own _ rfl _ _ 40 rfl w3.heap.size 172 iS (.agg #[.int .i64 0, .slice none 0 0]) 2 32 Tryz.underlying40 hiS hzS hsS hbS rfl (by decide) vs k (stCells (P.take k)) rfl (World.ownsRow.alloc ROW5.out _) ⟨w5.heap.size, 0, none⟩ 1 1 [.int .i64 p, .slice A n c] rfl rfl (set_cells_at w5 172 _ _) (by simp [Value.oneCell']) (by unfold maxLen; omega) (by omega) (by simp; omega) ?_; intro v' w6 hown' hgrow _; obtain ⟨g6, c6, rfl⟩ := own_shapeG hown'; have P6 := row_blk (World.ownsRow.alloc ROW5.out _) hgrow (HP5.out.alloc _) (by decide); have z12 := P6.cell 12; have f12 := P6.frozen 12; simp only [tyW, List.getElem?_toArray, List.getElem?_cons_zero, List.getElem?_cons_succ] at z12)
      go_roundw
      case rel => exact ⟨k + 1, .slice (some ⟨g6, 0, none⟩) (k + 1) c6, by omega, by go_num, P6.set_ 12 _, by rw [HTK.out, stCells_snoc]; exact row_cell hown' P6 (by decide) 12 _, (Below.grown (HBE.out.alloc hsz5 _) hgrow (by simp; omega) (fun j hj => (ROW5.out.lt j hj).1)).setCell HG3.out _⟩
      case measure => simp [intOf]; omega
    · obtain rfl : k = gn := by omega
      clear hlt hk
      obtain ⟨AN, cN, rfl⟩ : ∃ A c, vs = .slice A k c := by
        rcases hrow.out.2 with ⟨h1, h0⟩ | ⟨g, cap, cur, h1, _⟩
        · exact ⟨none, 0, by rw [h1, h0]⟩
        · exact ⟨_, cap, h1⟩
      have OWz := Lib.hid (O3.out.below hbw.out)
      obtain ⟨tw, htw⟩ : ∃ tw, tw = tyW nm (.slice A1 sn c1) T (.slice A2 qn c2) (.slice AN k cN) := ⟨_, rfl⟩
      rw [← htw] at hP3
      have HTW := Lib.hid htw
      have HTS : Hid (13 = tw.size) := by show _ = _; rw [htw]; rfl
      have tin : Hid ((Tryz.prog.info? 42).map (·.size) = some tw.size) := by show _ = _; rw [htw]; kernel_rfl
      have tone : Hid (tw.all (fun u => u.oneCell') = true) := by show _ = _; rw [htw]; simp [tyW, Value.oneCell']
      clear htw
      go_wp2_with (first | (refine wpList_load_row rfl 42 _ rfl g3 rfl 42 tw (0, 0) _ hP3.out Tryz.underlying42 rfl tin.out ?_) | (refine wpList_store_row rfl 42 _ _ rfl g2 tw rfl rfl 42 _ OWz.out tin.out HTS.out tone.out ?_))
      obtain ⟨wf, hwf⟩ : ∃ W, W = wr.setRow g2 tw := ⟨_, rfl⟩
      rw [← hwf]
      have RF : Blk wf g2 42 tw := by rw [hwf]; exact OWz.out.setRow _
      have OF : OwnTG wf base sh T A1 sn c1 A2 qn c2 A3 k cS P := OWr.out.high fun b hb _ => by rw [hwf]; exact setRow_other wr g2 b tw (by have := HGB.out.1; omega)
      have rowF : wf.ownsRow w3.heap.size 172 2 (.slice AN k cN) k (stCells P) := by
        have h := hrow.out
        rw [List.take_of_length_le (by rw [OW3.out.len]; omega)] at h
        rw [hwf]; exact row_in_row h OWz.out (by decide) _
      have BW : Below w.heap.size w wf := by rw [hwf]; exact (HB3.out.trans (hbw.out.mono HB3.out.size)).setRow' HG2.out _
      have r0 : wf.cell? ⟨g2, 0, none⟩ = some (.string nm) := (RF.cell 0).trans (by rw [HTW.out]; rfl)
      have r1 : wf.cell? ⟨g2, 1, none⟩ = some (.slice A1 sn c1) := (RF.cell 1).trans (by rw [HTW.out]; rfl)
      have r2 : wf.cell? ⟨g2, 2, none⟩ = some (.int .i64 (T.direct.getD 0 0)) := (RF.cell 2).trans (by rw [HTW.out]; rfl)
      have r3 : wf.cell? ⟨g2, 3, none⟩ = some (.int .i64 (T.direct.getD 1 0)) := (RF.cell 3).trans (by rw [HTW.out]; rfl)
      have r4 : wf.cell? ⟨g2, 4, none⟩ = some (.int .i64 (T.direct.getD 2 0)) := (RF.cell 4).trans (by rw [HTW.out]; rfl)
      have r5 : wf.cell? ⟨g2, 5, none⟩ = some (.int .i64 (T.direct.getD 3 0)) := (RF.cell 5).trans (by rw [HTW.out]; rfl)
      have r6 : wf.cell? ⟨g2, 6, none⟩ = some (.int .i64 (T.direct.getD 4 0)) := (RF.cell 6).trans (by rw [HTW.out]; rfl)
      have r7 : wf.cell? ⟨g2, 7, none⟩ = some (.int .i64 (T.direct.getD 5 0)) := (RF.cell 7).trans (by rw [HTW.out]; rfl)
      have r8 : wf.cell? ⟨g2, 8, none⟩ = some (.int .i64 (T.direct.getD 6 0)) := (RF.cell 8).trans (by rw [HTW.out]; rfl)
      have r9 : wf.cell? ⟨g2, 9, none⟩ = some (.int .i64 (T.direct.getD 7 0)) := (RF.cell 9).trans (by rw [HTW.out]; rfl)
      have r10 : wf.cell? ⟨g2, 10, none⟩ = some (.int .i64 T.side) := (RF.cell 10).trans (by rw [HTW.out]; rfl)
      have r11 : wf.cell? ⟨g2, 11, none⟩ = some (.slice A2 qn c2) := (RF.cell 11).trans (by rw [HTW.out]; rfl)
      have r12 : wf.cell? ⟨g2, 12, none⟩ = some (.slice AN k cN) := (RF.cell 12).trans (by rw [HTW.out]; rfl)
      have EQ : Value.agg #[.string nm, .slice A1 sn c1, .int .i64 (T.direct.getD 0 0), .int .i64 (T.direct.getD 1 0), .int .i64 (T.direct.getD 2 0), .int .i64 (T.direct.getD 3 0), .int .i64 (T.direct.getD 4 0), .int .i64 (T.direct.getD 5 0), .int .i64 (T.direct.getD 6 0), .int .i64 (T.direct.getD 7 0), .int .i64 T.side, .slice A2 qn c2, .slice AN k cN] = .agg tw := by rw [HTW.out]; rfl
      (try simp only [Exit.inBlock, Exit.then])
      refine bodyPost_ret (v := .agg #[.string nm, .slice A1 sn c1, .int .i64 (T.direct.getD 0 0), .int .i64 (T.direct.getD 1 0), .int .i64 (T.direct.getD 2 0), .int .i64 (T.direct.getD 3 0), .int .i64 (T.direct.getD 4 0), .int .i64 (T.direct.getD 5 0), .int .i64 (T.direct.getD 6 0), .int .i64 (T.direct.getD 7 0), .int .i64 T.side, .slice A2 qn c2, .slice AN k cN]) (by simp [results, Tryz.results16, go_sem, asAddr, r0, r1, r2, r3, r4, r5, r6, r7, r8, r9, r10, r11, r12]) rfl ?_
      rw [EQ]
      exact ⟨tw, A1, c1, A2, c2, AN, cN, rfl, rtyG_own HTW.out OF.sh OF.sq rowF OF.len OF.each HSL.out, OF.sq.cap, BW⟩
end Go.Proofs.YtmafmebcgmegeaaGreatDoor

namespace Go.Proofs.YtmafmebcgmegeaaGreatDoor
open Go.RowKit Go.Sort
theorem lawF2 (g c : Nat) (x y : Int) (w : World) (h0 : w.cell? ⟨g, 0, none⟩ = some (.int .i64 x)) (h1 : w.cell? ⟨g, 1, none⟩ = some (.int .i64 y)) :
    Calls Tryz.prog 21 #[.slice (some ⟨g, 0, none⟩) 2 c] w fun e w' => e = .returned (.int .i64 (firstE [x, y])) ∧ w = w' := by
  have H := Lib.hid (refFirst2 g c x y w h0 h1)
  clear h0 h1
  go_enter Tryz.func21, Tryz.ntmps21
  go_wp2_with fail
  refine H.out.mono ?_
  rintro e w' ⟨rfl, rfl⟩
  go_wp2
  go_ret
  exact ⟨rfl, rfl⟩
theorem lawF3 (g c : Nat) (x y z : Int) (w : World) (h0 : w.cell? ⟨g, 0, none⟩ = some (.int .i64 x)) (h1 : w.cell? ⟨g, 1, none⟩ = some (.int .i64 y)) (h2 : w.cell? ⟨g, 2, none⟩ = some (.int .i64 z)) :
    Calls Tryz.prog 21 #[.slice (some ⟨g, 0, none⟩) 3 c] w fun e w' => e = .returned (.int .i64 (firstE [x, y, z])) ∧ w = w' := by
  have H := Lib.hid (refFirst3 g c x y z w h0 h1 h2)
  clear h0 h1 h2
  go_enter Tryz.func21, Tryz.ntmps21
  go_wp2_with fail
  refine H.out.mono ?_
  rintro e w' ⟨rfl, rfl⟩
  go_wp2
  go_ret
  exact ⟨rfl, rfl⟩
theorem rty_ok {w : World} {cs : Array Value} {nm : ByteArray} {sh : List Int} {T : Bell.Ty} {sa : Option Addr} {sn sc : Nat} {qa : Option Addr} {qn qc : Nat} {ga : Option Addr} {gn gc : Nat} (h : RTy w cs nm sh T sa sn sc qa qn qc ga gn gc) (hd : T.direct.length = 8) (h0 : Bell.tyE (nameE nm) sh T = 0) : ∃ qb qo gb go, qa = some ⟨qb, qo, none⟩ ∧ ga = some ⟨gb, go, none⟩ ∧ TyAt w cs nm sh T sa sn sc qb qo qn qc gb go gn gc ∧ GoodT sh T := by
  obtain ⟨e1, e2⟩ := tyE_split h0
  have hG : GoodT sh T := ⟨hd, e2⟩
  obtain ⟨⟨c1, c2⟩, c3, c4⟩ := hG.cnt
  obtain ⟨qb, qo, rfl, hq⟩ := h.squares.2 (by rw [← h.squares.1]; exact c3)
  obtain ⟨gb, go, rfl, hs⟩ := h.sets.2 (by rw [← h.sets.1]; exact c1)
  exact ⟨qb, qo, gb, go, rfl, rfl, ⟨h.cells, h.shares, h.squares, hs⟩, hG⟩
theorem given_ok {nm : ByteArray} {sh : List Int} {T : Bell.Ty} {sa : Option Addr} {sn sc : Nat} {qa : Option Addr} {qn qc : Nat} {ga : Option Addr} {gn gc : Nat} {cs : Array Value} (w : World) (hT : RTy w cs nm sh T sa sn sc qa qn qc ga gn gc) (hd : T.direct.length = 8) (hS : ShortT nm sn qn gn T.sets) :
    Calls Tryz.prog 16 #[.agg cs] w fun e w' => ∃ cs' A1 c1 A2 c2 A3 c3, e = .returned (.agg cs') ∧ TyAny w' cs' nm sh T A1 sn c1 A2 qn c2 A3 gn c3 ∧ Below w.heap.size w w' := by
  have h1 := hS.name; have h2 := hS.shares; have h3 := hS.squares; have h4 := hS.sets
  refine (given_gen w hT (by omega) (by omega) (by omega) (fun k hk => by have := hS.each k hk; omega)).mono ?_
  rintro e w' ⟨cs', A1, c1, A2, c2, A3, c3, rfl, k1, k2, k3⟩
  exact ⟨cs', A1, c1, A2, c2, A3, c3, rfl, ⟨k1, hd, by omega, by omega, by omega, k2, fun k hk => by have := hS.each k hk; omega⟩, k3⟩
def GR.cp (nm : ByteArray) (sh : List Int) (T : Bell.Ty) (sn qn gn : Nat) : GR :=
  ⟨fun v W => ∃ cs A1 c1 A2 c2 A3 c3, v = .agg cs ∧ TyAny W cs nm sh T A1 sn c1 A2 qn c2 A3 gn c3, fun ⟨cs, A1, c1, A2, c2, A3, c3, e, h⟩ hE => ⟨cs, A1, c1, A2, c2, A3, c3, e, h.keep hE⟩⟩
end Go.Proofs.YtmafmebcgmegeaaGreatDoor

namespace Go.Proofs.YtmafmebcgmegeaaGreatDoor
open Go.RowKit Go.Sort
/-- Each operation behind the head waits for one that is behind the head, too. -/
def chainC (ops : Array Oper) (n : Nat) : Bool := (List.range ops.size).all fun t => decide (t ≤ n) || (List.range t).any fun u => decide (n ≤ u) && Region.waitsFor .any ops t u
/-- The first `n` are done. -/
def firstN (size n : Nat) : Array Bool := (Array.replicate n true) ++ (Array.replicate (size - n) false)
section
variable {P : Program} {ops : Array Oper} {Q : Exit → Act → World → Prop} {a : Act} {w : World}
/-- The one operation that may come up. -/
theorem any_next {fuel : Nat} {listed : Array Bool} {k : Nat} {o : Oper} (hr : Region.ready .any ops listed = [k]) (ho : ops[k]? = some o) (hg : o.guard = none) (h : Oper.wp P o a w (fun a' w' => wpAny P .any ops Q fuel (listed.setIfInBounds k true) a' w') Q) : wpAny P .any ops Q (fuel + 1) listed a w := by
  refine ⟨fun h0 => (by rw [h0] at hr; cases hr), fun i hi => ?_⟩
  rw [hr] at hi
  have hik : i = k := by simpa using hi
  subst hik
  unfold wpOp
  simp only [ho]
  rw [if_pos (by simp [Region.wanted, hg])]
  exact Or.inl h
/-- One that only reckons, taken first. -/
theorem any_take {fuel : Nat} {listed : Array Bool} {k : Nat} {o : Oper} {v : Value} (ho : ops[k]? = some o) (hs : Region.noSelect ops = true) (hf : Region.free .any ops listed k = true) (hr : (Region.ready .any ops listed).contains k = true)
    (hQ : ∀ c a w, Q (.panic c) (a.put o.dst v) w → Q (.panic c) a w) (hg : o.guard = none) (hy : ∀ w, (execOp a.eval o).run P w = .ok (.value v) w) (h : wpAny P .any ops Q fuel (listed.setIfInBounds k true) (a.put o.dst v) w) : wpAny P .any ops Q (fuel + 1) listed a w :=
  wpAny_first ho (Region.noSelect_spec hs) hQ fuel listed a w (Region.free_spec ho hf) (by simpa using hr) (Or.inl ⟨by simp [Region.wanted, hg], hy⟩) h
theorem any_done {fuel : Nat} {listed : Array Bool} (hr : Region.ready .any ops listed = []) (h : Q .normal a w) : wpAny P .any ops Q fuel listed a w := by
  cases fuel with
  | zero => exact ⟨hr, h⟩
  | succ f => exact ⟨fun _ => h, fun i hi => by rw [hr] at hi; cases hi⟩
end
end Go.Proofs.YtmafmebcgmegeaaGreatDoor
