/- Texts Ws of the proof. -/
import Derived.Test.YtmafmebcgmegeaaGreatDoorEx41
import Derived.Test.YtmafmebcgmegeaaGreatDoorEx39
import Derived.Test.YtmafmebcgmegeaaGreatDoorEx15
namespace Go.Proofs.YtmafmebcgmegeaaGreatDoor
open Go.RowKit Go.Sort
theorem lowTo_one {l : List Int} (h : 0 < l.length) : lowTo l 1 = l.getD 0 0 ∧ highTo l 1 = l.getD 0 0 := by
  match l, h with
  | a :: t, _ => simp [lowTo, highTo]
theorem low_in {l : List Int} {c : Int} (hc : ∀ i, i < l.length → 0 ≤ l.getD i 0 ∧ l.getD i 0 ≤ c) (h : 0 < l.length) (j : Nat) (hj : j ≤ l.length) : (0 ≤ lowTo l j ∧ lowTo l j ≤ c) ∧ (0 ≤ highTo l j ∧ highTo l j ≤ c) := by
  induction j with
  | zero =>
    have h0 := hc 0 h
    match l, h with
    | a :: t, _ => simpa [lowTo, highTo] using h0
  | succ j ih =>
    have h1 := ih (by omega)
    have h2 := hc j (by omega)
    rw [lowTo_succ (by omega), highTo_succ (by omega)]
    omega
set_option maxHeartbeats 8000000 in
set_option maxRecDepth 100000 in
theorem refEnclosed_any {cs : Array Value} {nm : ByteArray} {sh : List Int} {T : Bell.Ty} {sa : Option Addr} {sn sc qb qo qn qc gb go gn gc : Nat} (b off n c : Nat) (l : List Bell.Fx) (r : Bell.Pl) (w : World) (hT : TyAt w cs nm sh T sa sn sc qb qo qn qc gb go gn gc) (hG : GoodT sh T)
    (hl : FixesAt w b off n l) (hg : Bell.GoodTr l) (hr : GoodPl r) :
    Calls Tryz.prog 61 #[.agg cs, .slice (some ⟨b, off, none⟩) n c, .agg (plV r)] w fun e w' => e = .returned (.agg #[.int .i64 (Bell.encLow T l r (l.length - 1)), .int .i64 (Bell.encHigh T l r (l.length - 1))]) ∧ Below w.heap.size w w' := by
  have hn := hl.1
  have n1 := hg.lo
  have n2 := hg.hi
  obtain ⟨m, hm⟩ : ∃ m, m + 1 = n := ⟨n - 1, by omega⟩
  rw [show l.length - 1 = m by omega]
  have hm1 : 1 ≤ m := by omega
  have hm15 : m ≤ 15 := by omega
  have HT := Lib.hid hT
  have HG := Lib.hid hG
  have HL := Lib.hid hl
  have HUP := Lib.hid hg.up
  have HGX := Lib.hid hg.pts
  have HLEN := Lib.hid hn
  have HEI := Lib.hid (fun k (hk : k < l.length) => enc_in hG.ty hg r k hk)
  have HSI := Lib.hid (fun j (hj : j < m) => seg_in hG.ty (Bell.fxAt l j) (Bell.fxAt l (j + 1)) r (hg.up j (j + 1) (by omega) (by omega)) (by
    have h0 : (Bell.fxAt l 0).t ≤ (Bell.fxAt l j).t := by
      rcases Nat.eq_zero_or_pos j with h | h
      · subst h; exact Int.le_refl _
      · exact Int.le_of_lt (hg.up 0 j h (by omega))
    have hL : (Bell.fxAt l (j + 1)).t ≤ (Bell.fxAt l (l.length - 1)).t := by
      rcases Nat.lt_or_ge (j + 1) (l.length - 1) with h | h
      · exact Int.le_of_lt (hg.up (j + 1) (l.length - 1) h (by omega))
      · rw [show j + 1 = l.length - 1 by omega]; exact Int.le_refl _
    have := hg.last
    omega))
  have HTK := Lib.hid (fun j (hj : j < m) => show 0 < (Bell.fxAt l (j + 1)).t - (Bell.fxAt l j).t ∧ (Bell.fxAt l (j + 1)).t - (Bell.fxAt l j).t ≤ 1000 from by
    have h0 : (Bell.fxAt l 0).t ≤ (Bell.fxAt l j).t := by
      rcases Nat.eq_zero_or_pos j with h | h
      · subst h; exact Int.le_refl _
      · exact Int.le_of_lt (hg.up 0 j h (by omega))
    have hL : (Bell.fxAt l (j + 1)).t ≤ (Bell.fxAt l (l.length - 1)).t := by
      rcases Nat.lt_or_ge (j + 1) (l.length - 1) with h | h
      · exact Int.le_of_lt (hg.up (j + 1) (l.length - 1) h (by omega))
      · rw [show j + 1 = l.length - 1 by omega]; exact Int.le_refl _
    have := hg.last
    have := hg.up j (j + 1) (by omega) (by omega)
    omega)
  have IT : Hid ((Tryz.prog.info? 26).map (·.size) = some cs.size) := by show _ = _; rw [hT.cells]; kernel_rfl
  have HEm := Lib.hid (fun (p q : Int) W (hb : Below w.heap.size w W) (hp : 1 ≤ p ∧ p ≤ 100) => refEmission_any p q W (hT.keep hb) hG hp)
  have HER := Lib.hid (fun (p q : Int) => Bell.emis_range hG.ty.sets (r := Bell.reachOf T.squares q) (Bell.reach_lt hG.ty.sq) p)
  have D := Lib.hid (fun i (hi : i < 8) => hT.dir (i := i) hi)
  have HSide := Lib.hid hT.c10
  have hs01 := Lib.hid (show 0 ≤ T.side ∧ T.side ≤ 1000 from ⟨hG.ty.side0, hG.ty.side1⟩)
  have hdl8 := hG.ty.dlen
  have HDI := Lib.hid (fun j (hj : j ≤ 8) => low_in (c := 2000) (l := T.direct) (fun i hi => hG.ty.dir i (by omega)) (by omega) j (by omega))
  have HD1 := Lib.hid (lowTo_one (l := T.direct) (by omega))
  have HDS := Lib.hid (fun j (hj : j < 8) => show lowTo T.direct (j + 1) = min (lowTo T.direct j) (T.direct.getD j 0) ∧ highTo T.direct (j + 1) = max (highTo T.direct j) (T.direct.getD j 0) from ⟨lowTo_succ (by omega), highTo_succ (by omega)⟩)
  have HDL : Hid (lowTo T.direct 8 = Bell.dLow T.direct ∧ highTo T.direct 8 = Bell.dHigh T.direct) := by show _ ∧ _; rw [← hdl8]; exact ⟨lowTo_all _, highTo_all _⟩
  obtain ⟨⟨rx0, rx1⟩, ⟨ry0, ry1⟩, ⟨rz0, rz1⟩⟩ := hr
  have HR := Lib.hid (show (-100000 ≤ r.x ∧ r.x ≤ 100000) ∧ (-100000 ≤ r.y ∧ r.y ≤ 100000) ∧ (0 ≤ r.z ∧ r.z ≤ 20000) from by omega)
  unfold plV
  clear hT hG hl hg hn n1 n2 hdl8 rx0 rx1 ry0 ry1 rz0 rz1
  go_enter Tryz.func61, Tryz.ntmps61
  go_upto_region 1 with fail
  obtain ⟨w1, hw1⟩ : ∃ W, W = (((w.alloc (.cells cs 26)).alloc (.cells #[.int .i64 r.x, .int .i64 r.y, .int .i64 r.z] 28)).alloc (.cells #[.int .i64 0, .int .i64 0] 100)) := ⟨_, rfl⟩
  rw [← hw1]
  have TT : Hid (Blk w1 (w.heap.size) 26 cs) := by show Blk _ _ _ _; rw [hw1]; exact ((Blk.new _ _ _).alloc _).alloc _
  have RR : Hid (Blk w1 (w.heap.size + 1) 28 #[.int .i64 r.x, .int .i64 r.y, .int .i64 r.z]) := by show Blk _ _ _ _; rw [hw1]; exact (Blk.at_size _ _ (by simp)).alloc _
  have OO : Hid (Blk w1 (w.heap.size + 1 + 1) 100 #[.int .i64 0, .int .i64 0]) := by show Blk _ _ _ _; rw [hw1]; exact Blk.at_size _ _ (by simp)
  have hb1 : Below w.heap.size w w1 := by rw [hw1]; exact ((((Below.refl _ _).alloc (Nat.le_refl _) _).alloc (by simp) _).alloc (by simp; omega) _)
  obtain ⟨g3, hg3⟩ : ∃ g, g = w.heap.size := ⟨_, rfl⟩
  obtain ⟨g5, hg5⟩ : ∃ g, g = w.heap.size + 1 := ⟨_, rfl⟩
  obtain ⟨g6, hg6⟩ : ∃ g, g = w.heap.size + 1 + 1 := ⟨_, rfl⟩
  have HGw1 : Hid (g3 = w.heap.size ∧ g5 = w.heap.size + 1 ∧ g6 = w.heap.size + 1 + 1) := ⟨hg3, hg5, hg6⟩
  rw [← hg6] at OO
  try rw [← hg6]
  rw [← hg5] at RR
  try rw [← hg5]
  rw [← hg3] at TT
  try rw [← hg3]
  clear hw1 hg3 hg5 hg6
  have HB := Lib.hid hb1
  have HGN : Hid (w.heap.size ≤ g3 ∧ g3 < g5 ∧ g5 < g6 ∧ g6 < w1.heap.size) := by show _ ∧ _ ∧ _ ∧ _; have := HGw1.out; have := lt_of_block OO.out; omega
  clear hb1 HGw1
  have t2 := (TT.out.cell 2).trans (D.out 0 (by omega))
  rw [← HD1.out.1] at t2
  have E12 : Hid (lowTo T.direct 1 = highTo T.direct 1) := HD1.out.1.trans HD1.out.2.symm
  go_big_quiet (fail)
  obtain ⟨w2, hw2⟩ : ∃ W, W = w1.drewN nq := ⟨_, rfl⟩
  rw [← hw2]
  have hb : Below w1.heap.size w1 w2 := by rw [hw2]; exact below_drewN' (Below.refl _ _) _
  replace HB := Lib.hid (HB.out.trans (hb.mono HB.out.size))
  replace TT := Lib.hid (TT.out.below hb)
  replace RR := Lib.hid (RR.out.below hb)
  replace OO := Lib.hid (OO.out.below hb)
  clear hb
  clear hw2 t2
  go_wp2
  go_loopw [7, 8, 9] (fun u v i wr => ∃ j : Nat, i = .int .i64 j ∧ u = .int .i64 (lowTo T.direct j) ∧ v = .int .i64 (highTo T.direct j) ∧ Hid (1 ≤ j ∧ j ≤ 8) ∧ Hid (Below w2.heap.size w2 wr)) (fun _ _ i _ => 8 - (intOf i).toNat)
  case atStart => exact ⟨1, rfl, rfl, by rw [E12.out], ⟨by omega, by omega⟩, Below.refl _ _⟩
  case round =>
    obtain ⟨j, rfl, rfl, rfl, hj, hbw⟩ := hrel
    clear E12
    have HBx := Lib.hid (HB.out.trans (hbw.out.mono HB.out.size))
    have TTx := Lib.hid (TT.out.below hbw.out)
    have RRx := Lib.hid (RR.out.below hbw.out)
    have OOx := Lib.hid (OO.out.below hbw.out)
    obtain ⟨j1, j2⟩ := hj.out
    by_cases hlt : j < 8
    · have hd : decide ((j : Int) < 8) = true := decide_eq_true (by omega)
      have hji : (j : Int) < 8 := by omega
      have tj := (TTx.out.cell (2 + j)).trans (D.out j hlt)
      obtain ⟨d, hdd⟩ : ∃ d, d = T.direct.getD j 0 := ⟨_, rfl⟩
      obtain ⟨u, hu⟩ : ∃ u, u = lowTo T.direct j := ⟨_, rfl⟩
      obtain ⟨v, hv⟩ : ∃ u, u = highTo T.direct j := ⟨_, rfl⟩
      rw [← hdd] at tj
      have hs := HDS.out j hlt
      rw [← hdd, ← hu, ← hv] at hs
      rw [← hu, ← hv]
      obtain ⟨u', hu'⟩ : ∃ x, x = min u d := ⟨_, rfl⟩
      obtain ⟨v', hv'⟩ : ∃ x, x = max v d := ⟨_, rfl⟩
      have r1 : ∀ ts t' W, (Builtin.min_ ts t' #[.int .i64 u, .int .i64 d]).run Tryz.prog W = .ok (.int .i64 u') W := fun ts t' W => by rw [hu']; exact min2_run _ _ _ _ _ _
      have r2 : ∀ ts t' W, (Builtin.max_ ts t' #[.int .i64 v, .int .i64 d]).run Tryz.prog W = .ok (.int .i64 v') W := fun ts t' W => by rw [hv']; exact max2_run _ _ _ _ _ _
      rw [← hu', ← hv'] at hs
      have HS := Lib.hid hs
      have vj : IntKind.i64.wrap ((j : Int) + 1) = ((j + 1 : Nat) : Int) := by rw [IntWalk.i64_in _ (by omega)]; omega
      have HJ := Lib.hid (show 1 ≤ j + 1 ∧ j + 1 ≤ 8 from by omega)
      clear hdd hu hv hu' hv' hs hlt HBx RRx OOx hj j1 j2 HEI HSI HTK HEm HER HDI HR HUP HGX
      go_upto_region 5 with fail
      go_big_quiet (fail)
      obtain ⟨w3, hw3⟩ : ∃ W, W = wr.drewN nq := ⟨_, rfl⟩
      rw [← hw3]
      have hb3 : Below wr.heap.size wr w3 := by rw [hw3]; exact below_drewN' (Below.refl _ _) _
      have HW3 := Lib.hid (hbw.out.trans (hb3.mono hbw.out.size))
      clear hw3 hb3 tj r1 r2 TTx
      go_wp2
      go_roundw
      case rel => exact ⟨j + 1, by go_num, by rw [HS.out.1], by rw [HS.out.2], HJ.out, HW3.out⟩
      case measure => have := HJ.out; simp [intOf]; omega
    · obtain rfl : j = 8 := by omega
      have hd : decide (((8 : Nat) : Int) < 8) = false := by decide
      obtain ⟨⟨d1, d2⟩, d3, d4⟩ := HDI.out 8 (by omega)
      rw [HDL.out.1, HDL.out.2]
      rw [HDL.out.1] at d1 d2
      rw [HDL.out.2] at d3 d4
      obtain ⟨LE, hLE⟩ : ∃ x, x = Bell.dLow T.direct := ⟨_, rfl⟩
      obtain ⟨MO, hMO⟩ : ∃ x, x = Bell.dHigh T.direct := ⟨_, rfl⟩
      rw [← hLE] at d1 d2 ⊢
      rw [← hMO] at d3 d4 ⊢
      have HLE := Lib.hid hLE; have HMO := Lib.hid hMO
      have HLB := Lib.hid (show (0 ≤ LE ∧ LE ≤ 2000) ∧ (0 ≤ MO ∧ MO ≤ 2000) from by omega)
      have HGO : Hid (g6 < wr.heap.size) := lt_of_block OOx.out
      clear hLE hMO d1 d2 d3 d4 hj j1 j2 hlt HB TT RR OO hbw D HDI HD1 HDS HDL
      go_upto_region 7 with fail
      obtain ⟨w4, hw4⟩ : ∃ W, W = (wr.alloc (.cells #[.int .i64 0, .int .i64 0] 100)) := ⟨_, rfl⟩
      rw [← hw4]
      have XX : Hid (Blk w4 (wr.heap.size) 100 #[.int .i64 0, .int .i64 0]) := by show Blk _ _ _ _; rw [hw4]; exact Blk.new _ _ _
      have hb4 : Below wr.heap.size wr w4 := by rw [hw4]; exact ((Below.refl _ _).alloc (Nat.le_refl _) _)
      obtain ⟨g10, hg10⟩ : ∃ g, g = wr.heap.size := ⟨_, rfl⟩
      have HGw4 : Hid (g10 = wr.heap.size) := hg10
      rw [← hg10] at XX
      try rw [← hg10]
      clear hw4 hg10
      have HG10 : Hid (g6 < g10) := by show _ < _; have := HGw4.out; have := HGO.out; omega
      have hb := hb4
      replace HBx := Lib.hid (HBx.out.trans (hb.mono HBx.out.size))
      replace TTx := Lib.hid (TTx.out.below hb)
      replace RRx := Lib.hid (RRx.out.below hb)
      replace OOx := Lib.hid (OOx.out.below hb)
      clear hb
      clear hb4 HGw4 HGO
      go_wp2
      go_loopw [11, 12, 13, 14, 15, 16, 17, 18, 19, 20] (fun i _ _ _ _ _ _ _ _ _ wr => ∃ j : Nat, j ≤ m ∧ i = .int .i64 j ∧ Hid (Blk wr g10 100 #[.int .i64 (Bell.encLow T l r j), .int .i64 (Bell.encHigh T l r j)]) ∧ Hid (Blk wr g3 26 cs ∧ Blk wr g5 28 #[.int .i64 r.x, .int .i64 r.y, .int .i64 r.z] ∧ Blk wr g6 100 #[.int .i64 0, .int .i64 0]) ∧ Hid (Below w.heap.size w wr)) (fun i _ _ _ _ _ _ _ _ _ _ => m - (intOf i).toNat)
      case atStart => exact ⟨0, by omega, rfl, XX.out, ⟨TTx.out, RRx.out, OOx.out⟩, HBx.out⟩
      case round =>
        clear XX TTx RRx OOx HBx
        obtain ⟨j, hj, rfl, hxx, ⟨htt, hrr, hoo⟩, hbw⟩ := hrel
        have XX := Lib.hid hxx.out; have TT := Lib.hid htt; have RR := Lib.hid hrr; have OO := Lib.hid hoo; have HB := Lib.hid hbw.out
        clear hxx htt hrr hoo hbw
        have wq : IntKind.i64.wrap ((j : Int) + 1) = ((j + 1 : Nat) : Int) := by rw [IntWalk.i64_in _ (by omega)]; omega
        by_cases hlt : j < m
        · have hd : decide (((j + 1 : Nat) : Int) < (n : Int)) = true := decide_eq_true (by omega)
          have HL1 := HL.out.keep HB.out
          obtain ⟨a0, a1, a2, a3, a4⟩ := HL1.2 j (by omega)
          obtain ⟨b0, b1, b2, b3, b4⟩ := HL1.2 (j + 1) (by omega)
          have gA := HGX.out j (by rw [HLEN.out]; omega)
          have gB := HGX.out (j + 1) (by rw [HLEN.out]; omega)
          have htk := HTK.out j hlt
          have hsi := HSI.out j hlt
          have he1 := HEI.out j (by rw [HLEN.out]; omega)
          have HES : Hid (Bell.encLow T l r (j + 1) = Bell.encLow T l r j + Bell.lowOf T (Bell.fxAt l j) (Bell.fxAt l (j + 1)) r ∧ Bell.encHigh T l r (j + 1) = Bell.encHigh T l r j + Bell.highOf T (Bell.fxAt l j) (Bell.fxAt l (j + 1)) r) := ⟨rfl, rfl⟩
          obtain ⟨X, hX⟩ : ∃ X, X = Bell.fxAt l j := ⟨_, rfl⟩
          obtain ⟨Y, hY⟩ : ∃ Y, Y = Bell.fxAt l (j + 1) := ⟨_, rfl⟩
          rw [← hX] at a0 a1 a2 a3 a4 gA htk hsi HES
          rw [← hY] at b0 b1 b2 b3 b4 gB htk hsi HES
          have GA := Lib.hid gA
          have GB := Lib.hid gB
          have pq : (j : Int) < (n : Int) := by omega
          have pq2 : ((j + 1 : Nat) : Int) < (n : Int) := by omega
          have HJ := Lib.hid (show j + 1 ≤ m from hlt)
          obtain ⟨SL, hSL⟩ : ∃ x, x = Bell.encLow T l r j := ⟨_, rfl⟩
          obtain ⟨SH, hSH⟩ : ∃ x, x = Bell.encHigh T l r j := ⟨_, rfl⟩
          rw [← hSL] at he1 HES XX
          rw [← hSH] at he1 HES XX
          have HBD := Lib.hid (show (0 ≤ SL ∧ SL ≤ 4000000000000) ∧ (0 ≤ SH ∧ SH ≤ 4000000000000) ∧ (0 ≤ Bell.lowOf T X Y r ∧ Bell.lowOf T X Y r ≤ 200000000000) ∧ (0 ≤ Bell.highOf T X Y r ∧ Bell.highOf T X Y r ≤ 200000000001) from by omega)
          have HTN := Lib.hid htk
          obtain ⟨q1, hq1⟩ : ∃ q1, q1 = j + 1 := ⟨_, rfl⟩
          have HQ1 := Lib.hid hq1
          rw [← hq1] at wq pq2 b0 b1 b2 b3 b4 hd
          have hbl : b < wr.heap.size := World.block_lt_of_cell? _ _ a0
          have e1 : (b = wr.heap.size) = False := by simp; omega
          have e2 : (b = wr.heap.size + 1) = False := by simp; omega
          clear hX hY gA gB htk hsi he1 HL1 hSL hSH hlt hq1 hj HL HSI HTK HEI HUP HGX HLEN
          go_upto_region 10 with fail
          apply via3 (A := fun (W : World) (a : Nat) => Hid (Blk W a 140 (fxRow X) ∧ wr.heap.size ≤ a)) (B := fun (W : World) (a : Nat) => Hid (Blk W a 140 (fxRow Y) ∧ wr.heap.size ≤ a)) (C := fun W => Hid (Below wr.heap.size wr W))
          · intro key
            go_region
            · obtain ⟨w2, hw2⟩ : ∃ W, W = ((wr.alloc (.cells #[.int .i64 X.t, .int .i64 X.x, .int .i64 X.y, .int .i64 X.z, .int .i64 X.p] 140)).alloc (.cells #[.int .i64 Y.t, .int .i64 Y.x, .int .i64 Y.y, .int .i64 Y.z, .int .i64 Y.p] 140)).drew := ⟨_, rfl⟩
              rw [← hw2]
              have PX : Hid (Blk w2 (wr.heap.size) 140 (fxRow X)) := by show Blk _ _ _ _; rw [hw2]; exact ((Blk.new _ _ _).alloc _).drew
              have PY : Hid (Blk w2 (wr.heap.size + 1) 140 (fxRow Y)) := by show Blk _ _ _ _; rw [hw2]; exact (Blk.at_size _ _ (by simp)).drew
              have hb2 : Hid (Below wr.heap.size wr w2) := by show Below _ _ _; rw [hw2]; exact (((Below.refl _ _).alloc (Nat.le_refl _) _).alloc (by simp) _).drew
              obtain ⟨gX, hgX⟩ : ∃ x, x = wr.heap.size := ⟨_, rfl⟩
              obtain ⟨gY, hgY⟩ : ∃ x, x = wr.heap.size + 1 := ⟨_, rfl⟩
              rw [← hgX] at PX
              rw [← hgY] at PY
              rw [← hgY, ← hgX]
              exact key w2 gX gY ⟨PX.out, by omega⟩ ⟨PY.out, by omega⟩ hb2
            · obtain ⟨w2, hw2⟩ : ∃ W, W = ((wr.alloc (.cells #[.int .i64 Y.t, .int .i64 Y.x, .int .i64 Y.y, .int .i64 Y.z, .int .i64 Y.p] 140)).alloc (.cells #[.int .i64 X.t, .int .i64 X.x, .int .i64 X.y, .int .i64 X.z, .int .i64 X.p] 140)).drew := ⟨_, rfl⟩
              rw [← hw2]
              have PX : Hid (Blk w2 (wr.heap.size + 1) 140 (fxRow X)) := by show Blk _ _ _ _; rw [hw2]; exact (Blk.at_size _ _ (by simp)).drew
              have PY : Hid (Blk w2 (wr.heap.size) 140 (fxRow Y)) := by show Blk _ _ _ _; rw [hw2]; exact ((Blk.new _ _ _).alloc _).drew
              have hb2 : Hid (Below wr.heap.size wr w2) := by show Below _ _ _; rw [hw2]; exact (((Below.refl _ _).alloc (Nat.le_refl _) _).alloc (by simp) _).drew
              obtain ⟨gX, hgX⟩ : ∃ x, x = wr.heap.size + 1 := ⟨_, rfl⟩
              obtain ⟨gY, hgY⟩ : ∃ x, x = wr.heap.size := ⟨_, rfl⟩
              rw [← hgX] at PX
              rw [← hgY] at PY
              rw [← hgX, ← hgY]
              exact key w2 gX gY ⟨PX.out, by omega⟩ ⟨PY.out, by omega⟩ hb2
          intro w5 g12 g13 BX0 BY0 HC
          have BX := Lib.hid BX0.out.1; have BY := Lib.hid BY0.out.1
          have HCG := Lib.hid (show wr.heap.size ≤ g12 ∧ wr.heap.size ≤ g13 from ⟨BX0.out.2, BY0.out.2⟩)
          clear BX0 BY0
          have hb := HC.out
          have HGX : Hid (g10 < wr.heap.size) := lt_of_block XX.out
          clear HC e1 e2 a0 a1 a2 a3 a4 b0 b1 b2 b3 b4 pq pq2 wq hbl hd
          replace HB := Lib.hid (HB.out.trans (hb.mono HB.out.size))
          replace XX := Lib.hid (XX.out.below hb)
          replace TT := Lib.hid (TT.out.below hb)
          replace RR := Lib.hid (RR.out.below hb)
          replace OO := Lib.hid (OO.out.below hb)
          clear hb
          have hga := GA.out; have hgb := GB.out
          have hrr := HR.out
          have xa := hga.x0; have xb := hga.x1; have ya := hga.y0; have yb := hga.y1; have za := hga.z0; have zb := hga.z1; have pa := hga.p0; have pb := hga.p1
          have xc := hgb.x0; have xd := hgb.x1; have yc := hgb.y0; have yd := hgb.y1; have zc := hgb.z0; have zd := hgb.z1; have pc := hgb.p0; have pd := hgb.p1
          have htn := HTN.out
          have hbd := HBD.out
          have hlb := HLB.out
          have hsd := hs01.out
          have ga0 := hga.t0; have ga1 := hga.t1; have gb0 := hgb.t0; have gb1 := hgb.t1
          obtain ⟨N, hN⟩ : ∃ x, x = Y.t - X.t := ⟨_, rfl⟩
          have v0 : IntKind.i64.wrap (Y.t - X.t) = N := by rw [hN]; exact IntWalk.i64_in _ (by omega)
          rw [← hN] at htn
          obtain ⟨Ax, hAx⟩ : ∃ x, x = apNear r.x X.x Y.x := ⟨_, rfl⟩
          obtain ⟨Fx, hFx⟩ : ∃ x, x = apFar r.x X.x Y.x := ⟨_, rfl⟩
          have Cx : Hid (∀ W, Calls Tryz.prog 138 #[.int .i64 r.x, .int .i64 X.x, .int .i64 Y.x] W fun e w' => e = .returned (.tuple #[.int .i64 Ax, .int .i64 Fx]) ∧ w' = W) := fun W => by
            have h := refApart_any r.x X.x Y.x W (by omega) (by omega) (by omega)
            rwa [← hAx, ← hFx] at h
          have bax : -200000 ≤ Ax ∧ Ax ≤ 200000 := by rw [hAx]; unfold apNear Bell.nearOf; omega
          have bfx : -200000 ≤ Fx ∧ Fx ≤ 200000 := by rw [hFx]; unfold apFar Bell.farOf; omega
          have sax := sq_in bax.1 bax.2
          have sfx := sq_in bfx.1 bfx.2
          obtain ⟨Ay, hAy⟩ : ∃ x, x = apNear r.y X.y Y.y := ⟨_, rfl⟩
          obtain ⟨Fy, hFy⟩ : ∃ x, x = apFar r.y X.y Y.y := ⟨_, rfl⟩
          have Cy : Hid (∀ W, Calls Tryz.prog 138 #[.int .i64 r.y, .int .i64 X.y, .int .i64 Y.y] W fun e w' => e = .returned (.tuple #[.int .i64 Ay, .int .i64 Fy]) ∧ w' = W) := fun W => by
            have h := refApart_any r.y X.y Y.y W (by omega) (by omega) (by omega)
            rwa [← hAy, ← hFy] at h
          have bay : -200000 ≤ Ay ∧ Ay ≤ 200000 := by rw [hAy]; unfold apNear Bell.nearOf; omega
          have bfy : -200000 ≤ Fy ∧ Fy ≤ 200000 := by rw [hFy]; unfold apFar Bell.farOf; omega
          have say := sq_in bay.1 bay.2
          have sfy := sq_in bfy.1 bfy.2
          obtain ⟨Az, hAz⟩ : ∃ x, x = apNear r.z X.z Y.z := ⟨_, rfl⟩
          obtain ⟨Fz, hFz⟩ : ∃ x, x = apFar r.z X.z Y.z := ⟨_, rfl⟩
          have Cz : Hid (∀ W, Calls Tryz.prog 138 #[.int .i64 r.z, .int .i64 X.z, .int .i64 Y.z] W fun e w' => e = .returned (.tuple #[.int .i64 Az, .int .i64 Fz]) ∧ w' = W) := fun W => by
            have h := refApart_any r.z X.z Y.z W (by omega) (by omega) (by omega)
            rwa [← hAz, ← hFz] at h
          have baz : -200000 ≤ Az ∧ Az ≤ 200000 := by rw [hAz]; unfold apNear Bell.nearOf; omega
          have bfz : -200000 ≤ Fz ∧ Fz ≤ 200000 := by rw [hFz]; unfold apFar Bell.farOf; omega
          have saz := sq_in baz.1 baz.2
          have sfz := sq_in bfz.1 bfz.2
          have hNear : Bell.sqNear X Y r = Ax * Ax + Ay * Ay + Az * Az := by rw [hAx, hAy, hAz]; rfl
          have hFar : Bell.sqFar X Y r = Fx * Fx + Fy * Fy + Fz * Fz := by rw [hFx, hFy, hFz]; rfl
          obtain ⟨p1, hp1⟩ : ∃ x, x = min X.p Y.p := ⟨_, rfl⟩
          obtain ⟨p2, hp2⟩ : ∃ x, x = max X.p Y.p := ⟨_, rfl⟩
          have R1 : Hid (∀ ts t' W, (Builtin.min_ ts t' #[.int .i64 X.p, .int .i64 Y.p]).run Tryz.prog W = .ok (.int .i64 p1) W) := fun ts t' W => by rw [hp1]; exact min2_run _ _ _ _ _ _
          have R2 : Hid (∀ ts t' W, (Builtin.max_ ts t' #[.int .i64 X.p, .int .i64 Y.p]).run Tryz.prog W = .ok (.int .i64 p2) W) := fun ts t' W => by rw [hp2]; exact max2_run _ _ _ _ _ _
          obtain ⟨x1, hx1⟩ : ∃ x, x = Fx * Fx := ⟨_, rfl⟩
          obtain ⟨y1, hy1⟩ : ∃ x, x = Fy * Fy := ⟨_, rfl⟩
          obtain ⟨z1, hz1⟩ : ∃ x, x = Fz * Fz := ⟨_, rfl⟩
          have m11 : Hid (IntKind.i64.wrap (Fx * Fx) = x1) := by show _ = _; rw [hx1]; exact IntWalk.i64_in _ (by omega)
          have m12 : Hid (IntKind.i64.wrap (Fy * Fy) = y1) := by show _ = _; rw [hy1]; exact IntWalk.i64_in _ (by omega)
          have m13 : Hid (IntKind.i64.wrap (Fz * Fz) = z1) := by show _ = _; rw [hz1]; exact IntWalk.i64_in _ (by omega)
          rw [← hx1, ← hy1, ← hz1] at hFar
          rw [← hx1] at sfx
          rw [← hy1] at sfy
          rw [← hz1] at sfz
          obtain ⟨u1, hu1⟩ : ∃ x, x = x1 + y1 := ⟨_, rfl⟩
          obtain ⟨Q1, hQ1⟩ : ∃ x, x = u1 + z1 := ⟨_, rfl⟩
          have m14 : Hid (IntKind.i64.wrap (x1 + y1) = u1) := by show _ = _; rw [hu1]; exact IntWalk.i64_in _ (by omega)
          have m15 : Hid (IntKind.i64.wrap (u1 + z1) = Q1) := by show _ = _; rw [hQ1]; exact IntWalk.i64_in _ (by omega)
          rw [← hu1, ← hQ1] at hFar
          have E1 := Lib.hid (fun W (hb : Below w.heap.size w W) => HEm.out p1 Q1 W hb (by omega))
          have er1 := HER.out p1 Q1
          obtain ⟨e1, he1⟩ : ∃ x, x = Bell.emis T.sets (Bell.reachOf T.squares Q1) p1 := ⟨_, rfl⟩
          rw [← he1] at E1 er1
          obtain ⟨x2, hx2⟩ : ∃ x, x = Ax * Ax := ⟨_, rfl⟩
          obtain ⟨y2, hy2⟩ : ∃ x, x = Ay * Ay := ⟨_, rfl⟩
          obtain ⟨z2, hz2⟩ : ∃ x, x = Az * Az := ⟨_, rfl⟩
          have m21 : Hid (IntKind.i64.wrap (Ax * Ax) = x2) := by show _ = _; rw [hx2]; exact IntWalk.i64_in _ (by omega)
          have m22 : Hid (IntKind.i64.wrap (Ay * Ay) = y2) := by show _ = _; rw [hy2]; exact IntWalk.i64_in _ (by omega)
          have m23 : Hid (IntKind.i64.wrap (Az * Az) = z2) := by show _ = _; rw [hz2]; exact IntWalk.i64_in _ (by omega)
          rw [← hx2, ← hy2, ← hz2] at hNear
          rw [← hx2] at sax
          rw [← hy2] at say
          rw [← hz2] at saz
          obtain ⟨u2, hu2⟩ : ∃ x, x = x2 + y2 := ⟨_, rfl⟩
          obtain ⟨Q2, hQ2⟩ : ∃ x, x = u2 + z2 := ⟨_, rfl⟩
          have m24 : Hid (IntKind.i64.wrap (x2 + y2) = u2) := by show _ = _; rw [hu2]; exact IntWalk.i64_in _ (by omega)
          have m25 : Hid (IntKind.i64.wrap (u2 + z2) = Q2) := by show _ = _; rw [hQ2]; exact IntWalk.i64_in _ (by omega)
          rw [← hu2, ← hQ2] at hNear
          have E2 := Lib.hid (fun W (hb : Below w.heap.size w W) => HEm.out p2 Q2 W hb (by omega))
          have er2 := HER.out p2 Q2
          obtain ⟨e2, he2⟩ : ∃ x, x = Bell.emis T.sets (Bell.reachOf T.squares Q2) p2 := ⟨_, rfl⟩
          rw [← he2] at E2 er2
          -- the least of the segment
          have k1 := mul_in (a := e1) (b := LE) (m := 100000000) (n := 2000) (by omega) (by omega) (by omega) (by omega)
          have k10 : 0 ≤ e1 * LE := Int.mul_nonneg er1.1 hlb.1.1
          obtain ⟨G1, hG1⟩ : ∃ x, x = e1 * LE := ⟨_, rfl⟩
          rw [← hG1] at k1 k10
          have k2 := mul_in (a := G1) (b := T.side) (m := 200000000000) (n := 1000) (by omega) (by omega) (by omega) (by omega)
          have k20 : 0 ≤ G1 * T.side := Int.mul_nonneg k10 hsd.1
          obtain ⟨G2, hG2⟩ : ∃ x, x = G1 * T.side := ⟨_, rfl⟩
          rw [← hG2] at k2 k20
          obtain ⟨G3, hG3⟩ : ∃ x, x = G2 / 1000000 := ⟨_, rfl⟩
          have k3 : 0 ≤ G3 ∧ G3 ≤ 200000000 := by omega
          have k4 := mul_in (a := N) (b := G3) (m := 1000) (n := 200000000) (by omega) (by omega) (by omega) (by omega)
          obtain ⟨G4, hG4⟩ : ∃ x, x = N * G3 := ⟨_, rfl⟩
          rw [← hG4] at k4
          have hLow : Bell.lowOf T X Y r = G4 := by rw [hG4, hG3, hG2, hG1, he1, HLE.out, hN, ← hFar, hp1]; rfl
          have w11 : Hid (IntKind.i64.wrap (e1 * LE) = G1) := by show _ = _; rw [hG1]; exact IntWalk.i64_in _ (by omega)
          have w12 : Hid (IntKind.i64.wrap (G1 * T.side) = G2) := by show _ = _; rw [hG2]; exact IntWalk.i64_in _ (by omega)
          have w13 : Hid (IntKind.i64.wrap (G2.tdiv 1000000) = G3) := by show _ = _; rw [hG3, Int.tdiv_eq_ediv_of_nonneg k20]; exact IntWalk.i64_in _ (by omega)
          have w14 : Hid (IntKind.i64.wrap (N * G3) = G4) := by show _ = _; rw [hG4]; exact IntWalk.i64_in _ (by omega)
          -- the most of the segment
          have k5 := mul_in (a := N) (b := e2) (m := 1000) (n := 100000000) (by omega) (by omega) (by omega) (by omega)
          have k50 : 0 ≤ N * e2 := Int.mul_nonneg (by omega) er2.1
          obtain ⟨J1, hJ1⟩ : ∃ x, x = N * e2 := ⟨_, rfl⟩
          rw [← hJ1] at k5 k50
          have k6 := mul_in (a := J1) (b := MO) (m := 100000000000) (n := 2000) (by omega) (by omega) (by omega) (by omega)
          have k60 : 0 ≤ J1 * MO := Int.mul_nonneg k50 hlb.2.1
          obtain ⟨J2, hJ2⟩ : ∃ x, x = J1 * MO := ⟨_, rfl⟩
          rw [← hJ2] at k6 k60
          have CL := Lib.hid (fun W => refCeil_big J2 1000 W (by omega) (by omega))
          obtain ⟨J3, hJ3⟩ : ∃ x, x = (J2 + 1000 - 1) / 1000 := ⟨_, rfl⟩
          rw [← hJ3] at CL
          have hHigh : Bell.highOf T X Y r = J3 := by rw [hJ3, hJ2, hJ1, Int.mul_assoc, he2, HMO.out, hN, ← hNear, hp2]; rfl
          have w21 : Hid (IntKind.i64.wrap (N * e2) = J1) := by show _ = _; rw [hJ1]; exact IntWalk.i64_in _ (by omega)
          have w22 : Hid (IntKind.i64.wrap (J1 * MO) = J2) := by show _ = _; rw [hJ2]; exact IntWalk.i64_in _ (by omega)
          rw [hLow, hHigh] at HES hbd
          have w15 : Hid (IntKind.i64.wrap (SL + G4) = SL + G4) := IntWalk.i64_in _ (by omega)
          have w23 : Hid (IntKind.i64.wrap (SH + J3) = SH + J3) := IntWalk.i64_in _ (by omega)
          have hgn := HGN.out
          have hg10 := HG10.out
          have hws := HB.out.size
          have HNE := Lib.hid (show g3 ≠ g10 ∧ g5 ≠ g10 ∧ g6 ≠ g10 ∧ w.heap.size ≤ g10 from by omega)
          have HNF := Lib.hid (show g12 ≠ g10 ∧ g13 ≠ g10 from by have h1 := HCG.out; have h2 := HGX.out; omega)
          clear hga hgb hrr xa xb ya yb za zb pa pb xc xd yc yd zc zd pc pd htn hbd hlb hsd ga0 ga1 gb0 gb1 hN hNear hFar hp1 hp2
          clear hAx hAy hAz hFx hFy hFz bax bay baz bfx bfy bfz sax say saz sfx sfy sfz hx1 hy1 hz1 hu1 hQ1 hx2 hy2 hz2 hu2 hQ2 he1 he2 er1 er2
          clear k1 k10 k2 k20 k3 k4 k5 k50 k6 k60 hG1 hG2 hG3 hG4 hJ1 hJ2 hJ3 hLow hHigh hgn hg10 hws HGX HLE HMO HLB hs01 HTN HBD GA GB HR HEm HER
          have x0 := BX.out.cell 0; have x1 := BX.out.cell 1; have x2 := BX.out.cell 2; have x3 := BX.out.cell 3
          have y0 := BY.out.cell 0; have y1 := BY.out.cell 1; have y2 := BY.out.cell 2; have y3 := BY.out.cell 3
          have c0 := RR.out.cell 0; have c1 := RR.out.cell 1; have c2 := RR.out.cell 2
          simp only [fxRow, List.getElem?_toArray, List.getElem?_cons_zero, List.getElem?_cons_succ] at x0 x1 x2 x3 y0 y1 y2 y3 c0 c1 c2
          go_wp2_with fail
          refine (Cx.out _).mono ?_
          rintro e w' ⟨rfl, rfl⟩
          go_wp2_with fail
          refine (Cy.out _).mono ?_
          rintro e w' ⟨rfl, rfl⟩
          go_wp2_with fail
          refine (Cz.out _).mono ?_
          rintro e w' ⟨rfl, rfl⟩
          clear x0 x1 x2 x3 y0 y1 y2 y3 c0 c1 c2 Cx Cy Cz v0
          go_upto_region 15 with fail
          have bw : ∀ d os, Below w'.heap.size w' (grow (redrawn w' d) os) := fun d os => below_regrown w' d os
          have lT := fun d os => (TT.out.below (bw d os)).lv Tryz.prog (T := 26) Tryz.underlying26 rfl IT.out
          have s0 := fun d os => cell_regrown (XX.out.cell 0) d os
          have x4 := fun d os => cell_regrown (BX.out.cell 4) d os
          have y4 := fun d os => cell_regrown (BY.out.cell 4) d os
          have t10 := fun d os => cell_regrown ((TT.out.cell 10).trans HSide.out) d os
          simp only [fxRow, List.getElem?_toArray, List.getElem?_cons_zero, List.getElem?_cons_succ] at s0 x4 y4
          have ce := fun d os => Calls.regrown_of (E1.out (grow (redrawn w' d) os) (HB.out.trans ((bw d os).mono HB.out.size)))
          have r1 := R1.out
          have q1 := m11.out; have q2 := m12.out; have q3 := m13.out; have q4 := m14.out; have q5 := m15.out; have q6 := w11.out; have q7 := w12.out; have q8 := w13.out; have q9 := w14.out; have q10 := w15.out
          refine wp_region_below_tail 29 (by kernel_rfl) (by kernel_rfl) ?_
          simp only [List.take_succ_cons, List.take_zero, List.drop_succ_cons, List.drop_zero]
          iterate 3 (quiet_step (fail))
          refine quiet_load _ _ rfl (by rfl) _ _ rfl lT ?_
          iterate 16 (quiet_step (fail))
          quiet_step (exact ce _ _)
          repeat (quiet_step (fail))
          refine wpQuiet_nil ?_
          intro w6 hw6
          obtain ⟨⟨dq, osq⟩, hw'⟩ := hw6
          have hb := bw dq osq
          rw [← hw'] at hb
          have hbs := hb.size
          replace HB := Lib.hid (HB.out.trans (hb.mono HB.out.size))
          replace XX := Lib.hid (XX.out.below hb)
          replace TT := Lib.hid (TT.out.below hb)
          replace RR := Lib.hid (RR.out.below hb)
          replace OO := Lib.hid (OO.out.below hb)
          replace BX := Lib.hid (BX.out.below hb)
          replace BY := Lib.hid (BY.out.below hb)
          clear hb
          clear hw' lT s0 x4 y4 t10 ce bw r1 q1 q2 q3 q4 q5 q6 q7 q8 q9 q10 m11 m12 m13 m14 m15 w11 w12 w13 w14 w15 E1 R1
          have s0 := XX.out.cell 0
          have f0 := XX.out.frozen 0
          simp only [List.getElem?_toArray, List.getElem?_cons_zero] at s0
          go_upto_region 16 with fail
          obtain ⟨w7, hw7⟩ : ∃ W, W = w6.setCell ⟨g10, 0, none⟩ (.int .i64 (SL + G4)) := ⟨_, rfl⟩
          rw [← hw7]
          have X7 : Hid (Blk w7 g10 100 #[.int .i64 (SL + G4), .int .i64 SH]) := by show Blk _ _ _ _; rw [hw7]; exact XX.out.set_ 0 _
          have hx12 := lt_of_block BX.out
          have T7 : Hid (Blk w7 g3 26 cs) := by show Blk _ _ _ _; rw [hw7]; exact TT.out.far (p := ⟨g10, 0, none⟩) HNE.out.1 _
          have R7 : Hid (Blk w7 g5 28 #[.int .i64 r.x, .int .i64 r.y, .int .i64 r.z]) := by show Blk _ _ _ _; rw [hw7]; exact RR.out.far (p := ⟨g10, 0, none⟩) HNE.out.2.1 _
          have O7 : Hid (Blk w7 g6 100 #[.int .i64 0, .int .i64 0]) := by show Blk _ _ _ _; rw [hw7]; exact OO.out.far (p := ⟨g10, 0, none⟩) HNE.out.2.2.1 _
          have B7 : Hid (Blk w7 g12 140 (fxRow X)) := by show Blk _ _ _ _; rw [hw7]; exact BX.out.far (p := ⟨g10, 0, none⟩) HNF.out.1 _
          have D7 : Hid (Blk w7 g13 140 (fxRow Y)) := by show Blk _ _ _ _; rw [hw7]; exact BY.out.far (p := ⟨g10, 0, none⟩) HNF.out.2 _
          have HB7 : Hid (Below w.heap.size w w7) := by show Below _ _ _; rw [hw7]; exact HB.out.setCell (p := ⟨g10, 0, none⟩) HNE.out.2.2.2 _
          clear hw7 XX TT RR OO BX BY HB s0 f0 hbs hx12
          have bw : ∀ d os, Below w7.heap.size w7 (grow (redrawn w7 d) os) := fun d os => below_regrown w7 d os
          have lT := fun d os => (T7.out.below (bw d os)).lv Tryz.prog (T := 26) Tryz.underlying26 rfl IT.out
          have s1 := fun d os => cell_regrown (X7.out.cell 1) d os
          have x4 := fun d os => cell_regrown (B7.out.cell 4) d os
          have y4 := fun d os => cell_regrown (D7.out.cell 4) d os
          simp only [fxRow, List.getElem?_toArray, List.getElem?_cons_zero, List.getElem?_cons_succ] at s1 x4 y4
          have ce := fun d os => Calls.regrown_of (E2.out (grow (redrawn w7 d) os) (HB7.out.trans ((bw d os).mono HB7.out.size)))
          have cl := fun d os => Calls.regrown_of ((CL.out (grow (redrawn w7 d) os)).mono (fun e w' h => (⟨h.1, by rw [h.2]; exact Below.refl _ _⟩ : e = .returned (.int .i64 J3) ∧ Below (grow (redrawn w7 d) os).heap.size (grow (redrawn w7 d) os) w')))
          have r2 := R2.out
          have q1 := m21.out; have q2 := m22.out; have q3 := m23.out; have q4 := m24.out; have q5 := m25.out; have q6 := w21.out; have q7 := w22.out; have q8 := w23.out
          refine wp_region_below_tail 26 (by kernel_rfl) (by kernel_rfl) ?_
          simp only [List.take_succ_cons, List.take_zero, List.drop_succ_cons, List.drop_zero]
          iterate 3 (quiet_step (fail))
          refine quiet_load _ _ rfl (by rfl) _ _ rfl lT ?_
          iterate 16 (quiet_step (fail))
          quiet_step (exact ce _ _)
          iterate 3 (quiet_step (fail))
          quiet_step (exact cl _ _)
          repeat (quiet_step (fail))
          refine wpQuiet_nil ?_
          intro w8 hw8
          obtain ⟨⟨dq, osq⟩, hw'⟩ := hw8
          have hb := bw dq osq
          rw [← hw'] at hb
          replace HB7 := Lib.hid (HB7.out.trans (hb.mono HB7.out.size))
          replace X7 := Lib.hid (X7.out.below hb)
          replace T7 := Lib.hid (T7.out.below hb)
          replace R7 := Lib.hid (R7.out.below hb)
          replace O7 := Lib.hid (O7.out.below hb)
          clear hb
          clear hw' lT s1 x4 y4 ce cl bw r2 q1 q2 q3 q4 q5 q6 q7 q8 m21 m22 m23 m24 m25 w21 w22 w23 E2 R2 CL B7 D7
          have s1 := X7.out.cell 1
          have f1 := X7.out.frozen 1
          simp only [List.getElem?_toArray, List.getElem?_cons_zero, List.getElem?_cons_succ] at s1
          have wq : IntKind.i64.wrap ((j : Int) + 1) = ((j + 1 : Nat) : Int) := by rw [IntWalk.i64_in _ (by have := HJ.out; omega)]; omega
          go_wp2
          refine ⟨?mm, ?measure⟩
          case mm =>
            apply Exists.intro
            apply Exists.intro
            apply Exists.intro
            repeat apply Exists.intro
            refine ⟨?rel, rfl⟩
            refine ⟨j + 1, HJ.out, by go_num, ?_, ⟨?_, ?_, ?_⟩, ?_⟩
            · show Blk _ _ _ _
              rw [HES.out.1, HES.out.2]
              exact X7.out.set_ 1 (.int .i64 (SH + J3))
            · exact T7.out.far (p := ⟨g10, 1, none⟩) HNE.out.1 _
            · exact R7.out.far (p := ⟨g10, 1, none⟩) HNE.out.2.1 _
            · exact O7.out.far (p := ⟨g10, 1, none⟩) HNE.out.2.2.1 _
            · exact HB7.out.setCell (p := ⟨g10, 1, none⟩) HNE.out.2.2.2 _
          case measure => have := HJ.out; simp [intOf]; omega
        · obtain rfl : j = m := by omega
          have hd : decide (((j + 1 : Nat) : Int) < (n : Int)) = false := decide_eq_false (by omega)
          obtain ⟨SL, hSL⟩ : ∃ x, x = Bell.encLow T l r j := ⟨_, rfl⟩
          obtain ⟨SH, hSH⟩ : ∃ x, x = Bell.encHigh T l r j := ⟨_, rfl⟩
          rw [← hSL, ← hSH] at XX
          have HS1 := Lib.hid hSL; have HS2 := Lib.hid hSH
          have hgl : w.heap.size ≤ g6 := by have := HGN.out; omega
          clear hSL hSH hlt hj HL HSI HTK HEI HUP HGX HLEN HEm HER HSide hs01 HLE HMO HLB HR TT RR
          go_wp2_with (first | (refine wpList_load_row rfl 100 _ rfl g10 rfl 100 #[.int .i64 SL, .int .i64 SH] (0, 0) _ XX.out Tryz.underlying100 rfl (by kernel_rfl) ?_) | (refine wpList_store_row rfl 100 _ _ rfl g6 #[.int .i64 SL, .int .i64 SH] rfl rfl 100 _ OO.out (by kernel_rfl) rfl (by simp [Value.oneCell']) ?_))
          try simp only [Act.put, List.setIfInBounds_toArray, List.set_cons_zero, List.set_cons_succ]
          have hlv := (OO.out.setRow #[.int .i64 SL, .int .i64 SH]).lv Tryz.prog (T := 100) Tryz.underlying100 rfl (by kernel_rfl)
          refine bodyPost_ret (v := .agg #[.int .i64 SL, .int .i64 SH]) (by simp [results, Tryz.results61, asAddr, hlv]) rfl ?_
          exact ⟨by rw [HS1.out, HS2.out], HB.out.setRow' hgl _⟩
end Go.Proofs.YtmafmebcgmegeaaGreatDoor
