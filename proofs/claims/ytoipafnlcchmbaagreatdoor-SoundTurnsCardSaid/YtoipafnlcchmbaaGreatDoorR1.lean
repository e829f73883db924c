/- The reference's check of a packet. -/
import Derived.Test.YtoipafnlcchmbaaGreatDoorQH
import Derived.Test.YtoipafnlcchmbaaGreatDoorQA
import Derived.WalkMore
namespace Go.Proofs.YtoipafnlcchmbaaGreatDoor
open Go.RowKit

theorem packetE_of {st kd ct : Int} {m : Nat} {ps : List Int} (hE : firstE [withinE st 0 255, withinE kd 0 255, withinE ct 0 65535, withinE (m : Int) 0 18] = 0) :
    packetE st kd ct (m : Int) ps = if eqB (List.range 18) (fun i => (cutTo m ps).getD i 0) (fun i => ps.getD i 0) then 0 else 1 := by
  unfold packetE
  rw [hE]
  simp
theorem packetE_hit {st kd ct : Int} {m k : Nat} {ps : List Int} (hps : ps.length = 18) (hE : firstE [withinE st 0 255, withinE kd 0 255, withinE ct 0 65535, withinE (m : Int) 0 18] = 0) (hmk : m ≤ k) (hk : k < 18) (h : ps.getD k 0 ≠ 0) :
    packetE st kd ct (m : Int) ps = 1 := by
  rw [packetE_of hE, if_neg]
  intro he
  have := (eqB_iff 18 (cutTo m ps) ps (cutTo_len m ps) hps).1 he
  apply h
  rw [← this, cutTo_at m ps k hk, if_neg (by omega)]
theorem packetE_miss {st kd ct : Int} {m : Nat} {ps : List Int} (hps : ps.length = 18) (hE : firstE [withinE st 0 255, withinE kd 0 255, withinE ct 0 65535, withinE (m : Int) 0 18] = 0) (h : ∀ j, m ≤ j → j < 18 → ps.getD j 0 = 0) :
    packetE st kd ct (m : Int) ps = 0 := by
  rw [packetE_of hE, if_pos]
  refine (eqB_iff 18 (cutTo m ps) ps (cutTo_len m ps) hps).2 ?_
  refine ext_getD (by rw [cutTo_len, hps]) (fun i hi => ?_)
  rw [cutTo_len] at hi
  rw [cutTo_at m ps i hi]
  by_cases hm : i < m
  · rw [if_pos hm]
  · rw [if_neg hm, h i (by omega) hi]

set_option maxHeartbeats 4000000 in
set_option maxRecDepth 100000 in
theorem refCheckPacket_any (st kd ct ln : Int) (ps : List Int) (w : World) (hps : ps.length = 18) :
    Calls Tryz.prog 71 #[.agg (pkA st kd ct ln ps)] w fun e w' => e = .returned (.int .i64 (packetE st kd ct ln ps)) ∧ Below w.heap.size w w' := by
  obtain ⟨cs, hcs⟩ : ∃ cs, cs = pkA st kd ct ln ps := ⟨_, rfl⟩
  have x0 : cs[0]? = some (.int .i64 st) := by rw [hcs]; exact pkA_0 ..
  have x1 : cs[1]? = some (.int .i64 kd) := by rw [hcs]; exact pkA_1 ..
  have x2 : cs[2]? = some (.int .i64 ct) := by rw [hcs]; exact pkA_2 ..
  have x3 : cs[3]? = some (.int .i64 ln) := by rw [hcs]; exact pkA_3 ..
  have x4 : Hid (∀ i, i < 18 → cs[4 + i]? = some (.int .u8 (ps.getD i 0))) := fun i hi => by rw [hcs]; exact pkA_4 _ _ _ _ _ _ (by omega)
  obtain ⟨E, hE⟩ : ∃ E, E = firstE [withinE st 0 255, withinE kd 0 255, withinE ct 0 65535, withinE ln 0 18] := ⟨_, rfl⟩
  have HE := Lib.hid hE
  have HPS := Lib.hid hps
  rw [← hcs]
  have HCS := Lib.hid hcs
  clear hcs hE hps
  go_enter Tryz.func71, Tryz.ntmps71
  go_upto_region 1 with fail
  obtain ⟨w0, hw0⟩ : ∃ X, X = w.alloc (.cells cs 97) := ⟨_, rfl⟩
  rw [← hw0]
  have HK : Hid (Blk w0 w.heap.size 97 cs) := by show Blk _ _ _ _; rw [hw0]; exact Blk.new _ _ _
  have HB0 : Hid (Below w.heap.size w w0) := by show Below _ _ _; rw [hw0]; exact (Below.refl _ _).alloc (Nat.le_refl _) _
  obtain ⟨gk, hgk⟩ : ∃ g, g = w.heap.size := ⟨_, rfl⟩
  rw [← hgk] at HK ⊢
  have y0 : w0.cell? ⟨gk, 0, none⟩ = some (.int .i64 st) := (HK.out.cell 0).trans x0
  have y1 : w0.cell? ⟨gk, 1, none⟩ = some (.int .i64 kd) := (HK.out.cell 1).trans x1
  have y2 : w0.cell? ⟨gk, 2, none⟩ = some (.int .i64 ct) := (HK.out.cell 2).trans x2
  have y3 : w0.cell? ⟨gk, 3, none⟩ = some (.int .i64 ln) := (HK.out.cell 3).trans x3
  clear hw0 hgk x0 x1 x2 x3
  refine wp_region_still_tail 12 (by kernel_rfl) (by kernel_rfl) ?_
  simp only [List.take_succ_cons, List.take_zero, List.drop_succ_cons, List.drop_zero]
  change wpStill _ _ (World.drew _) _ _ _
  repeat still_step
  still_call (refCheckRange_st _ _ _ _)
  repeat still_step
  still_call (refCheckRange_st _ _ _ _)
  repeat still_step
  still_call (refCheckRange_st _ _ _ _)
  repeat still_step
  still_call (refCheckRange_st _ _ _ _)
  repeat still_step
  refine wpStill_nil ?_
  change wpList _ _ _ _ _ (World.drew _)
  go_wp2_with fail
  refine Calls.mono (refFirst4 _ _ (withinE st 0 255) (withinE kd 0 255) (withinE ct 0 65535) (withinE ln 0 18) _ (by go_simp) (by go_simp) (by go_simp) (by go_simp)) ?_
  rw [show firstE [withinE st 0 255, withinE kd 0 255, withinE ct 0 65535, withinE ln 0 18] = E from HE.out.symm]
  rintro e w' ⟨rfl, rfl⟩
  obtain ⟨w1, hw1⟩ : ∃ X, X = World.drew (w0.alloc (.cells #[.int .i64 (withinE st 0 255), .int .i64 (withinE kd 0 255), .int .i64 (withinE ct 0 65535), .int .i64 (withinE ln 0 18)] 3)) := ⟨_, rfl⟩
  rw [← hw1]
  have HK1 : Hid (Blk w1 gk 97 cs) := by show Blk _ _ _ _; rw [hw1]; exact (HK.out.alloc _).drew
  have HB1 : Hid (Below w.heap.size w w1) := by show Below _ _ _; rw [hw1]; exact (HB0.out.alloc HB0.out.size _).drew
  have z3 : w1.cell? ⟨gk, 3, none⟩ = some (.int .i64 ln) := by rw [hw1, ((Below.refl w0.heap.size w0).alloc (Nat.le_refl _) _).drew.cell (p := ⟨gk, 3, none⟩) (lt_of_block HK.out)]; exact y3
  clear hw1 y0 y1 y2 y3 HK HB0
  by_cases he : E = 0
  · have h1 : (E != 0) = false := by simp [he]
    have hz := firstE_within (HE.out.symm.trans he)
    have HE0 := Lib.hid he
    clear he
    obtain ⟨m, rfl⟩ : ∃ m : Nat, ln = (m : Int) := ⟨ln.toNat, by omega⟩
    have hm : m ≤ 18 := by omega
    clear hz
    go_wp2
    go_loop [4] (fun i => ∃ k : Nat, m ≤ k ∧ k ≤ 18 ∧ i = .int .i64 k ∧ Hid (∀ j, m ≤ j → j < k → ps.getD j 0 = 0)) (fun i => 18 - (intOf i).toNat)
    case atStart => exact ⟨m, Nat.le_refl _, hm, rfl, fun j h1 h2 => by omega⟩
    case round =>
      obtain ⟨k, hmk, hk, rfl, hzs⟩ := hrel
      by_cases hlt : k < 18
      · have xk : w1.cell? ⟨gk, 4 + k, none⟩ = some (.int .u8 (ps.getD k 0)) := (HK1.out.cell (4 + k)).trans (x4.out k hlt)
        obtain ⟨b, hb⟩ : ∃ b, b = ps.getD k 0 := ⟨_, rfl⟩
        rw [← hb] at xk
        have HBK := Lib.hid hb
        clear hb
        by_cases hb0 : b = 0
        · have h2 : (b != 0) = false := by simp [hb0]
          have HB0 := Lib.hid hb0
          clear hb0
          go_wp2
          go_round
          case rel =>
            refine ⟨k + 1, by omega, by omega, by go_num, fun j h1 h2 => ?_⟩
            by_cases hj : j < k
            · exact hzs.out j h1 hj
            · obtain rfl : j = k := by omega
              rw [← HBK.out]; exact HB0.out
          case measure => simp [intOf]; omega
        · have h2 : (b != 0) = true := by simp [hb0]
          have HB0 := Lib.hid hb0
          clear hb0
          go_wp2
          go_ret
          exact ⟨ret_int (packetE_hit HPS.out (HE.out.symm.trans HE0.out) hmk hlt (by rw [← HBK.out]; exact HB0.out)).symm, HB1.out⟩
      · go_wp2
        go_ret
        exact ⟨ret_int (packetE_miss HPS.out (HE.out.symm.trans HE0.out) (fun j h1 h2 => hzs.out j h1 (by omega))).symm, HB1.out⟩
  · have h1 : (E != 0) = true := by simp [he]
    have HE0 := Lib.hid he
    clear he
    go_wp2
    go_ret
    refine ⟨ret_int ?_, HB1.out⟩
    unfold packetE
    dsimp only
    rw [← HE.out, if_neg HE0.out]
end Go.Proofs.YtoipafnlcchmbaaGreatDoor
