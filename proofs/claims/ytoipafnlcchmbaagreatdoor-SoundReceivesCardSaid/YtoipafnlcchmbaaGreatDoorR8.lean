/- Lost, where too much is lost, and where an argument has an error. -/
import Derived.Test.YtoipafnlcchmbaaGreatDoorQN
import Derived.WalkMore
import Derived.RangeFuncBox
namespace Go.Proofs.YtoipafnlcchmbaaGreatDoor
open Go.RowKit

set_option maxHeartbeats 4000000 in
set_option maxRecDepth 100000 in
theorem Lost_over (A : Option Addr) (n c : Nat) (l : List Pk) (st : Int) (w : World) (hn : n ≤ 1024) (hz : PksAt w A n l) (hv : firstInP l = 0) (hst : 0 ≤ st ∧ st ≤ 255) (hm : 256 < (lostTo st l n).2.length) :
    Calls Tryz.prog 77 #[.slice A n c, .int .i64 st] w fun e w' => ∃ v, e = .returned (.tuple #[v, .int .i64 5]) ∧ v = .slice none 0 0 ∧ Below w.heap.size w w' := by
  obtain ⟨i0, hi, hz0, hz1, hz2⟩ := info_parts infoInt
  have HZ := Lib.hid hz
  have HV := Lib.hid hv
  have HM := Lib.hid hm
  have e0 : atMostE n 1024 = 0 := by unfold atMostE; rw [if_neg (by omega)]
  have e1 : withinE st 0 255 = 0 := by unfold withinE; rw [if_neg (by omega)]
  clear hz hv hm
  go_enter Tryz.func77, Tryz.ntmps77
  go_wp2_with fail
  go_step3
  go_wp2_with fail
  refine (atMost_packet A n c 1024 _).mono ?_
  rintro e w1 ⟨rfl, rfl⟩
  rw [e0]
  go_wp2_with fail
  refine (firstIn_packet A n c l _ (by omega) HZ.out).mono ?_
  rintro e w1 ⟨rfl, hb1⟩
  rw [HV.out]
  have HZ1 := Lib.hid (HZ.out.keep hb1)
  have HB1 := Lib.hid hb1
  clear hb1
  go_wp2_with fail
  refine (checkStation_any st _).mono ?_
  rintro e w' ⟨rfl, rfl⟩
  rw [e1]
  go_wp2_with fail
  refine (first3 _ _ 0 0 0 _ (by go_simp) (by go_simp) (by go_simp)).mono ?_
  rintro e w' ⟨rfl, rfl⟩
  rw [show firstE [0, 0, 0] = 0 from rfl]
  clear e0 e1
  obtain ⟨lc, hlc⟩ : ∃ lc : Array Value, lc = #[.int .i64 0, .int .i64 0, .int .i64 0, .int .i64 0, .int .u8 0, .int .u8 0, .int .u8 0, .int .u8 0, .int .u8 0, .int .u8 0, .int .u8 0, .int .u8 0, .int .u8 0, .int .u8 0, .int .u8 0, .int .u8 0, .int .u8 0, .int .u8 0, .int .u8 0, .int .u8 0, .int .u8 0, .int .u8 0, .int .i64 (-1)] := ⟨_, rfl⟩
  have HLC := Lib.hid hlc
  have HLS : Hid (lc.size = 23) := by show _ = _; rw [hlc]; rfl
  have HL1 : Hid (lc.all (·.oneCell') = true) := by show _ = _; rw [hlc]; simp [Value.oneCell']
  have HL2 : Hid (LastC lc none) := by show LastC _ _; rw [hlc]; rfl
  have HLI : Hid ((Tryz.prog.info? 224).map (·.size) = some lc.size) := by show _ = _; rw [HLS.out]; kernel_rfl
  have HLZ : Hid ((#[.int .i64 0, .int .i64 0, .int .i64 0, .int .i64 0, .int .u8 0, .int .u8 0, .int .u8 0, .int .u8 0, .int .u8 0, .int .u8 0, .int .u8 0, .int .u8 0, .int .u8 0, .int .u8 0, .int .u8 0, .int .u8 0, .int .u8 0, .int .u8 0, .int .u8 0, .int .u8 0, .int .u8 0, .int .u8 0, .int .i64 0] : Array Value).size = lc.size) := by show _ = _; rw [HLS.out]; rfl
  clear hlc
  go_upto_region 5 with fail
  refine wp_region_lit ?_
  refine wpList_build_as rfl 224 _ rfl lc (by rw [HLC.out]; simp only [List.map_toArray, List.map_cons, List.map_nil]; exact built_last) ?_
  go_wp2_with (refine wpList_store_row rfl 224 _ _ rfl (w'.heap.size + 1) lc rfl rfl 224 _ (Blk.at_size _ _ (by simp)) HLI.out HLZ.out HL1.out ?_)
  obtain ⟨W0, hW0⟩ : ∃ X, X = ((w'.alloc (.cells #[.int .i64 0, .int .i64 0, .int .i64 0] 27)).alloc (.cells #[.int .i64 0, .int .i64 0, .int .i64 0, .int .i64 0, .int .u8 0, .int .u8 0, .int .u8 0, .int .u8 0, .int .u8 0, .int .u8 0, .int .u8 0, .int .u8 0, .int .u8 0, .int .u8 0, .int .u8 0, .int .u8 0, .int .u8 0, .int .u8 0, .int .u8 0, .int .u8 0, .int .u8 0, .int .u8 0, .int .i64 0] 224)).setRow (w'.heap.size + 1) lc := ⟨_, rfl⟩
  rw [← hW0]
  have hf := box_facts_row (W := w'.alloc (.cells #[.int .i64 0, .int .i64 0, .int .i64 0] 27)) #[.int .i64 0, .int .i64 0, .int .i64 0, .int .i64 0, .int .u8 0, .int .u8 0, .int .u8 0, .int .u8 0, .int .u8 0, .int .u8 0, .int .u8 0, .int .u8 0, .int .u8 0, .int .u8 0, .int .u8 0, .int .u8 0, .int .u8 0, .int .u8 0, .int .u8 0, .int .u8 0, .int .u8 0, .int .u8 0, .int .i64 0] lc 224 (g := w'.heap.size + 1) (by simp) W0 hW0
  have HLK := Lib.hid hf.1
  have HB2 : Hid (Below w.heap.size w W0) := (HB1.out.alloc HB1.out.size _).trans (hf.2.mono (by have := HB1.out.size; simp; omega))
  have HZ2 : Hid (PksAt W0 A n l) := (HZ1.out.keep ((Below.refl _ _).alloc (Nat.le_refl _) _)).keep hf.2
  have hlb : w.heap.size ≤ w'.heap.size + 1 := by have := HB1.out.size; omega
  obtain ⟨b, hb⟩ : ∃ b, b = w'.heap.size + 1 := ⟨_, rfl⟩
  rw [← hb] at HLK hlb ⊢
  clear hf hW0 hb HZ1 HB1 HLC
  go_step3
  go_wp2
  go_loopw [7, 9, 10, 11, 27] (fun v _ _ _ i wr => ∃ k : Nat, k ≤ n ∧ i = .int .i64 k ∧ OwnI wr w.heap.size v (lostTo st l k).2 ∧ LastAt wr b (lostTo st l k).1 ∧ (lostTo st l k).2.length ≤ 256 ∧ Below w.heap.size w wr) (fun _ _ _ _ i _ => n - (intOf i).toNat)
  case atStart => exact ⟨0, Nat.zero_le _, rfl, OwnI.nil _ _, ⟨lc, HLK.out, HLS.out, HL2.out⟩, by simp [lostTo], HB2.out⟩
  case round =>
    clear HLK HLS HL1 HL2 HLI HLZ HB2
    obtain ⟨k, hk, rfl, hown, hlast, hle, hbw⟩ := hrel
    have HLE := Lib.hid hle
    clear hle
    by_cases hlt : k < n
    · obtain ⟨pb, off, rfl, hcc⟩ := (HZ.out.keep hbw).2.2 (by omega)
      obtain ⟨p, hp⟩ : ∃ p, p = l.getD k Pk.none := ⟨_, rfl⟩
      have hps := HZ.out.2.1 k hlt
      have c1 := hcc k hlt
      rw [← hp] at c1 hps
      have HCT : Hid (0 ≤ p.ct ∧ p.ct ≤ 65535) := by
        show _ ∧ _
        refine Pk.err_ct ?_
        rw [hp]; exact firstInP_zero l HV.out k (by rw [HZ.out.1]; exact hlt)
      have HST : Hid (lostTo st l (k + 1) = lostStep st (lostTo st l k) p) := by rw [hp]; exact rfl
      obtain ⟨cs, hcs⟩ : ∃ cs, cs = p.cells := ⟨_, rfl⟩
      have hsz : Hid (cs.size = 22) := by rw [hcs]; exact Pk.size hps
      have hone : Hid (cs.all (·.oneCell') = true) := by rw [hcs]; exact pkA_one ..
      have HC0 : Hid (cs[0]? = some (.int .i64 p.st)) := by rw [hcs]; exact pkA_0 ..
      have HC2 : Hid (cs[2]? = some (.int .i64 p.ct)) := by rw [hcs]; exact pkA_2 ..
      have C1 : Hid (∀ j, j < cs.size → wr.cell? ⟨pb, off + k * 22 + j, none⟩ = cs[j]?) := by
        show ∀ j, _ → _
        rw [hsz.out, hcs]; exact c1
      have hinfo : Hid ((Tryz.prog.info? 101).map (·.size) = some cs.size) := by show _ = _; rw [hsz.out]; kernel_rfl
      have BZ : Hid (Blk (wr.alloc (.cells #[.int .i64 0, .int .i64 0, .int .i64 0, .int .i64 0, .int .u8 0, .int .u8 0, .int .u8 0, .int .u8 0, .int .u8 0, .int .u8 0, .int .u8 0, .int .u8 0, .int .u8 0, .int .u8 0, .int .u8 0, .int .u8 0, .int .u8 0, .int .u8 0, .int .u8 0, .int .u8 0, .int .u8 0, .int .u8 0] 101)) wr.heap.size 101 #[.int .i64 0, .int .i64 0, .int .i64 0, .int .i64 0, .int .u8 0, .int .u8 0, .int .u8 0, .int .u8 0, .int .u8 0, .int .u8 0, .int .u8 0, .int .u8 0, .int .u8 0, .int .u8 0, .int .u8 0, .int .u8 0, .int .u8 0, .int .u8 0, .int .u8 0, .int .u8 0, .int .u8 0, .int .u8 0]) := Blk.new wr _ _
      have ho : Hid ((#[.int .i64 0, .int .i64 0, .int .i64 0, .int .i64 0, .int .u8 0, .int .u8 0, .int .u8 0, .int .u8 0, .int .u8 0, .int .u8 0, .int .u8 0, .int .u8 0, .int .u8 0, .int .u8 0, .int .u8 0, .int .u8 0, .int .u8 0, .int .u8 0, .int .u8 0, .int .u8 0, .int .u8 0, .int .u8 0] : Array Value).size = cs.size) := by show _ = _; rw [hsz.out]; rfl
      have HOW := Lib.hid hown
      have HLA := Lib.hid hlast
      have HBW := Lib.hid hbw
      clear hcc hp c1 hcs hown hlast hbw hps
      go_upto_region 9 with (first
        | (refine wpList_load_midA rfl 101 _ rfl pb (off + k * 22) rfl cs _ C1.out Tryz.underlying101 rfl hinfo.out ?_)
        | (refine wpList_store_row rfl 101 _ _ rfl wr.heap.size cs rfl rfl 101 _ BZ.out hinfo.out ho.out hone.out ?_))
      obtain ⟨W1, hW1⟩ : ∃ X, X = (wr.alloc (.cells #[.int .i64 0, .int .i64 0, .int .i64 0, .int .i64 0, .int .u8 0, .int .u8 0, .int .u8 0, .int .u8 0, .int .u8 0, .int .u8 0, .int .u8 0, .int .u8 0, .int .u8 0, .int .u8 0, .int .u8 0, .int .u8 0, .int .u8 0, .int .u8 0, .int .u8 0, .int .u8 0, .int .u8 0, .int .u8 0] 101)).setRow wr.heap.size cs := ⟨_, rfl⟩
      rw [← hW1]
      have hf := box_facts_row (W := wr) #[.int .i64 0, .int .i64 0, .int .i64 0, .int .i64 0, .int .u8 0, .int .u8 0, .int .u8 0, .int .u8 0, .int .u8 0, .int .u8 0, .int .u8 0, .int .u8 0, .int .u8 0, .int .u8 0, .int .u8 0, .int .u8 0, .int .u8 0, .int .u8 0, .int .u8 0, .int .u8 0, .int .u8 0, .int .u8 0] cs 101 rfl W1 hW1
      have HQ := Lib.hid hf.1
      have HOW1 := Lib.hid (HOW.out.below hf.2)
      have HLA1 := Lib.hid (HLA.out.below hf.2)
      have HBW1 := Lib.hid (HBW.out.trans (hf.2.mono HBW.out.size))
      obtain ⟨q, hq⟩ : ∃ q, q = wr.heap.size := ⟨_, rfl⟩
      rw [← hq] at HQ ⊢
      clear hf hW1 HOW HLA HBW C1 BZ ho hq
      have hsz1 : w.heap.size ≤ W1.heap.size := HBW1.out.size
      have x0 : W1.cell? ⟨q, 0, none⟩ = some (.int .i64 p.st) := (HQ.out.cell 0).trans HC0.out
      by_cases hs : p.st = st
      · have hn0 : (p.st != st) = false := by simp [hs]
        have hone2 : Hid ((cs.push (.int .i64 (k : Int))).all (·.oneCell') = true) := by show _ = _; rw [Array.all_push, hone.out]; rfl
        have hinfo2 : Hid ((Tryz.prog.info? 224).map (·.size) = some (cs.push (.int .i64 (k : Int))).size) := by show _ = _; rw [Array.size_push, hsz.out]; kernel_rfl
        obtain ⟨lc2, hlb2, hls2, hl2⟩ := HLA1.out
        have HLS2 : Hid (lc2.size = (cs.push (.int .i64 (k : Int))).size) := by show _ = _; rw [hls2, Array.size_push, hsz.out]
        have HS := Lib.hid hs
        have HOW := Lib.hid HOW1.out
        have HBW := Lib.hid HBW1.out
        have HLB := Lib.hid hlb2
        clear HLA1 hs HOW1 HBW1 hls2 hlb2
        cases hla : (lostTo st l k).1 with
        | none =>
          rw [hla] at hl2
          have y22 : W1.cell? ⟨b, 22, none⟩ = some (.int .i64 (-1)) := (HLB.out.cell 22).trans hl2
          have HNX : Hid (lostTo st l (k + 1) = (some p.ct, (lostTo st l k).2)) := by
            show _ = _
            rw [HST.out]; unfold lostStep; rw [if_pos HS.out, hla]
          have hm1 : ((-1 : Int) != -1) = false := rfl
          clear hl2 hla HST
          go_upto_region 16 with fail
          go_wp2_with (first
            | (refine wpList_load_row rfl 101 _ rfl q rfl 101 cs (0, 0) _ HQ.out Tryz.underlying101 rfl hinfo.out ?_)
            | (refine wpList_build_as rfl 224 _ rfl (cs.push (.int .i64 (k : Int))) (by simp only [List.map_toArray, List.map_cons, List.map_nil]; exact built_placed cs hsz.out (k : Int)) ?_)
            | (refine wpList_store_row rfl 224 _ _ rfl b (cs.push (.int .i64 (k : Int))) rfl rfl 224 _ HLB.out hinfo2.out HLS2.out hone2.out ?_))
          have HP2 : Hid (LastAt (W1.setRow b (cs.push (.int .i64 (k : Int)))) b (some p.ct)) := ⟨_, HLB.out.setRow _, by rw [Array.size_push, hsz.out], by rw [Array.getElem?_push_lt (by rw [hsz.out]; omega)]; exact (Array.getElem?_eq_getElem _).symm.trans HC2.out, HCT.out, k, by omega, by rw [← hsz.out, Array.getElem?_push_size]⟩
          have HO2 := Lib.hid (HOW.out.keep_row HLB.out (by decide) (cs.push (.int .i64 (k : Int))))
          have HB9 := Lib.hid (HBW.out.setRow' hlb (cs.push (.int .i64 (k : Int))))
          clear HLB HOW HBW HQ
          go_wp2
          go_roundw
          case rel =>
            refine ⟨k + 1, by omega, by go_num, ?_, ?_, ?_, HB9.out⟩
            · rw [HNX.out]; exact HO2.out
            · rw [HNX.out]; exact HP2.out
            · rw [HNX.out]; exact HLE.out
          case measure => simp [intOf]; omega
        | some a =>
          rw [hla] at hl2
          obtain ⟨hl3, ha, q2, hq2, hl4⟩ := hl2
          have y22 : W1.cell? ⟨b, 22, none⟩ = some (.int .i64 (q2 : Int)) := (HLB.out.cell 22).trans hl4
          have y2 : W1.cell? ⟨b, 2, none⟩ = some (.int .i64 a) := (HLB.out.cell 2).trans hl3
          have HNX : Hid (lostTo st l (k + 1) = (some p.ct, (lostTo st l k).2 ++ gapTo a (gapN a p.ct))) := by
            show _ = _
            rw [HST.out]; unfold lostStep; rw [if_pos HS.out, hla]
          obtain ⟨acc, hacc⟩ : ∃ acc, acc = (lostTo st l k).2 := ⟨_, rfl⟩
          rw [← hacc] at HNX HOW
          rw [← hacc] at HLE
          have HA := Lib.hid ha
          have hq3 : ((q2 : Int) != -1) = true := by simp
          clear hl3 hl4 hla HST hacc ha
          go_wp2_with fail
          refine (following_any a _ HA.out.1 HA.out.2).mono ?_
          rintro e w' ⟨rfl, rfl⟩
          go_wp2
          go_loopw [7, 11] (fun v c wr2 => ∃ j : Nat, j ≤ gapN a p.ct ∧ c = .int .i64 ((a + 1 + (j : Int)) % 65536) ∧ OwnI wr2 w.heap.size v (acc ++ gapTo a j) ∧ acc.length + j ≤ 256 ∧ Blk wr2 b 224 lc2 ∧ Blk wr2 q 101 cs ∧ Below w.heap.size w wr2) (fun _ c _ => ((p.ct - intOf c) % 65536).toNat)
          case atStart => exact ⟨0, Nat.zero_le _, by show Value.int .i64 (followE a) = _; unfold followE; simp, by simpa [gapTo] using HOW.out, HLE.out, HLB.out, HQ.out, HBW.out⟩
          case round =>
            clear HOW HLB HQ HBW y22 y2 x0 hsz1
            obtain ⟨j, hj, rfl, hown, hln, hlb3, hq4, hbw⟩ := hrel
            have HLN := Lib.hid hln
            have hsz1 : w.heap.size ≤ wr.heap.size := hbw.size
            have HLB := Lib.hid hlb3
            have HQ := Lib.hid hq4
            have HBW := Lib.hid hbw
            have x2 : wr.cell? ⟨q, 2, none⟩ = some (.int .i64 p.ct) := (HQ.out.cell 2).trans HC2.out
            have hgs := gap_step a p.ct j HCT.out hj
            obtain ⟨cc, hcc⟩ : ∃ cc, cc = (a + 1 + (j : Int)) % 65536 := ⟨_, rfl⟩
            rw [← hcc] at hgs ⊢
            have HCC := Lib.hid hcc
            have hcb : 0 ≤ cc ∧ cc ≤ 65535 := by omega
            clear hlb3 hq4 hbw hcc
            by_cases hje : j = gapN a p.ct
            · have hcc2 : cc = p.ct := hgs.mpr hje
              have hn1 : (cc != p.ct) = false := by simp [hcc2]
              rw [hje] at hown
              have HLN2 : Hid (acc.length + gapN a p.ct ≤ 256) := by show _ ≤ _; rw [← hje]; exact HLN.out
              have HOW := Lib.hid hown
              clear hown hgs hj hje hcc2 HCC hcb HLN HA hln
              go_wp2_with (first
                | (refine wpList_load_row rfl 101 _ rfl q rfl 101 cs (0, 0) _ HQ.out Tryz.underlying101 rfl hinfo.out ?_)
                | (refine wpList_build_as rfl 224 _ rfl (cs.push (.int .i64 (k : Int))) (by simp only [List.map_toArray, List.map_cons, List.map_nil]; exact built_placed cs hsz.out (k : Int)) ?_)
                | (refine wpList_store_row rfl 224 _ _ rfl b (cs.push (.int .i64 (k : Int))) rfl rfl 224 _ HLB.out hinfo2.out HLS2.out hone2.out ?_))
              have HP2 : Hid (LastAt (wr.setRow b (cs.push (.int .i64 (k : Int)))) b (some p.ct)) := ⟨_, HLB.out.setRow _, by rw [Array.size_push, hsz.out], by rw [Array.getElem?_push_lt (by rw [hsz.out]; omega)]; exact (Array.getElem?_eq_getElem _).symm.trans HC2.out, HCT.out, k, by omega, by rw [← hsz.out, Array.getElem?_push_size]⟩
              have HO2 := Lib.hid (HOW.out.keep_row HLB.out (by decide) (cs.push (.int .i64 (k : Int))))
              have HB9 := Lib.hid (HBW.out.setRow' hlb (cs.push (.int .i64 (k : Int))))
              clear HLB HOW HBW HQ
              go_wp2
              go_roundw
              case rel =>
                refine ⟨k + 1, by omega, by go_num, ?_, ?_, ?_, HB9.out⟩
                · rw [HNX.out]; exact HO2.out
                · rw [HNX.out]; exact HP2.out
                · rw [HNX.out, List.length_append, gapTo_len]; exact HLN2.out
              case measure => simp [intOf]; omega
            · have hcn : cc ≠ p.ct := fun h => hje (hgs.mp h)
              have hn1 : (cc != p.ct) = true := by simp [hcn]
              have hown0 : wr.ownsRow w.heap.size 3 1 u7 (acc.length + j) ((acc ++ gapTo a j).map (Value.int .i64)) := by
                have := hown
                unfold OwnI at this
                rwa [List.length_append, gapTo_len] at this
              rcases Nat.lt_or_ge 256 (acc.length + j + 1) with hmax | hmax
              · have hd : decide ((256 : Int) < (acc.length : Int) + (j : Int) + 1) = true := decide_eq_true (by omega)
                clear hown hgs
                go_wp2_with (at_builtin; refine wpList_append_own _ rfl _ _ 26 rfl w.heap.size 3 i0 (.int .i64 0) 1 8 Tryz.underlying26 hi hz0 hz1 hz2 rfl (by decide) _ _ _ rfl (World.ownsRow.alloc hown0 _) ⟨wr.heap.size, 0, none⟩ 1 1 [.int .i64 cc] rfl rfl (cell_one_new _ _ _) (by simp [Value.oneCell']) (by unfold maxLen; omega) (by omega) (by simp; omega) ?_; intro v' w1 hown' hgrow _; obtain ⟨g', cap', rfl⟩ := ownsRow_succ hown')
                have B1 : Below w.heap.size w w1 := Below.grown (HBW.out.alloc (by omega) _) hgrow (by simp; omega) (fun j hj => (hown0.lt j hj).1)
                have e7 : Hid (atMostE (acc.length + j + 1) 256 = 5) := by
                  show _ = _
                  unfold atMostE
                  rw [if_pos (by omega)]
                clear hown' hgrow hown0 HBW HLB HQ x2 hd hmax
                go_wp2_with fail
                refine (atMost_int _ _ _ 256 _).mono ?_
                rintro e w' ⟨rfl, rfl⟩
                rw [e7.out]
                go_wp2
                delta Exit.noGoto
                dsimp only
                go_ret2
                exact ⟨_, rfl, rfl, B1⟩
              have hd : decide ((256 : Int) < (acc.length : Int) + (j : Int) + 1) = false := decide_eq_false (by omega)
              clear hown hgs
              go_wp2_with (at_builtin; refine wpList_append_own _ rfl _ _ 26 rfl w.heap.size 3 i0 (.int .i64 0) 1 8 Tryz.underlying26 hi hz0 hz1 hz2 rfl (by decide) _ _ _ rfl (World.ownsRow.alloc hown0 _) ⟨wr.heap.size, 0, none⟩ 1 1 [.int .i64 cc] rfl rfl (cell_one_new _ _ _) (by simp [Value.oneCell']) (by unfold maxLen; omega) (by omega) (by simp; omega) ?_; intro v' w1 hown' hgrow _; obtain ⟨g', cap', rfl⟩ := ownsRow_succ hown')
              have R : OwnI w1 w.heap.size (.slice (some ⟨g', 0, none⟩) (acc.length + j + 1) cap') (acc ++ gapTo a (j + 1)) := by
                unfold OwnI
                rw [gapTo_succ, ← List.append_assoc, ← HCC.out, List.length_append, List.length_append, gapTo_len, List.map_append]
                exact hown'
              have B1 : Below w.heap.size w w1 := Below.grown (HBW.out.alloc (by omega) _) hgrow (by simp; omega) (fun j hj => (hown0.lt j hj).1)
              have L1 : Blk w1 b 224 lc2 := OwnI.blk_grown (World.ownsRow.alloc hown0 _) HLB.out (by decide) ((Below.refl _ _).alloc (Nat.le_refl _) _) hgrow
              have Q1 : Blk w1 q 101 cs := OwnI.blk_grown (World.ownsRow.alloc hown0 _) HQ.out (by decide) ((Below.refl _ _).alloc (Nat.le_refl _) _) hgrow
              clear hown' hgrow hown0 HBW HLB HQ x2
              go_wp2_with fail
              refine (following_any cc _ hcb.1 hcb.2).mono ?_
              rintro e w' ⟨rfl, rfl⟩
              go_wp2
              go_roundw
              case rel =>
                refine ⟨j + 1, by omega, ?_, R, by omega, L1, Q1, B1⟩
                have hcf : followE cc = (a + 1 + ((j + 1 : Nat) : Int)) % 65536 := by
                  have := HCC.out
                  unfold followE
                  push_cast
                  omega
                rw [← hcf]
              case measure =>
                have hc9 := HCT.out
                simp only [intOf, followE]
                omega
      · have hn0 : (p.st != st) = true := by simp [hs]
        have HNX : Hid (lostTo st l (k + 1) = lostTo st l k) := by
          show _ = _
          rw [HST.out]; unfold lostStep; rw [if_neg hs]
        clear hs HST
        go_wp2
        go_roundw
        case rel =>
          refine ⟨k + 1, by omega, by go_num, ?_, ?_, ?_, HBW1.out⟩
          · rw [HNX.out]; exact HOW1.out
          · rw [HNX.out]; exact HLA1.out
          · rw [HNX.out]; exact HLE.out
        case measure => simp [intOf]; omega
    · obtain rfl : k = n := by omega
      exact absurd HM.out (by have := HLE.out; omega)

def lostPre (l : List Pk) (st : Int) : Int := firstE [atMostE l.length 1024, firstInP l, withinE st 0 255]
set_option maxHeartbeats 1000000 in
set_option maxRecDepth 100000 in
theorem Lost_bad (A : Option Addr) (n c : Nat) (l : List Pk) (st : Int) (w : World) (hn : n ≤ 1000000) (hz : PksAt w A n l) (he : lostPre l st ≠ 0) :
    Calls Tryz.prog 77 #[.slice A n c, .int .i64 st] w fun e w' => ∃ v, e = .returned (.tuple #[v, .int .i64 (lostPre l st)]) ∧ v = .slice none 0 0 ∧ Below w.heap.size w w' := by
  have HZ := Lib.hid hz
  obtain ⟨E, hE⟩ : ∃ E, E = lostPre l st := ⟨_, rfl⟩
  rw [← hE] at he ⊢
  have HE := Lib.hid hE
  have h1 : (E != 0) = true := by simp [he]
  clear hz hE
  go_enter Tryz.func77, Tryz.ntmps77
  go_wp2_with fail
  go_step3
  go_wp2_with fail
  refine (atMost_packet A n c 1024 _).mono ?_
  rintro e w1 ⟨rfl, rfl⟩
  go_wp2_with fail
  refine (firstIn_packet A n c l _ (by omega) HZ.out).mono ?_
  rintro e w1 ⟨rfl, hb1⟩
  have HB1 := Lib.hid hb1
  clear hb1
  go_wp2_with fail
  refine (checkStation_any st _).mono ?_
  rintro e w' ⟨rfl, rfl⟩
  go_wp2_with fail
  refine (first3 _ _ (atMostE n 1024) (firstInP l) (withinE st 0 255) _ (by go_simp) (by go_simp) (by go_simp)).mono ?_
  rintro e w' ⟨rfl, rfl⟩
  have h2 : firstE [atMostE n 1024, firstInP l, withinE st 0 255] = E := by rw [HE.out]; unfold lostPre; rw [HZ.out.1]
  rw [h2]
  clear h2
  go_wp2
  delta Exit.noGoto
  dsimp only
  go_ret2
  exact ⟨_, rfl, rfl, HB1.out.alloc HB1.out.size _⟩
/-- Lost, whatever its arguments: the error. -/
def lostE (l : List Pk) (st : Int) : Int := if lostPre l st = 0 then (if (lostTo st l l.length).2.length ≤ 256 then 0 else 5) else lostPre l st
def lostL (l : List Pk) (st : Int) : List Int := if lostPre l st = 0 then (if (lostTo st l l.length).2.length ≤ 256 then (lostTo st l l.length).2 else []) else []
theorem Lost_any (A : Option Addr) (n c : Nat) (l : List Pk) (st : Int) (w : World) (hn : n ≤ 1000000) (hz : PksAt w A n l) :
    Calls Tryz.prog 77 #[.slice A n c, .int .i64 st] w fun e w' => ∃ v, e = .returned (.tuple #[v, .int .i64 (lostE l st)]) ∧ OwnI w' w.heap.size v (lostL l st) ∧ Below w.heap.size w w' := by
  by_cases he : lostPre l st = 0
  · have h3 := firstE_zero he
    have a1 := h3 _ (List.mem_cons_self)
    have a2 := h3 (firstInP l) (by simp)
    have a3 := h3 (withinE st 0 255) (by simp)
    have hn2 : n ≤ 1024 := by
      unfold atMostE at a1
      rw [hz.1] at a1
      split at a1 <;> omega
    have hst := withinE_zero a3
    by_cases hm : (lostTo st l l.length).2.length ≤ 256
    · have e1 : lostE l st = 0 := by unfold lostE; rw [if_pos he, if_pos hm]
      have e2 : lostL l st = (lostTo st l n).2 := by unfold lostL; rw [if_pos he, if_pos hm, hz.1]
      rw [e1, e2]
      exact Lost_of A n c l st w hn2 hz a2 hst (by rw [← hz.1]; exact hm)
    · have e1 : lostE l st = 5 := by unfold lostE; rw [if_pos he, if_neg hm]
      have e2 : lostL l st = [] := by unfold lostL; rw [if_pos he, if_neg hm]
      rw [e1, e2]
      refine (Lost_over A n c l st w hn2 hz a2 hst (by rw [← hz.1]; omega)).mono ?_
      rintro e w' ⟨v, h1, rfl, h2⟩
      exact ⟨_, h1, OwnI.nil _ _, h2⟩
  · have e1 : lostE l st = lostPre l st := by unfold lostE; rw [if_neg he]
    have e2 : lostL l st = [] := by unfold lostL; rw [if_neg he]
    rw [e1, e2]
    refine (Lost_bad A n c l st w hn hz he).mono ?_
    rintro e w' ⟨v, h1, rfl, h2⟩
    exact ⟨_, h1, OwnI.nil _ _, h2⟩
end Go.Proofs.YtoipafnlcchmbaaGreatDoor
