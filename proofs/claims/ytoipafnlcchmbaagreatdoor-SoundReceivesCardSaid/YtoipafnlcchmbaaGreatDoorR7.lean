/- The reference's Lost. -/
import Derived.Test.YtoipafnlcchmbaaGreatDoorQN
import Derived.Test.YtoipafnlcchmbaaGreatDoorR6
namespace Go.Proofs.YtoipafnlcchmbaaGreatDoor
open Go.RowKit

def lostErr (st : Int) (l : List Pk) : Int := if (lostTo st l l.length).2.length ≤ 256 then 0 else 5
def lostVal (st : Int) (l : List Pk) : List Int := if (lostTo st l l.length).2.length ≤ 256 then (lostTo st l l.length).2 else []
def lastV : Option Int → Int
  | none => -1
  | some a => a
def LastIn (o : Option Int) : Prop := ∀ a, o = some a → 0 ≤ a ∧ a ≤ 65535

set_option maxHeartbeats 4000000 in
set_option maxRecDepth 100000 in
theorem refLost_any (A : Option Addr) (n c : Nat) (l : List Pk) (st : Int) (w : World) (hn : n ≤ 1024) (hz : PksAt w A n l) (hv : firstInP l = 0) :
    Calls Tryz.prog 82 #[.slice A n c, .int .i64 st] w fun e w' => ∃ v, e = .returned (.tuple #[v, .int .i64 (lostErr st l)]) ∧ OwnI w' w.heap.size v (lostVal st l) ∧ Below w.heap.size w w' := by
  obtain ⟨i0, hi, hz0, hz1, hz2⟩ := info_parts infoInt
  have HZ := Lib.hid hz
  have HV := Lib.hid hv
  have HLN : Hid (l.length = n) := hz.1
  clear hz hv
  go_enter Tryz.func82, Tryz.ntmps82
  go_wp2
  go_loopw [6, 7, 8, 9] (fun v la i _ wr => ∃ k : Nat, k ≤ n ∧ i = .int .i64 k ∧ la = .int .i64 (lastV (lostTo st l k).1) ∧ LastIn (lostTo st l k).1 ∧ OwnI wr w.heap.size v (lostTo st l k).2 ∧ (lostTo st l k).2.length ≤ 256 ∧ Below w.heap.size w wr) (fun _ _ i _ _ => n - (intOf i).toNat)
  case atStart => exact ⟨0, Nat.zero_le _, rfl, rfl, fun a h => by simp [lostTo] at h, OwnI.nil _ _, by simp [lostTo], Below.refl _ _⟩
  case round =>
    obtain ⟨k, hk, rfl, rfl, hlast, hown, hle, hbw⟩ := hrel
    by_cases hlt : k < n
    · obtain ⟨pb, off, rfl, hcc⟩ := (HZ.out.keep hbw).2.2 (by omega)
      obtain ⟨p, hp⟩ : ∃ p, p = l.getD k Pk.none := ⟨_, rfl⟩
      have hps := HZ.out.2.1 k hlt
      have hc1 := hcc k hlt
      rw [← hp] at hc1 hps
      have HCT : Hid (0 ≤ p.ct ∧ p.ct ≤ 65535) := by
        show _ ∧ _
        refine Pk.err_ct ?_
        rw [hp]; exact firstInP_zero l HV.out k (by rw [HZ.out.1]; exact hlt)
      have HST : Hid (lostTo st l (k + 1) = lostStep st (lostTo st l k) p) := by rw [hp]; exact rfl
      have C0 : Hid (wr.cell? ⟨pb, off + k * 22, none⟩ = some (.int .i64 p.st)) := (hc1 0 (by omega)).trans (pkA_0 ..)
      have CW : Hid (w.cell? ⟨pb, off + k * 22 + 2, none⟩ = some (.int .i64 p.ct)) := by
        obtain ⟨b', off', he, hh⟩ := HZ.out.2.2 (by omega)
        cases he
        have := hh k hlt 2 (by omega)
        rw [← hp] at this
        exact this.trans (pkA_2 ..)
      have C2 : Hid (wr.cell? ⟨pb, off + k * 22 + 2, none⟩ = some (.int .i64 p.ct)) := (hc1 2 (by omega)).trans (pkA_2 ..)
      have HOW := Lib.hid hown
      have HBW := Lib.hid hbw
      have HLE := Lib.hid hle
      have HLA := Lib.hid hlast
      have hlt' : (k : Int) < (n : Int) := by omega
      have HP := Lib.hid hp
      clear hcc hp hc1 hown hbw hps hle hlast
      have x0 := C0.out
      by_cases hs : p.st = st
      · have hn0 : (p.st != st) = false := by simp [hs]
        have HS := Lib.hid hs
        clear hs
        cases hla : (lostTo st l k).1 with
        | none =>
          have HNX : Hid (lostTo st l (k + 1) = (some p.ct, (lostTo st l k).2)) := by
            show _ = _
            rw [HST.out]; unfold lostStep; rw [if_pos HS.out, hla]
          have x2 := C2.out
          simp only [lastV]
          clear hla HST C0 C2
          go_wp2
          go_loopw [6, 9] (fun v cc wr2 => cc = .int .i64 0 ∧ v = u6 ∧ wr2 = wr) (fun _ _ _ => 0)
          case atStart => exact ⟨rfl, rfl, rfl⟩
          case round =>
            obtain ⟨rfl, rfl, hwr⟩ := hrel
            subst hwr
            go_wp2
            go_roundw
            case rel =>
              refine ⟨k + 1, by omega, by go_num, ?_, ?_, ?_, ?_, HBW.out⟩
              · rw [HNX.out]
              · rw [HNX.out]; intro a ha; cases ha; exact HCT.out
              · rw [HNX.out]; exact HOW.out
              · rw [HNX.out]; exact HLE.out
            case measure => simp [intOf]; omega
        | some a =>
          have HNX : Hid (lostTo st l (k + 1) = (some p.ct, (lostTo st l k).2 ++ gapTo a (gapN a p.ct))) := by
            show _ = _
            rw [HST.out]; unfold lostStep; rw [if_pos HS.out, hla]
          have ha := HLA.out a hla
          have HA := Lib.hid ha
          obtain ⟨acc, hacc⟩ : ∃ acc, acc = (lostTo st l k).2 := ⟨_, rfl⟩
          rw [← hacc] at HNX HOW HLE
          simp only [lastV]
          clear hla HST hacc HLA
          go_wp2
          go_loopw [6, 9] (fun v cc wr2 => ∃ j : Nat, j ≤ gapN a p.ct ∧ cc = .int .i64 ((a + 1 + (j : Int)) % 65536) ∧ OwnI wr2 w.heap.size v (acc ++ gapTo a j) ∧ acc.length + j ≤ 256 ∧ Below w.heap.size w wr2) (fun _ cc _ => ((p.ct - intOf cc) % 65536).toNat)
          case atStart => exact ⟨0, by omega, by simp, by simpa [gapTo] using HOW.out, HLE.out, HBW.out⟩
          case round =>
            obtain ⟨j, hj, rfl, hown, hln, hbw2⟩ := hrel
            have hgs := gap_step a p.ct j HCT.out hj
            obtain ⟨cc, hcc⟩ : ∃ cc, cc = (a + 1 + (j : Int)) % 65536 := ⟨_, rfl⟩
            rw [← hcc] at hgs ⊢
            have HCC := Lib.hid hcc
            have hcb : 0 ≤ cc ∧ cc ≤ 65535 := by omega
            have y2 : wr.cell? ⟨pb, off + k * 22 + 2, none⟩ = some (.int .i64 p.ct) := (hbw2.cell (p := ⟨pb, off + k * 22 + 2, none⟩) (World.block_lt_of_cell? _ _ CW.out)).trans CW.out
            have HB2 := Lib.hid hbw2
            have hsz1 : w.heap.size ≤ wr.heap.size := hbw2.size
            clear hcc hbw2
            by_cases hje : j = gapN a p.ct
            · have hcc2 : cc = p.ct := hgs.mpr hje
              have hn1 : (cc != p.ct) = false := by simp [hcc2]
              rw [hje] at hown hln
              have HOW := Lib.hid hown
              have HLN2 := Lib.hid hln
              clear hown hgs hj hje hcc2 HCC hcb hln
              go_wp2
              go_roundw
              case rel =>
                refine ⟨k + 1, by omega, by go_num, ?_, ?_, ?_, ?_, HB2.out⟩
                · rw [HNX.out]
                · rw [HNX.out]; intro x hx; cases hx; exact HCT.out
                · rw [HNX.out]; exact HOW.out
                · rw [HNX.out, List.length_append, gapTo_len]; exact HLN2.out
              case measure => simp [intOf]; omega
            · have hcn : cc ≠ p.ct := fun h => hje (hgs.mp h)
              have hn1 : (cc != p.ct) = true := by simp [hcn]
              have hown0 : wr.ownsRow w.heap.size 3 1 u6 (acc.length + j) ((acc ++ gapTo a j).map (Value.int .i64)) := by
                have := hown
                unfold OwnI at this
                rwa [List.length_append, gapTo_len] at this
              clear hown hgs
              by_cases hmax : acc.length + j + 1 ≤ 256
              · have hd : decide ((256 : Int) < (acc.length : Int) + (j : Int) + 1) = false := decide_eq_false (by omega)
                go_wp2_with (at_builtin; refine wpList_append_own _ rfl _ _ 26 rfl w.heap.size 3 i0 (.int .i64 0) 1 8 Tryz.underlying26 hi hz0 hz1 hz2 rfl (by decide) _ _ _ rfl (World.ownsRow.alloc hown0 _) ⟨wr.heap.size, 0, none⟩ 1 1 [.int .i64 cc] rfl rfl (cell_one_new _ _ _) (by simp [Value.oneCell']) (by unfold maxLen; omega) (by omega) (by simp; omega) ?_; intro v' w1 hown' hgrow _; obtain ⟨g', cap', rfl⟩ := ownsRow_succ hown')
                have R : OwnI w1 w.heap.size (.slice (some ⟨g', 0, none⟩) (acc.length + j + 1) cap') (acc ++ gapTo a (j + 1)) := by
                  unfold OwnI
                  rw [gapTo_succ, ← List.append_assoc, ← HCC.out, List.length_append, List.length_append, gapTo_len, List.map_append]
                  exact hown'
                have B1 : Below w.heap.size w w1 := Below.grown (HB2.out.alloc (by omega) _) hgrow (by simp; omega) (fun j hj => (hown0.lt j hj).1)
                clear hown' hgrow hown0 HB2 y2
                go_wp2
                go_roundw
                case rel =>
                  refine ⟨j + 1, by omega, ?_, R, by omega, B1⟩
                  have h9 := HCC.out
                  have e9 : (cc + 1) % 65536 = (a + 1 + ((j + 1 : Nat) : Int)) % 65536 := by push_cast; omega
                  rw [← e9]
                case measure =>
                  have hc9 := HCT.out
                  clear HCC
                  simp only [intOf]
                  omega
              · have hd : decide ((256 : Int) < (acc.length : Int) + (j : Int) + 1) = true := decide_eq_true (by omega)
                have E1 : Hid (lostErr st l = 5 ∧ lostVal st l = []) := by
                  have h1 : (lostTo st l (k + 1)).2.length ≤ (lostTo st l l.length).2.length := lostTo_mono st l (k + 1) l.length (by rw [HLN.out]; omega)
                  rw [HNX.out, List.length_append, gapTo_len] at h1
                  have h2 : ¬ (lostTo st l l.length).2.length ≤ 256 := by omega
                  unfold lostErr lostVal
                  rw [if_neg h2, if_neg h2]
                  exact ⟨rfl, rfl⟩
                go_wp2_with (at_builtin; refine wpList_append_own _ rfl _ _ 26 rfl w.heap.size 3 i0 (.int .i64 0) 1 8 Tryz.underlying26 hi hz0 hz1 hz2 rfl (by decide) _ _ _ rfl (World.ownsRow.alloc hown0 _) ⟨wr.heap.size, 0, none⟩ 1 1 [.int .i64 cc] rfl rfl (cell_one_new _ _ _) (by simp [Value.oneCell']) (by unfold maxLen; omega) (by omega) (by simp; omega) ?_; intro v' w1 hown' hgrow _; obtain ⟨g', cap', rfl⟩ := ownsRow_succ hown')
                have B1 : Below w.heap.size w w1 := Below.grown (HB2.out.alloc (by omega) _) hgrow (by simp; omega) (fun j hj => (hown0.lt j hj).1)
                clear hown' hgrow hown0 HB2 y2
                go_wp2
                go_ret2
                refine ⟨.slice none 0 0, ?_, by rw [E1.out.2]; exact OwnI.nil _ _, B1⟩
                rw [E1.out.1]
                first | done | rfl
      · have hn0 : (p.st != st) = true := by simp [hs]
        have HNX : Hid (lostTo st l (k + 1) = lostTo st l k) := by
          show _ = _
          rw [HST.out]; unfold lostStep; rw [if_neg hs]
        clear hs HST
        go_wp2
        go_roundw
        case rel =>
          refine ⟨k + 1, by omega, by go_num, ?_, ?_, ?_, ?_, HBW.out⟩
          · rw [HNX.out]
          · rw [HNX.out]; exact HLA.out
          · rw [HNX.out]; exact HOW.out
          · rw [HNX.out]; exact HLE.out
        case measure => simp [intOf]; omega
    · obtain rfl : k = n := by omega
      have HOW := Lib.hid hown
      have HBW := Lib.hid hbw
      have e1 : lostErr st l = 0 := by unfold lostErr; rw [HLN.out, if_pos hle]
      have e2 : lostVal st l = (lostTo st l k).2 := by unfold lostVal; rw [HLN.out, if_pos hle]
      have E2 := Lib.hid e2
      have E1 := Lib.hid e1
      clear hown hbw e1 e2 hlast
      go_wp2
      go_ret2
      refine ⟨u6, ?_, by rw [E2.out]; exact HOW.out, HBW.out⟩
      rw [E1.out]
      rfl
end Go.Proofs.YtoipafnlcchmbaaGreatDoor
