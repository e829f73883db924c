/- The reference's checks of packets; lists of packets compared. -/
import Derived.Test.YtoipafnlcchmbaaGreatDoorR4
import Derived.Test.YtoipafnlcchmbaaGreatDoorR5
import Derived.Lib.QuietBelow
import Derived.Deep.MidRow
import Derived.Deep.QuietTactic
import Derived.BigQuiet
namespace Go.Proofs.YtoipafnlcchmbaaGreatDoor
open Go.RowKit Go.Sort

def checkPacketsE (l : List Pk) : Int := firstE [atMostE l.length 1024, firstInP l]
theorem checkPacketsE_many (l : List Pk) (h : 1024 < l.length) : checkPacketsE l = 5 := by
  unfold checkPacketsE atMostE
  rw [if_pos (by omega)]; rfl
theorem checkPacketsE_few (l : List Pk) (h : ¬ 1024 < l.length) : checkPacketsE l = firstInP l := by
  unfold checkPacketsE atMostE
  rw [if_neg (by omega), firstE_ne, if_pos rfl]

set_option maxHeartbeats 1000000 in
set_option maxRecDepth 100000 in
theorem refCheckPackets_any (A : Option Addr) (n c : Nat) (l : List Pk) (w : World) (hn : n ≤ 1000000000000) (hz : PksAt w A n l) :
    Calls Tryz.prog 80 #[.slice A n c] w fun e w' => e = .returned (.int .i64 (checkPacketsE l)) ∧ Below w.heap.size w w' := by
  have HZ := Lib.hid hz
  clear hz
  by_cases hm : 1024 < n
  · have HM := Lib.hid (checkPacketsE_many l (by rw [HZ.out.1]; exact hm))
    go_enter Tryz.func80, Tryz.ntmps80
    go_wp2
    go_ret
    exact ⟨ret_int HM.out.symm, Below.refl _ _⟩
  · have HM := Lib.hid (checkPacketsE_few l (by rw [HZ.out.1]; exact hm))
    go_enter Tryz.func80, Tryz.ntmps80
    go_wp2
    go_loopw [3, 4] (fun i _ wr => ∃ k : Nat, k ≤ n ∧ i = .int .i64 k ∧ Hid (∀ i, i < k → (l.getD i Pk.none).err = 0) ∧ Below w.heap.size w wr) (fun i _ _ => n - (intOf i).toNat)
    case atStart => exact ⟨0, Nat.zero_le _, rfl, fun i hi => by omega, Below.refl _ _⟩
    case round =>
      obtain ⟨k, hk, rfl, hz, hb⟩ := hrel
      by_cases hlt : k < n
      · obtain ⟨b, off, rfl, hcc⟩ := (HZ.out.keep hb).2.2 (by omega)
        obtain ⟨p, hp⟩ : ∃ p, p = l.getD k Pk.none := ⟨_, rfl⟩
        have hps := HZ.out.2.1 k hlt
        have hc1 := hcc k hlt
        rw [← hp] at hc1 hps
        obtain ⟨cs, hcs⟩ : ∃ cs, cs = p.cells := ⟨_, rfl⟩
        have hsz : Hid (cs.size = 22) := by rw [hcs]; exact Pk.size hps
        have C1 : Hid (∀ j, j < cs.size → wr.cell? ⟨b, off + k * 22 + j, none⟩ = cs[j]?) := by
          show ∀ j, _ → _
          rw [hsz.out, hcs]; exact hc1
        have hinfo : Hid ((Tryz.prog.info? 97).map (·.size) = some cs.size) := by show _ = _; rw [hsz.out]; kernel_rfl
        have HB := Lib.hid hb
        have HCS := Lib.hid hcs
        have HP := Lib.hid hp
        have HPS := Lib.hid hps
        clear hcc hc1 hcs hb hp hps
        go_wp2_with (refine wpList_load_midA rfl 97 _ rfl b (off + k * 22) rfl cs _ C1.out Tryz.underlying97 rfl hinfo.out ?_)
        refine (refCheckPacket_pk p cs _ HCS.out HPS.out).mono ?_
        rintro e w' ⟨rfl, hb⟩
        have HB1 := Lib.hid (HB.out.trans (hb.mono HB.out.size))
        obtain ⟨y, hy⟩ : ∃ y, y = p.err := ⟨_, rfl⟩
        rw [← hy]
        have HY := Lib.hid hy
        clear hy hb HB C1 hinfo
        by_cases he : y = 0
        · have h1 : (y != 0) = false := by simp [he]
          have HE := Lib.hid he
          clear he
          go_wp2
          go_roundw
          case rel =>
            refine ⟨k + 1, by omega, by go_num, fun i hi => ?_, HB1.out⟩
            by_cases hik : i < k
            · exact hz.out i hik
            · obtain rfl : i = k := by omega
              rw [← HP.out, ← HY.out]; exact HE.out
          case measure => simp [intOf]; omega
        · have h1 : (y != 0) = true := by simp [he]
          have HE := Lib.hid he
          clear he
          go_wp2
          go_ret
          exact ⟨ret_int (by rw [HM.out, firstInP_hit l k (by rw [HZ.out.1]; exact hlt) hz.out (by rw [← HP.out, ← HY.out]; exact HE.out), ← HP.out]; exact HY.out), HB1.out⟩
      · have HB := Lib.hid hb
        clear hb
        go_wp2
        go_ret
        exact ⟨ret_int (by rw [HM.out]; exact (firstInP_miss l (fun i hi => hz.out i (by rw [HZ.out.1] at hi; omega))).symm), HB.out⟩

/-- Packets of the reference's type, compared. -/
theorem pk_fieldsR : (Tryz.prog.fieldsOf 97).toList.map (fun f => (f.type, f.offset, f.name == "_")) = [(3, 0, false), (3, 1, false), (3, 2, false), (3, 3, false), (95, 4, false)] := by kernel_rfl
theorem run_neq_pkR (w : World) (s1 k1 c1 l1 : Int) (p1 : List Int) (s2 k2 c2 l2 : Int) (p2 : List Int) (h1 : p1.length = 18) (h2 : p2.length = 18) :
    (binOp .neq 97 (.agg (pkA s1 k1 c1 l1 p1)) (.agg (pkA s2 k2 c2 l2 p2))).run Tryz.prog w = .ok (.bool (!(eqPk s1 k1 c1 l1 p1 s2 k2 c2 l2 p2))) w := by
  rw [run_neq_struct, run_equalIn_struct w 9999 97 _ _ (by kernel_rfl) (by kernel_rfl), eqFields_pk w 9997 s1 k1 c1 l1 p1 s2 k2 c2 l2 p2 h1 h2 _ pk_fieldsR]
  rfl
theorem neq_sameR (p : Pk) (hp : p.ps.length = 18) (w : World) : (binOp .neq 97 (.agg p.cells) (.agg p.cells)).run Tryz.prog w = .ok (.bool false) w := by
  unfold Pk.cells
  rw [run_neq_pkR w _ _ _ _ _ _ _ _ _ _ hp hp]
  simp [eqPk, eqB]

theorem wpQuiet_rowAt {P : Program} {ops : Array Oper} {rest : List Oper} {o : Oper} {a : Act} {Q : Act → Prop} {w0 : World} (ty : TypeId) (x : Operand) (ho : o.op = .load ty x) (hw : Region.wanted o (yielded ops a.tmps) = true) (ad : Addr) (cs : Array Value)
    (hx : a.eval x = .pointer (some ad)) (hl : ∀ d os, (loadVar ty ad).run P (grow (redrawn w0 d) os) = .ok (.agg cs) (grow (redrawn w0 d) os))
    (hk : wpQuiet P ops (fun w' => ∃ p : Regrown, w' = grow (redrawn w0 p.d) p.os) Q rest (a.put o.dst (.agg cs))) : wpQuiet P ops (fun w' => ∃ p : Regrown, w' = grow (redrawn w0 p.d) p.os) Q (o :: rest) a := by
  refine wpQuiet_step (fun K hK => ?_)
  rw [if_pos hw]
  refine ⟨.agg cs, fun w hC => ?_, hK _ hk⟩
  obtain ⟨p, rfl⟩ := hC
  unfold Oper.quietAt
  have e : (execOp a.eval o).run P (grow (redrawn w0 p.d) p.os) = .ok (.value (.agg cs)) (grow (redrawn w0 p.d) p.os) := by
    unfold execOp
    simp only [ho, hx, Instr.loadAt, Instr.sureAddr, Sem.run_bind, Sem.run_pure, Result.andThen_ok, hl]
  rw [e]
  exact ⟨rfl, rfl⟩
theorem load_pkR (w : World) (b o : Nat) (cs : Array Value) (hs : cs.size = 22) (hc : ∀ j, j < cs.size → w.cell? ⟨b, o + j, none⟩ = cs[j]?) (d : Nat) (os : Array Obj) :
    (loadVar 97 ⟨b, o, none⟩).run Tryz.prog (grow (redrawn w d) os) = .ok (.agg cs) (grow (redrawn w d) os) := by
  have h := run_loadVar_mid (P := Tryz.prog) (grow (redrawn w d) os) b o 97 cs.toList _ (fun j v hv => by
    have hj : j < cs.size := by have := (List.getElem?_eq_some_iff.1 hv).1; simpa using this
    refine cell_regrown ?_ d os
    rw [hc j hj, ← hv]; simp) Tryz.underlying97 rfl (by rw [Array.length_toList, hs]; kernel_rfl)
  simpa using h

set_option maxHeartbeats 1000000 in
set_option maxRecDepth 100000 in
/-- Equal lists of packets are the same. -/
theorem samePackets_same (A B : Option Addr) (n c d : Nat) (l : List Pk) (w : World) (hn : n ≤ 140737488351232) (hA : PksAt w A n l) (hB : PksAt w B n l) :
    Calls Tryz.prog 83 #[.slice A n c, .slice B n d] w fun e w' => e = .returned (.bool true) ∧ Below w.heap.size w w' := by
  have HA := Lib.hid hA
  have HB := Lib.hid hB
  clear hA hB
  go_enter Tryz.func83, Tryz.ntmps83
  go_wp2
  go_loopw [5] (fun i wr => ∃ k : Nat, k ≤ n ∧ i = .int .i64 k ∧ Below w.heap.size w wr) (fun i _ => n - (intOf i).toNat)
  case atStart => exact ⟨0, Nat.zero_le _, rfl, Below.refl _ _⟩
  case round =>
    obtain ⟨k, hk, rfl, hbw⟩ := hrel
    by_cases hlt : k < n
    · obtain ⟨b, off, rfl, hcc⟩ := (HA.out.keep hbw).2.2 (by omega)
      obtain ⟨b2, off2, rfl, hcc2⟩ := (HB.out.keep hbw).2.2 (by omega)
      obtain ⟨p, hp⟩ : ∃ p, p = l.getD k Pk.none := ⟨_, rfl⟩
      have hps := HA.out.2.1 k hlt
      have h1 := hcc k hlt
      have h2 := hcc2 k hlt
      rw [← hp] at h1 h2 hps
      have hq := neq_sameR p hps
      obtain ⟨cs, hcs⟩ : ∃ cs, cs = p.cells := ⟨_, rfl⟩
      have hsz : cs.size = 22 := by rw [hcs]; exact Pk.size hps
      rw [← hcs] at h1 h2 hq
      have L1 := load_pkR wr b (off + k * 22) cs hsz (fun j hj => h1 j (by omega))
      have L2 := load_pkR wr b2 (off2 + k * 22) cs hsz (fun j hj => h2 j (by omega))
      have m1 : Tryz.prog.eqGuardType Tryz.prog.depth 97 = false := by kernel_rfl
      have hlt' : (k : Int) < (n : Int) := by omega
      have HBW := Lib.hid hbw
      clear h1 h2 hcc hcc2 hp hcs hsz hps hbw
      go_upto_region 6 with fail
      refine wp_region_quiet_below (by kernel_rfl) (by kernel_rfl) ?_
      iterate 3 (quiet_step (fail))
      refine wpQuiet_rowAt _ _ rfl (by rfl) ⟨b, off + k * 22, none⟩ cs rfl L1 ?_
      iterate 3 (quiet_step (fail))
      refine wpQuiet_rowAt _ _ rfl (by rfl) ⟨b2, off2 + k * 22, none⟩ cs rfl L2 ?_
      iterate 1 (quiet_step (fail))
      refine wpQuiet_nil ?_
      intro _ hw'
      obtain ⟨⟨dq, osq⟩, hw''⟩ := hw'
      subst hw''
      have HB2 : Hid (Below w.heap.size w (grow (redrawn wr dq) osq)) := HBW.out.trans ((below_regrown wr dq osq).mono HBW.out.size)
      obtain ⟨w9, hw9⟩ : ∃ w9, w9 = grow (redrawn wr dq) osq := ⟨_, rfl⟩
      rw [← hw9] at HB2 ⊢
      clear hw9 L1 L2 hq HBW
      go_wp2
      go_roundw
      case rel => exact ⟨k + 1, by omega, by go_num, HB2.out⟩
      case measure => simp [intOf]; omega
    · have HB1 := Lib.hid hbw
      clear hbw
      go_wp2
      go_ret
      exact ⟨rfl, HB1.out⟩
end Go.Proofs.YtoipafnlcchmbaaGreatDoor
