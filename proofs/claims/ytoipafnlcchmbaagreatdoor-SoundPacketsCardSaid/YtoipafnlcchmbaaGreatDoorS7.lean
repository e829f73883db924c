/- SoundPackets, walked (made by wip/tools/gen_q.py). -/
import Derived.Test.YtoipafnlcchmbaaGreatDoorQPx
import Derived.Test.YtoipafnlcchmbaaGreatDoorQH
import Derived.Test.YtoipafnlcchmbaaGreatDoorQM
import Derived.Test.YtoipafnlcchmbaaGreatDoorR1
import Derived.Test.YtoipafnlcchmbaaGreatDoorR2
import Derived.Test.YtoipafnlcchmbaaGreatDoorR3
import Derived.Test.YtoipafnlcchmbaaGreatDoorR4
import Derived.Lib.QuietBelow
namespace Go.Proofs.YtoipafnlcchmbaaGreatDoor
open Go.RowKit Go.Sort

theorem wpQuiet_row {P : Program} {ops : Array Oper} {rest : List Oper} {o : Oper} {a : Act} {Q : Act → Prop} {w0 : World} (ty : TypeId) (x : Operand) (ho : o.op = .load ty x) (hw : Region.wanted o (yielded ops a.tmps) = true) (g : Nat) (cs : Array Value)
    (hx : a.eval x = .pointer (some ⟨g, 0, none⟩)) (hl : ∀ d os, (loadVar ty ⟨g, 0, none⟩).run P (grow (redrawn w0 d) os) = .ok (.agg cs) (grow (redrawn w0 d) os))
    (hk : wpQuiet P ops (fun w' => ∃ p : Regrown, w' = grow (redrawn w0 p.d) p.os) Q rest (a.put o.dst (.agg cs))) : wpQuiet P ops (fun w' => ∃ p : Regrown, w' = grow (redrawn w0 p.d) p.os) Q (o :: rest) a := by
  refine wpQuiet_step (fun K hK => ?_)
  rw [if_pos hw]
  refine ⟨.agg cs, fun w hC => ?_, hK _ hk⟩
  obtain ⟨p, rfl⟩ := hC
  unfold Oper.quietAt
  have e : (execOp a.eval o).run P (grow (redrawn w0 p.d) p.os) = .ok (.value (.agg cs)) (grow (redrawn w0 p.d) p.os) := by
    unfold execOp
    simp only [ho, hx, Instr.loadAt, Instr.sureAddr, Sem.run_bind, Sem.run_pure, Result.andThen_ok, hl]
  rw [e]
  exact ⟨rfl, rfl⟩
theorem eq_sameB (n : Nat) (T : TypeId) (hT : Tryz.prog.underlying T = some (.array n 5)) (bs : List Int) (hl : bs.length = n) (w : World) :
    (Op.equalIn 10000 T (.agg (bytesA bs)) (.agg (bytesA bs))).run Tryz.prog w = .ok true w := by
  obtain ⟨i, hi⟩ : ∃ i, Tryz.prog.info? 5 = some i := Option.isSome_iff_exists.1 (by kernel_rfl)
  rw [run_equalIn_array w 9999 (n := n) (e := 5) (i := i) _ _ hT hi]
  rw [show Tryz.prog.cellsOf 5 = 1 by kernel_rfl]
  have h := run_eqItems_int (P := Tryz.prog) w 9998 (e := 5) (k := .u8) Tryz.underlying5 (bytesA bs) (bytesA bs) (fun j => bs.getD j 0) (fun j => bs.getD j 0) (List.range n) (fun j hj => by
    have hj8 : j < bs.length := by rw [hl]; exact List.mem_range.1 hj
    exact ⟨bytesA_at bs j hj8, bytesA_at bs j hj8⟩)
  rw [show eqB (List.range n) (fun j => bs.getD j 0) (fun j => bs.getD j 0) = true by unfold eqB; simp] at h
  exact h
theorem eq_same32 (bs : List Int) (hl : bs.length = 32) (w : World) : (Op.equalIn 10000 98 (.agg (bytesA bs)) (.agg (bytesA bs))).run Tryz.prog w = .ok true w :=
  eq_sameB 32 _ (by kernel_rfl) bs hl w
theorem eq_sameKey (bs : List Int) (hl : bs.length = 8) (w : World) : (Op.equalIn 10000 94 (.agg (bytesA bs)) (.agg (bytesA bs))).run Tryz.prog w = .ok true w :=
  eq_sameB 8 _ (by kernel_rfl) bs hl w
theorem ref_pk_fields : (Tryz.prog.fieldsOf 97).toList.map (fun f => (f.type, f.offset, f.name == "_")) = [(3, 0, false), (3, 1, false), (3, 2, false), (3, 3, false), (95, 4, false)] := by kernel_rfl
theorem eq_samePk (st kd ct ln : Int) (ps : List Int) (h : ps.length = 18) (w : World) : (Op.equalIn 10000 97 (.agg (pkA st kd ct ln ps)) (.agg (pkA st kd ct ln ps))).run Tryz.prog w = .ok true w := by
  rw [run_equalIn_struct w 9999 97 _ _ (by kernel_rfl) (by kernel_rfl), eqFields_pk w 9997 st kd ct ln ps st kd ct ln ps h h _ ref_pk_fields]
  rw [show eqPk st kd ct ln ps st kd ct ln ps = true by unfold eqPk eqB; simp]
theorem eq_sameD (ks bs : List Int) (hl : bs.length = 32) (w : World) : (Op.equalIn 10000 97 (.agg (decodeA ks bs)) (.agg (decodeA ks bs))).run Tryz.prog w = .ok true w := by
  unfold decodeA
  split
  · exact eq_samePk _ _ _ _ _ (by unfold readP; simp [hl]) w
  · exact eq_samePk _ _ _ _ _ (by simp) w
theorem pk_end_set {w4 w6 : World} {g : Nat} (hg : w4.heap.size ≤ g) (M : Below w4.heap.size w4 w6) {z0 z1 z2 z3 z4 z5 z6 z7 : Value} (hz : Blk w6 g 94 #[z0, z1, z2, z3, z4, z5, z6, z7]) (a0 a1 a2 a3 a4 a5 a6 a7 : Value) :
    Blk ((((((((w6.setCell ⟨g, 0, none⟩ a0).setCell ⟨g, 1, none⟩ a1).setCell ⟨g, 2, none⟩ a2).setCell ⟨g, 3, none⟩ a3).setCell ⟨g, 4, none⟩ a4).setCell ⟨g, 5, none⟩ a5).setCell ⟨g, 6, none⟩ a6).setCell ⟨g, 7, none⟩ a7) g 94 #[a0, a1, a2, a3, a4, a5, a6, a7] ∧ Below w4.heap.size w4 ((((((((w6.setCell ⟨g, 0, none⟩ a0).setCell ⟨g, 1, none⟩ a1).setCell ⟨g, 2, none⟩ a2).setCell ⟨g, 3, none⟩ a3).setCell ⟨g, 4, none⟩ a4).setCell ⟨g, 5, none⟩ a5).setCell ⟨g, 6, none⟩ a6).setCell ⟨g, 7, none⟩ a7) :=
  ⟨hz.set8 a0 a1 a2 a3 a4 a5 a6 a7, below_set8 M hg a0 a1 a2 a3 a4 a5 a6 a7⟩
theorem pk_end_new {w4 w6 : World} (M : Below w4.heap.size w4 w6) (S : Array Value) :
    Blk (w6.alloc (.cells S 94)) w6.heap.size 94 S ∧ Below w4.heap.size w4 (w6.alloc (.cells S 94)) :=
  ⟨Blk.new w6 _ _, M.alloc M.size _⟩
theorem pk_mid1 {w4 w5 w6 : World} (G5 : Below w4.drew.heap.size w4.drew w5) (G6 : Below w5.heap.size w5 w6) : Below w4.heap.size w4 w6 :=
  ((Below.refl _ w4).drew.trans G5).trans (G6.mono G5.size)
theorem pk_mid2 {w4 w5 w6 : World} {z : Array Value} (G5 : Below w4.drew.heap.size w4.drew w5) (G6 : Below (w5.alloc (.cells z 94)).heap.size (w5.alloc (.cells z 94)) w6) : Below w4.heap.size w4 w6 ∧ w4.heap.size ≤ w5.heap.size := by
  have h : w4.heap.size ≤ w5.heap.size := G5.size
  exact ⟨(((Below.refl _ w4).drew.trans G5).alloc h _).trans (G6.mono (by simp; omega)), h⟩
theorem pk_mid3 {w4 w5 w6 : World} {z : Array Value} (G5 : Below (w4.alloc (.cells z 94)).drew.heap.size (w4.alloc (.cells z 94)).drew w5) (G6 : Below w5.heap.size w5 w6) : Below w4.heap.size w4 w6 := by
  have h : w4.heap.size ≤ (w4.alloc (.cells z 94)).drew.heap.size := by
    show w4.heap.size ≤ (w4.alloc (.cells z 94)).heap.size
    simp
  exact (((Below.refl _ w4).alloc (Nat.le_refl _) _).drew.trans (G5.mono h)).trans (G6.mono (Nat.le_trans h G5.size))
set_option maxHeartbeats 8000000 in
set_option maxRecDepth 100000 in
theorem packets_walk (ks bs : List Int) (p : Pk) (w : World) (hk : ks.length = 8) (hkb : AllB ks) (hps : p.ps.length = 18) (hpb : AllB p.ps) (hl : bs.length = 32) (hb : AllB bs) (hst : Steps w) (ht : Tab w) :
    Calls Tryz.prog 9 #[.agg (bytesA ks), .agg p.cells, .agg (bytesA bs)] w fun x w' => x = .returned (.bool true) ∧ Below w.heap.size w w' := by
  have HS_ := Lib.hid hst
  have HT_ := Lib.hid ht
  clear hst ht
  obtain ⟨ka, hka⟩ : ∃ ka, ka = bytesA ks := ⟨_, rfl⟩
  obtain ⟨pa, hpa⟩ : ∃ pa, pa = p.cells := ⟨_, rfl⟩
  obtain ⟨sa, hsa⟩ : ∃ sa, sa = bytesA bs := ⟨_, rfl⟩
  obtain ⟨fa, hfa⟩ : ∃ fa, fa = encodeA ks p := ⟨_, rfl⟩
  obtain ⟨E, hE⟩ : ∃ E, E = p.err := ⟨_, rfl⟩
  obtain ⟨da, hda⟩ : ∃ da, da = decodeA ks bs := ⟨_, rfl⟩
  obtain ⟨D, hD⟩ : ∃ D, D = decodeE ks bs := ⟨_, rfl⟩
  have HENC : Hid (∀ W : World, Calls Tryz.prog 67 #[.agg ka, .agg pa] W fun e w' => e = .returned (.tuple #[.agg fa, .int .i64 E]) ∧ Below W.heap.size W w') := fun W => by rw [hka, hpa, hfa, hE]; exact Encode_any ks p W hk hkb hps hpb
  have HDEC : Hid (∀ W : World, Calls Tryz.prog 68 #[.agg ka, .agg sa] W fun e w' => e = .returned (.tuple #[.agg da, .int .i64 D]) ∧ Below W.heap.size W w') := fun W => by rw [hka, hsa, hda, hD]; exact Decode_any ks bs W hk hkb hl hb
  have HCHK : Hid (∀ W : World, Calls Tryz.prog 71 #[.agg pa] W fun e w' => e = .returned (.int .i64 E) ∧ Below W.heap.size W w') := fun W => by rw [hE]; exact refCheckPacket_pk p pa W hpa hps
  have HREN : Hid (E = 0 → Hid (∀ W : World, Calls Tryz.prog 72 #[.agg ka, .agg pa] W fun e w' => e = .returned (.agg fa) ∧ Below W.heap.size W w')) := fun h0 => by show ∀ W : World, _; intro W; rw [hka, hpa, hfa, encodeA_ok ks p (hE.symm.trans h0)]; exact refEncode_any ks p W hk hkb hps hpb (hE.symm.trans h0)
  have HRDE : Hid (∀ W : World, Calls Tryz.prog 73 #[.agg ka, .agg sa] W fun e w' => e = .returned (.tuple #[.agg da, .int .i64 D]) ∧ Below W.heap.size W w') := fun W => by rw [hka, hsa, hda, hD]; exact refDecode_any ks bs W hk hkb hl hb
  have ka8 : Hid (ka.size = 8) := by show _ = _; rw [hka, bytesA_size, hk]
  have pa22 : Hid (pa.size = 22) := by show _ = _; rw [hpa]; unfold Pk.cells; rw [pkA_size, hps]
  have sa32 : Hid (sa.size = 32) := by show _ = _; rw [hsa, bytesA_size, hl]
  have fa32 : Hid (fa.size = 32) := by show _ = _; rw [hfa]; unfold encodeA; rw [bytesA_size]; split <;> simp [frameL, bodyL, sealL_len, hps]
  have da22 : Hid (da.size = 22) := by show _ = _; rw [hda]; exact decodeA_size ks bs hl
  have fa1 : Hid (fa.all (·.oneCell') = true) := by show _ = _; rw [hfa]; exact bytesA_one _
  have da1 : Hid (da.all (·.oneCell') = true) := by show _ = _; rw [hda]; exact decodeA_one _ _
  have ika : Hid ((Tryz.prog.info? 94).map (·.size) = some ka.size) := by show _ = _; rw [ka8.out]; kernel_rfl
  have ipa : Hid ((Tryz.prog.info? 97).map (·.size) = some pa.size) := by show _ = _; rw [pa22.out]; kernel_rfl
  have isa : Hid ((Tryz.prog.info? 98).map (·.size) = some sa.size) := by show _ = _; rw [sa32.out]; kernel_rfl
  have ifa : Hid ((Tryz.prog.info? 98).map (·.size) = some fa.size) := by show _ = _; rw [fa32.out]; kernel_rfl
  have ida : Hid ((Tryz.prog.info? 101).map (·.size) = some da.size) := by show _ = _; rw [da22.out]; kernel_rfl
  have idb : Hid ((Tryz.prog.info? 97).map (·.size) = some da.size) := by show _ = _; rw [da22.out]; kernel_rfl
  have ifaz : Hid ((#[.int .u8 0, .int .u8 0, .int .u8 0, .int .u8 0, .int .u8 0, .int .u8 0, .int .u8 0, .int .u8 0, .int .u8 0, .int .u8 0, .int .u8 0, .int .u8 0, .int .u8 0, .int .u8 0, .int .u8 0, .int .u8 0, .int .u8 0, .int .u8 0, .int .u8 0, .int .u8 0, .int .u8 0, .int .u8 0, .int .u8 0, .int .u8 0, .int .u8 0, .int .u8 0, .int .u8 0, .int .u8 0, .int .u8 0, .int .u8 0, .int .u8 0, .int .u8 0] : Array Value).size = fa.size) := by show _ = _; rw [fa32.out]; rfl
  have idbz : Hid ((#[.int .i64 0, .int .i64 0, .int .i64 0, .int .i64 0, .int .u8 0, .int .u8 0, .int .u8 0, .int .u8 0, .int .u8 0, .int .u8 0, .int .u8 0, .int .u8 0, .int .u8 0, .int .u8 0, .int .u8 0, .int .u8 0, .int .u8 0, .int .u8 0, .int .u8 0, .int .u8 0, .int .u8 0, .int .u8 0] : Array Value).size = da.size) := by show _ = _; rw [da22.out]; rfl
  have idaz : Hid ((#[.int .i64 0, .int .i64 0, .int .i64 0, .int .i64 0, .int .u8 0, .int .u8 0, .int .u8 0, .int .u8 0, .int .u8 0, .int .u8 0, .int .u8 0, .int .u8 0, .int .u8 0, .int .u8 0, .int .u8 0, .int .u8 0, .int .u8 0, .int .u8 0, .int .u8 0, .int .u8 0, .int .u8 0, .int .u8 0] : Array Value).size = da.size) := by show _ = _; rw [da22.out]; rfl
  have QF : Hid (∀ W : World, (Op.equalIn 10000 98 (.agg fa) (.agg fa)).run Tryz.prog W = .ok true W) := fun W => by
    rw [hfa]; unfold encodeA; exact eq_same32 _ (by split <;> simp [frameL, bodyL, sealL_len, hps]) W
  have QD : Hid (∀ W : World, (Op.equalIn 10000 97 (.agg da) (.agg da)).run Tryz.prog W = .ok true W) := fun W => by
    rw [hda]; exact eq_sameD ks bs hl W
  rw [← hka, ← hpa, ← hsa]
  have HKA := Lib.hid hka
  have HPA := Lib.hid hpa
  have HSA := Lib.hid hsa
  have HFA := Lib.hid hfa
  have HDA := Lib.hid hda
  have HE := Lib.hid hE
  have HK := Lib.hid hk
  have HKB := Lib.hid hkb
  have HL := Lib.hid hl
  have HLB := Lib.hid hb
  have HPS := Lib.hid hps
  clear hka hpa hsa hfa hE hda hD hk hkb hps hpb hl hb
  go_enter Tryz.func9, Tryz.ntmps9
  go_upto_region 1 with fail
  obtain ⟨w0, hw0⟩ : ∃ X, X = ((w.alloc (.cells ka 94)).alloc (.cells pa 97)).alloc (.cells sa 98) := ⟨_, rfl⟩
  rw [← hw0]
  have HA0 : Hid (Blk w0 w.heap.size 94 ka) := by show Blk _ _ _ _; rw [hw0]; exact ((Blk.new _ _ _).alloc _).alloc _
  have HP0 : Hid (Blk w0 (w.heap.size + 1) 97 pa) := by show Blk _ _ _ _; rw [hw0]; exact (Blk.at_size _ _ (by simp)).alloc _
  have HF0 : Hid (Blk w0 (w.heap.size + 1 + 1) 98 sa) := by show Blk _ _ _ _; rw [hw0]; exact Blk.at_size _ _ (by simp)
  have HB0 : Hid (Below w.heap.size w w0) := by show Below _ _ _; rw [hw0]; exact (((Below.refl _ _).alloc (Nat.le_refl _) _).alloc (by simp) _).alloc (by simp; omega) _
  obtain ⟨gk, hgk⟩ : ∃ g, g = w.heap.size := ⟨_, rfl⟩
  obtain ⟨gp, hgp⟩ : ∃ g, g = w.heap.size + 1 := ⟨_, rfl⟩
  obtain ⟨gs, hgs⟩ : ∃ g, g = w.heap.size + 1 + 1 := ⟨_, rfl⟩
  rw [← hgs] at HF0
  rw [← hgp] at HP0
  rw [← hgk] at HA0
  rw [← hgs, ← hgp, ← hgk]
  have HG : Hid (w.heap.size ≤ gk ∧ w.heap.size ≤ gp ∧ w.heap.size ≤ gs) := by show _ ∧ _ ∧ _; omega
  clear hw0 hgk hgp hgs
  go_wp2_with (first
      | (refine wpList_load_row rfl 94 _ rfl gk rfl 94 ka (0, 0) _ HA0.out Tryz.underlying94 rfl ika.out ?_)
      | (refine wpList_load_row rfl 97 _ rfl gp rfl 97 pa (0, 0) _ HP0.out Tryz.underlying97 rfl ipa.out ?_))
  refine Calls.mono (HENC.out _) ?_
  rintro x w1 ⟨rfl, hb⟩
  have HB1 := Lib.hid (HB0.out.trans (Below.mono hb HB0.out.size))
  have HA1 := Lib.hid (HA0.out.below hb)
  have HP1 := Lib.hid (HP0.out.below hb)
  have HF1 := Lib.hid (HF0.out.below hb)
  clear HB0 HA0 HP0 HF0
  clear hb
  go_upto_region 2 with (refine wpList_store_row rfl 98 _ _ rfl w1.heap.size fa rfl rfl 98 _ (Blk.new _ _ _) ifa.out ifaz.out fa1.out ?_)
  obtain ⟨w2, hW⟩ : ∃ X, X = (w1.alloc (.cells #[.int .u8 0, .int .u8 0, .int .u8 0, .int .u8 0, .int .u8 0, .int .u8 0, .int .u8 0, .int .u8 0, .int .u8 0, .int .u8 0, .int .u8 0, .int .u8 0, .int .u8 0, .int .u8 0, .int .u8 0, .int .u8 0, .int .u8 0, .int .u8 0, .int .u8 0, .int .u8 0, .int .u8 0, .int .u8 0, .int .u8 0, .int .u8 0, .int .u8 0, .int .u8 0, .int .u8 0, .int .u8 0, .int .u8 0, .int .u8 0, .int .u8 0, .int .u8 0] 98)).setRow w1.heap.size fa := ⟨_, rfl⟩
  rw [← hW]
  obtain ⟨hk, hb⟩ := box_facts_row #[.int .u8 0, .int .u8 0, .int .u8 0, .int .u8 0, .int .u8 0, .int .u8 0, .int .u8 0, .int .u8 0, .int .u8 0, .int .u8 0, .int .u8 0, .int .u8 0, .int .u8 0, .int .u8 0, .int .u8 0, .int .u8 0, .int .u8 0, .int .u8 0, .int .u8 0, .int .u8 0, .int .u8 0, .int .u8 0, .int .u8 0, .int .u8 0, .int .u8 0, .int .u8 0, .int .u8 0, .int .u8 0, .int .u8 0, .int .u8 0, .int .u8 0, .int .u8 0] fa 98 rfl w2 hW
  have HB2 := Lib.hid (HB1.out.trans (Below.mono hb HB1.out.size))
  have HA2 := Lib.hid (HA1.out.below hb)
  have HP2 := Lib.hid (HP1.out.below hb)
  have HF2 := Lib.hid (HF1.out.below hb)
  clear HB1 HA1 HP1 HF1
  have HX2 := Lib.hid hk
  obtain ⟨gx, hg⟩ : ∃ g, g = w1.heap.size := ⟨_, rfl⟩
  rw [← hg] at HX2 ⊢
  clear hb hk hW hg
  go_wp2_with (first
      | (refine wpList_load_row rfl 94 _ rfl gk rfl 94 ka (0, 0) _ HA2.out Tryz.underlying94 rfl ika.out ?_)
      | (refine wpList_load_row rfl 98 _ rfl gs rfl 98 sa (0, 0) _ HF2.out Tryz.underlying98 rfl isa.out ?_))
  refine Calls.mono (HDEC.out _) ?_
  rintro x w3 ⟨rfl, hb⟩
  have HB3 := Lib.hid (HB2.out.trans (Below.mono hb HB2.out.size))
  have HA3 := Lib.hid (HA2.out.below hb)
  have HP3 := Lib.hid (HP2.out.below hb)
  have HF3 := Lib.hid (HF2.out.below hb)
  have HX3 := Lib.hid (HX2.out.below hb)
  clear HB2 HA2 HP2 HF2 HX2
  clear hb
  go_upto_region 3 with (refine wpList_store_row rfl 101 _ _ rfl w3.heap.size da rfl rfl 101 _ (Blk.new _ _ _) ida.out idaz.out da1.out ?_)
  obtain ⟨w4, hW⟩ : ∃ X, X = (w3.alloc (.cells #[.int .i64 0, .int .i64 0, .int .i64 0, .int .i64 0, .int .u8 0, .int .u8 0, .int .u8 0, .int .u8 0, .int .u8 0, .int .u8 0, .int .u8 0, .int .u8 0, .int .u8 0, .int .u8 0, .int .u8 0, .int .u8 0, .int .u8 0, .int .u8 0, .int .u8 0, .int .u8 0, .int .u8 0, .int .u8 0] 101)).setRow w3.heap.size da := ⟨_, rfl⟩
  rw [← hW]
  obtain ⟨hk, hb⟩ := box_facts_row #[.int .i64 0, .int .i64 0, .int .i64 0, .int .i64 0, .int .u8 0, .int .u8 0, .int .u8 0, .int .u8 0, .int .u8 0, .int .u8 0, .int .u8 0, .int .u8 0, .int .u8 0, .int .u8 0, .int .u8 0, .int .u8 0, .int .u8 0, .int .u8 0, .int .u8 0, .int .u8 0, .int .u8 0, .int .u8 0] da 101 rfl w4 hW
  have HB4 := Lib.hid (HB3.out.trans (Below.mono hb HB3.out.size))
  have HA4 := Lib.hid (HA3.out.below hb)
  have HP4 := Lib.hid (HP3.out.below hb)
  have HF4 := Lib.hid (HF3.out.below hb)
  have HX4 := Lib.hid (HX3.out.below hb)
  clear HB3 HA3 HP3 HF3 HX3
  have HY4 := Lib.hid hk
  obtain ⟨gy, hg⟩ : ∃ g, g = w3.heap.size := ⟨_, rfl⟩
  rw [← hg] at HY4 ⊢
  clear hb hk hW hg
  obtain ⟨k0, k1, k2, k3, k4, k5, k6, k7, hks⟩ : ∃ k0 k1 k2 k3 k4 k5 k6 k7, ks = [k0, k1, k2, k3, k4, k5, k6, k7] := by
    have hk := HK.out
    match ks, hk with
    | [k0, k1, k2, k3, k4, k5, k6, k7], _ => exact ⟨_, _, _, _, _, _, _, _, rfl⟩
  have EK : Blk w4 gk 94 #[.int .u8 k0, .int .u8 k1, .int .u8 k2, .int .u8 k3, .int .u8 k4, .int .u8 k5, .int .u8 k6, .int .u8 k7] := by
    have := HA4.out
    rw [HKA.out, hks] at this
    exact this
  have HK8 : Hid (Key8 k0 k1 k2 k3 k4 k5 k6 k7) := fun i hi => by
    have := HKB.out i (by have := HK.out; omega)
    rw [hks] at this
    exact this
  have HKS := Lib.hid hks
  have HBA : Hid (BytesAt w4 (some ⟨gs, 0, none⟩) 32 bs) := by
    have := HF4.out
    rw [HSA.out] at this
    have := bytesAt_blk bs HLB.out this
    rw [HL.out] at this
    exact this
  have HEK := Lib.hid EK
  have hne : gk ≠ w4.heap.size := by have := lt_of_block EK; omega
  clear hks
  have xc0 := EK.cell 0; have xf0 := EK.frozen 0; have xc1 := EK.cell 1; have xf1 := EK.frozen 1; have xc2 := EK.cell 2; have xf2 := EK.frozen 2; have xc3 := EK.cell 3; have xf3 := EK.frozen 3; have xc4 := EK.cell 4; have xf4 := EK.frozen 4; have xc5 := EK.cell 5; have xf5 := EK.frozen 5; have xc6 := EK.cell 6; have xf6 := EK.frozen 6; have xc7 := EK.cell 7; have xf7 := EK.frozen 7
  simp only [List.getElem?_toArray, List.getElem?_cons_zero, List.getElem?_cons_succ] at xc0 xc1 xc2 xc3 xc4 xc5 xc6 xc7
  clear EK
  clear xf0 xf1 xf2 xf3 xf4 xf5 xf6 xf7
  go_region_held3 (fun W => W.cell? ⟨gk, 0, none⟩ = some (.int .u8 k0) ∧ W.cell? ⟨gk, 1, none⟩ = some (.int .u8 k1) ∧ W.cell? ⟨gk, 2, none⟩ = some (.int .u8 k2) ∧ W.cell? ⟨gk, 3, none⟩ = some (.int .u8 k3) ∧ W.cell? ⟨gk, 4, none⟩ = some (.int .u8 k4) ∧ W.cell? ⟨gk, 5, none⟩ = some (.int .u8 k5) ∧ W.cell? ⟨gk, 6, none⟩ = some (.int .u8 k6) ∧ W.cell? ⟨gk, 7, none⟩ = some (.int .u8 k7))
    (first | with_reducible exact results8 HEK.out.drew | with_reducible exact results8 (HEK.out.alloc _).drew | with_reducible exact results8 BK5.out | with_reducible exact results8 (BK5.out.alloc _) | with_reducible exact results8 BK6.out | with_reducible exact results8 (BK6.out.alloc _) | with_reducible exact results8 ((((((((BK6.out.far (p := ⟨w4.heap.size, 0, none⟩) hne _).far (p := ⟨w4.heap.size, 1, none⟩) hne _).far (p := ⟨w4.heap.size, 2, none⟩) hne _).far (p := ⟨w4.heap.size, 3, none⟩) hne _).far (p := ⟨w4.heap.size, 4, none⟩) hne _).far (p := ⟨w4.heap.size, 5, none⟩) hne _).far (p := ⟨w4.heap.size, 6, none⟩) hne _).far (p := ⟨w4.heap.size, 7, none⟩) hne _) | with_reducible exact results8 ((((((((BK6.out.far (p := ⟨w5.heap.size, 0, none⟩) hne5.out _).far (p := ⟨w5.heap.size, 1, none⟩) hne5.out _).far (p := ⟨w5.heap.size, 2, none⟩) hne5.out _).far (p := ⟨w5.heap.size, 3, none⟩) hne5.out _).far (p := ⟨w5.heap.size, 4, none⟩) hne5.out _).far (p := ⟨w5.heap.size, 5, none⟩) hne5.out _).far (p := ⟨w5.heap.size, 6, none⟩) hne5.out _).far (p := ⟨w5.heap.size, 7, none⟩) hne5.out _))
    (first
      | (go_at_call 70; refine (bytes_any (some ⟨gs, 0, none⟩) 32 32 bs _ (by first | with_reducible exact HBA.out.keep (Below.refl _ _).drew | with_reducible exact HBA.out.keep ((Below.refl _ _).alloc (Nat.le_refl _) _).drew) (fun h => by cases h) (by decide)).mono ?_; rintro e w5 ⟨A5, c5, rfl, hA5, hb5⟩; have HA5 := Lib.hid hA5; have BK5 : Hid (Blk w5 gk 94 #[.int .u8 k0, .int .u8 k1, .int .u8 k2, .int .u8 k3, .int .u8 k4, .int .u8 k5, .int .u8 k6, .int .u8 k7]) := (by first | with_reducible exact Lib.hid (HEK.out.drew.below hb5) | with_reducible exact Lib.hid ((HEK.out.alloc _).drew.below hb5)); have hne5 : Hid (gk ≠ w5.heap.size) := (by have := lt_of_block BK5.out; show _ ≠ _; omega); (first | (have ZK5 : Blk w5 w4.heap.size 94 #[.int .u8 0, .int .u8 0, .int .u8 0, .int .u8 0, .int .u8 0, .int .u8 0, .int .u8 0, .int .u8 0] := (Blk.new w4 94 #[.int .u8 0, .int .u8 0, .int .u8 0, .int .u8 0, .int .u8 0, .int .u8 0, .int .u8 0, .int .u8 0]).drew.below hb5; have HZ5 := Lib.hid ZK5; clear ZK5) | skip); have G5 := Lib.hid hb5; clear hb5 hA5)
      | (go_at_call 69; refine (Seal_any k0 k1 k2 k3 k4 k5 k6 k7 A5 32 c5 bs _ (by decide) HK8.out (by first | with_reducible exact HA5.out | with_reducible exact HA5.out.keep ((Below.refl _ _).alloc (Nat.le_refl _) _))).mono ?_; rintro e w6 ⟨rfl, hb6⟩; have BK6 : Hid (Blk w6 gk 94 #[.int .u8 k0, .int .u8 k1, .int .u8 k2, .int .u8 k3, .int .u8 k4, .int .u8 k5, .int .u8 k6, .int .u8 k7]) := (by first | with_reducible exact Lib.hid (BK5.out.below hb6) | with_reducible exact Lib.hid ((BK5.out.alloc _).below hb6)); (first | (have ZK : Blk w6 w4.heap.size 94 #[.int .u8 0, .int .u8 0, .int .u8 0, .int .u8 0, .int .u8 0, .int .u8 0, .int .u8 0, .int .u8 0] := HZ5.out.below hb6; have HZK := Lib.hid ZK; obtain ⟨z0, z1, z2, z3, z4, z5, z6, z7⟩ := results8 ZK; have y0 := ZK.frozen 0; have y1 := ZK.frozen 1; have y2 := ZK.frozen 2; have y3 := ZK.frozen 3; have y4 := ZK.frozen 4; have y5 := ZK.frozen 5; have y6 := ZK.frozen 6; have y7 := ZK.frozen 7; clear ZK) | (have ZK : Blk w6 w5.heap.size 94 #[.int .u8 0, .int .u8 0, .int .u8 0, .int .u8 0, .int .u8 0, .int .u8 0, .int .u8 0, .int .u8 0] := (Blk.new w5 94 #[.int .u8 0, .int .u8 0, .int .u8 0, .int .u8 0, .int .u8 0, .int .u8 0, .int .u8 0, .int .u8 0]).below hb6; have HZK := Lib.hid ZK; obtain ⟨z0, z1, z2, z3, z4, z5, z6, z7⟩ := results8 ZK; have y0 := ZK.frozen 0; have y1 := ZK.frozen 1; have y2 := ZK.frozen 2; have y3 := ZK.frozen 3; have y4 := ZK.frozen 4; have y5 := ZK.frozen 5; have y6 := ZK.frozen 6; have y7 := ZK.frozen 7; clear ZK) | skip); have G6 := Lib.hid hb6; clear hb6))
  all_goals
    try clear xc0 xc1 xc2 xc3 xc4 xc5 xc6 xc7
    first
      | (have H := pk_end_set (Nat.le_refl _) (pk_mid3 G5.out G6.out) HZK.out (.int .u8 (sealAt 0 k0 bs)) (.int .u8 (sealAt 1 k1 bs)) (.int .u8 (sealAt 2 k2 bs)) (.int .u8 (sealAt 3 k3 bs)) (.int .u8 (sealAt 4 k4 bs)) (.int .u8 (sealAt 5 k5 bs)) (.int .u8 (sealAt 6 k6 bs)) (.int .u8 (sealAt 7 k7 bs))
         obtain ⟨hk, hb⟩ := H
         generalize World.setCell _ _ _ = W7 at hk hb ⊢
         generalize w4.heap.size = gz at hk ⊢)
      | (have H := pk_end_set (pk_mid2 G5.out G6.out).2 (pk_mid2 G5.out G6.out).1 HZK.out (.int .u8 (sealAt 0 k0 bs)) (.int .u8 (sealAt 1 k1 bs)) (.int .u8 (sealAt 2 k2 bs)) (.int .u8 (sealAt 3 k3 bs)) (.int .u8 (sealAt 4 k4 bs)) (.int .u8 (sealAt 5 k5 bs)) (.int .u8 (sealAt 6 k6 bs)) (.int .u8 (sealAt 7 k7 bs))
         obtain ⟨hk, hb⟩ := H
         generalize World.setCell _ _ _ = W7 at hk hb ⊢
         generalize w5.heap.size = gz at hk ⊢)
      | (have H := pk_end_new (pk_mid1 G5.out G6.out) #[.int .u8 (sealAt 0 k0 bs), .int .u8 (sealAt 1 k1 bs), .int .u8 (sealAt 2 k2 bs), .int .u8 (sealAt 3 k3 bs), .int .u8 (sealAt 4 k4 bs), .int .u8 (sealAt 5 k5 bs), .int .u8 (sealAt 6 k6 bs), .int .u8 (sealAt 7 k7 bs)]
         obtain ⟨hk, hb⟩ := H
         generalize World.alloc w6 _ = W7 at hk hb ⊢
         generalize w6.heap.size = gz at hk ⊢)
    try clear HZK z0 z1 z2 z3 z4 z5 z6 z7 y0 y1 y2 y3 y4 y5 y6 y7
    try clear HZ5
    clear G5 G6 BK5 BK6 HA5 hne5 HBA HEK
    obtain ⟨qa, hqa⟩ : ∃ qa, qa = (#[.int .u8 (sealAt 0 k0 bs), .int .u8 (sealAt 1 k1 bs), .int .u8 (sealAt 2 k2 bs), .int .u8 (sealAt 3 k3 bs), .int .u8 (sealAt 4 k4 bs), .int .u8 (sealAt 5 k5 bs), .int .u8 (sealAt 6 k6 bs), .int .u8 (sealAt 7 k7 bs)] : Array Value) := ⟨_, rfl⟩
    rw [← hqa] at hk
    have HQA := Lib.hid hqa
    clear hqa hne
    have HB5 := Lib.hid (HB4.out.trans (Below.mono hb HB4.out.size))
    have HA5 := Lib.hid (HA4.out.below hb)
    have HP5 := Lib.hid (HP4.out.below hb)
    have HF5 := Lib.hid (HF4.out.below hb)
    have HX5 := Lib.hid (HX4.out.below hb)
    have HY5 := Lib.hid (HY4.out.below hb)
    clear HB4 HA4 HP4 HF4 HX4 HY4
    have HC5 := Lib.hid hk
    clear hk hb
    go_wp2_with (first
        | (refine wpList_load_row rfl 97 _ rfl gp rfl 97 pa (0, 0) _ HP5.out Tryz.underlying97 rfl ipa.out ?_))
    refine Calls.mono (HCHK.out _) ?_
    rintro x w8 ⟨rfl, hb⟩
    have HB6 := Lib.hid (HB5.out.trans (Below.mono hb HB5.out.size))
    have HA6 := Lib.hid (HA5.out.below hb)
    have HP6 := Lib.hid (HP5.out.below hb)
    have HF6 := Lib.hid (HF5.out.below hb)
    have HX6 := Lib.hid (HX5.out.below hb)
    have HY6 := Lib.hid (HY5.out.below hb)
    have HC6 := Lib.hid (HC5.out.below hb)
    clear HB5 HA5 HP5 HF5 HX5 HY5 HC5
    clear hb
    have BZ : Hid (Blk (w8.alloc (.cells #[.int .u8 0, .int .u8 0, .int .u8 0, .int .u8 0, .int .u8 0, .int .u8 0, .int .u8 0, .int .u8 0, .int .u8 0, .int .u8 0, .int .u8 0, .int .u8 0, .int .u8 0, .int .u8 0, .int .u8 0, .int .u8 0, .int .u8 0, .int .u8 0, .int .u8 0, .int .u8 0, .int .u8 0, .int .u8 0, .int .u8 0, .int .u8 0, .int .u8 0, .int .u8 0, .int .u8 0, .int .u8 0, .int .u8 0, .int .u8 0, .int .u8 0, .int .u8 0] 98)) w8.heap.size 98 #[.int .u8 0, .int .u8 0, .int .u8 0, .int .u8 0, .int .u8 0, .int .u8 0, .int .u8 0, .int .u8 0, .int .u8 0, .int .u8 0, .int .u8 0, .int .u8 0, .int .u8 0, .int .u8 0, .int .u8 0, .int .u8 0, .int .u8 0, .int .u8 0, .int .u8 0, .int .u8 0, .int .u8 0, .int .u8 0, .int .u8 0, .int .u8 0, .int .u8 0, .int .u8 0, .int .u8 0, .int .u8 0, .int .u8 0, .int .u8 0, .int .u8 0, .int .u8 0]) := Blk.new _ _ _
    go_upto_region 6 with (refine wpList_store_row rfl 98 _ _ rfl w8.heap.size _ rfl rfl 98 _ BZ.out (by kernel_rfl) rfl (by simp [Value.oneCell']) ?_)
    obtain ⟨w9, hW⟩ : ∃ X, X = (w8.alloc (.cells #[.int .u8 0, .int .u8 0, .int .u8 0, .int .u8 0, .int .u8 0, .int .u8 0, .int .u8 0, .int .u8 0, .int .u8 0, .int .u8 0, .int .u8 0, .int .u8 0, .int .u8 0, .int .u8 0, .int .u8 0, .int .u8 0, .int .u8 0, .int .u8 0, .int .u8 0, .int .u8 0, .int .u8 0, .int .u8 0, .int .u8 0, .int .u8 0, .int .u8 0, .int .u8 0, .int .u8 0, .int .u8 0, .int .u8 0, .int .u8 0, .int .u8 0, .int .u8 0] 98)).setRow w8.heap.size #[.int .u8 0, .int .u8 0, .int .u8 0, .int .u8 0, .int .u8 0, .int .u8 0, .int .u8 0, .int .u8 0, .int .u8 0, .int .u8 0, .int .u8 0, .int .u8 0, .int .u8 0, .int .u8 0, .int .u8 0, .int .u8 0, .int .u8 0, .int .u8 0, .int .u8 0, .int .u8 0, .int .u8 0, .int .u8 0, .int .u8 0, .int .u8 0, .int .u8 0, .int .u8 0, .int .u8 0, .int .u8 0, .int .u8 0, .int .u8 0, .int .u8 0, .int .u8 0] := ⟨_, rfl⟩
    rw [← hW]
    obtain ⟨hk, hb⟩ := box_facts_row #[.int .u8 0, .int .u8 0, .int .u8 0, .int .u8 0, .int .u8 0, .int .u8 0, .int .u8 0, .int .u8 0, .int .u8 0, .int .u8 0, .int .u8 0, .int .u8 0, .int .u8 0, .int .u8 0, .int .u8 0, .int .u8 0, .int .u8 0, .int .u8 0, .int .u8 0, .int .u8 0, .int .u8 0, .int .u8 0, .int .u8 0, .int .u8 0, .int .u8 0, .int .u8 0, .int .u8 0, .int .u8 0, .int .u8 0, .int .u8 0, .int .u8 0, .int .u8 0] #[.int .u8 0, .int .u8 0, .int .u8 0, .int .u8 0, .int .u8 0, .int .u8 0, .int .u8 0, .int .u8 0, .int .u8 0, .int .u8 0, .int .u8 0, .int .u8 0, .int .u8 0, .int .u8 0, .int .u8 0, .int .u8 0, .int .u8 0, .int .u8 0, .int .u8 0, .int .u8 0, .int .u8 0, .int .u8 0, .int .u8 0, .int .u8 0, .int .u8 0, .int .u8 0, .int .u8 0, .int .u8 0, .int .u8 0, .int .u8 0, .int .u8 0, .int .u8 0] 98 rfl w9 hW
    have hgeB := HB6.out.size
    have hlt_HA := lt_of_block HA6.out
    have hlt_HP := lt_of_block HP6.out
    have hlt_HF := lt_of_block HF6.out
    have hlt_HX := lt_of_block HX6.out
    have hlt_HY := lt_of_block HY6.out
    have hlt_HC := lt_of_block HC6.out
    have HB7 := Lib.hid (HB6.out.trans (Below.mono hb HB6.out.size))
    have HA7 := Lib.hid (HA6.out.below hb)
    have HP7 := Lib.hid (HP6.out.below hb)
    have HF7 := Lib.hid (HF6.out.below hb)
    have HX7 := Lib.hid (HX6.out.below hb)
    have HY7 := Lib.hid (HY6.out.below hb)
    have HC7 := Lib.hid (HC6.out.below hb)
    clear HB6 HA6 HP6 HF6 HX6 HY6 HC6
    have HW7 := Lib.hid hk
    obtain ⟨gf, hg⟩ : ∃ g, g = w8.heap.size := ⟨_, rfl⟩
    rw [← hg] at HW7 ⊢
    have HNE : Hid (gk ≠ gf ∧ gp ≠ gf ∧ gs ≠ gf ∧ gx ≠ gf ∧ gy ≠ gf ∧ gz ≠ gf ∧ w.heap.size ≤ gf) := by show _ ∧ _ ∧ _ ∧ _ ∧ _ ∧ _ ∧ _; omega
    clear hb hk hW hg BZ hgeB hlt_HA hlt_HP hlt_HF hlt_HX hlt_HY hlt_HC
    by_cases hE0 : E = 0
    · have HREN0 := Lib.hid (HREN.out hE0)
      have HEZ := Lib.hid hE0
      have hE1 : (E == 0) = true := by simp [hE0]
      clear hE0
      go_wp2_with (first
          | (refine wpList_load_row rfl 94 _ rfl gk rfl 94 ka (0, 0) _ HA7.out Tryz.underlying94 rfl ika.out ?_)
          | (refine wpList_load_row rfl 97 _ rfl gp rfl 97 pa (0, 0) _ HP7.out Tryz.underlying97 rfl ipa.out ?_))
      refine Calls.mono (HREN0.out.out _) ?_
      rintro x w10 ⟨rfl, hb⟩
      have HB8 := Lib.hid (HB7.out.trans (Below.mono hb HB7.out.size))
      have HA8 := Lib.hid (HA7.out.below hb)
      have HP8 := Lib.hid (HP7.out.below hb)
      have HF8 := Lib.hid (HF7.out.below hb)
      have HX8 := Lib.hid (HX7.out.below hb)
      have HY8 := Lib.hid (HY7.out.below hb)
      have HC8 := Lib.hid (HC7.out.below hb)
      have HW8 := Lib.hid (HW7.out.below hb)
      clear HB7 HA7 HP7 HF7 HX7 HY7 HC7 HW7
      clear hb
      go_upto_region 8 with (refine wpList_store_row rfl 98 _ _ rfl gf fa rfl rfl 98 _ HW8.out ifa.out ifaz.out fa1.out ?_)
      obtain ⟨w11, hW⟩ : ∃ X, X = World.setRow w10 gf fa := ⟨_, rfl⟩
      rw [← hW]
      have HB9 : Hid (Below w.heap.size w w11) := by show Below _ _ _; rw [hW]; exact HB8.out.setRow' HNE.out.2.2.2.2.2.2 _
      have HA9 := Lib.hid (HW8.out.setRow fa)
      clear HA9
      have HA9 := Lib.hid (HA8.out.setRow_far HNE.out.1 fa)
      rw [← hW] at HA9
      have HP9 := Lib.hid (HW8.out.setRow fa)
      clear HP9
      have HP9 := Lib.hid (HP8.out.setRow_far HNE.out.2.1 fa)
      rw [← hW] at HP9
      have HF9 := Lib.hid (HW8.out.setRow fa)
      clear HF9
      have HF9 := Lib.hid (HF8.out.setRow_far HNE.out.2.2.1 fa)
      rw [← hW] at HF9
      have HX9 := Lib.hid (HW8.out.setRow fa)
      clear HX9
      have HX9 := Lib.hid (HX8.out.setRow_far HNE.out.2.2.2.1 fa)
      rw [← hW] at HX9
      have HY9 := Lib.hid (HW8.out.setRow fa)
      clear HY9
      have HY9 := Lib.hid (HY8.out.setRow_far HNE.out.2.2.2.2.1 fa)
      rw [← hW] at HY9
      have HC9 := Lib.hid (HW8.out.setRow fa)
      clear HC9
      have HC9 := Lib.hid (HC8.out.setRow_far HNE.out.2.2.2.2.2.1 fa)
      rw [← hW] at HC9
      have HW9 := Lib.hid (HW8.out.setRow fa)
      rw [← hW] at HW9
      clear hW HB8 HA8 HP8 HF8 HX8 HY8 HC8 HW8
      go_wp2_with (first
          | (refine wpList_load_row rfl 94 _ rfl gk rfl 94 ka (0, 0) _ HA9.out Tryz.underlying94 rfl ika.out ?_)
          | (refine wpList_load_row rfl 98 _ rfl gs rfl 98 sa (0, 0) _ HF9.out Tryz.underlying98 rfl isa.out ?_))
      refine Calls.mono (HRDE.out _) ?_
      rintro x w12 ⟨rfl, hb⟩
      have HB10 := Lib.hid (HB9.out.trans (Below.mono hb HB9.out.size))
      have HA10 := Lib.hid (HA9.out.below hb)
      have HP10 := Lib.hid (HP9.out.below hb)
      have HF10 := Lib.hid (HF9.out.below hb)
      have HX10 := Lib.hid (HX9.out.below hb)
      have HY10 := Lib.hid (HY9.out.below hb)
      have HC10 := Lib.hid (HC9.out.below hb)
      have HW10 := Lib.hid (HW9.out.below hb)
      clear HB9 HA9 HP9 HF9 HX9 HY9 HC9 HW9
      clear hb
      go_upto_region 9 with (refine wpList_store_row rfl 97 _ _ rfl w12.heap.size da rfl rfl 97 _ (Blk.new _ _ _) idb.out idbz.out da1.out ?_)
      obtain ⟨w13, hW⟩ : ∃ X, X = (w12.alloc (.cells #[.int .i64 0, .int .i64 0, .int .i64 0, .int .i64 0, .int .u8 0, .int .u8 0, .int .u8 0, .int .u8 0, .int .u8 0, .int .u8 0, .int .u8 0, .int .u8 0, .int .u8 0, .int .u8 0, .int .u8 0, .int .u8 0, .int .u8 0, .int .u8 0, .int .u8 0, .int .u8 0, .int .u8 0, .int .u8 0] 97)).setRow w12.heap.size da := ⟨_, rfl⟩
      rw [← hW]
      obtain ⟨hk, hb⟩ := box_facts_row #[.int .i64 0, .int .i64 0, .int .i64 0, .int .i64 0, .int .u8 0, .int .u8 0, .int .u8 0, .int .u8 0, .int .u8 0, .int .u8 0, .int .u8 0, .int .u8 0, .int .u8 0, .int .u8 0, .int .u8 0, .int .u8 0, .int .u8 0, .int .u8 0, .int .u8 0, .int .u8 0, .int .u8 0, .int .u8 0] da 97 rfl w13 hW
      have HB11 := Lib.hid (HB10.out.trans (Below.mono hb HB10.out.size))
      have HA11 := Lib.hid (HA10.out.below hb)
      have HP11 := Lib.hid (HP10.out.below hb)
      have HF11 := Lib.hid (HF10.out.below hb)
      have HX11 := Lib.hid (HX10.out.below hb)
      have HY11 := Lib.hid (HY10.out.below hb)
      have HC11 := Lib.hid (HC10.out.below hb)
      have HW11 := Lib.hid (HW10.out.below hb)
      clear HB10 HA10 HP10 HF10 HX10 HY10 HC10 HW10
      have HV11 := Lib.hid hk
      obtain ⟨gv, hg⟩ : ∃ g, g = w12.heap.size := ⟨_, rfl⟩
      rw [← hg] at HV11 ⊢
      clear hb hk hW hg
      have iqa : (Tryz.prog.info? 94).map (·.size) = some qa.size := by rw [HQA.out]; kernel_rfl
      have L1 : ∀ d os, (loadVar 98 ⟨gx, 0, none⟩).run Tryz.prog (grow (redrawn w13 d) os) = .ok (.agg fa) (grow (redrawn w13 d) os) := fun d os => run_loadVar_row _ gx 98 98 fa (0, 0) _ (HX11.out.below (below_regrown w13 d os)) Tryz.underlying98 rfl ifa.out
      have L2 : ∀ d os, (loadVar 98 ⟨gf, 0, none⟩).run Tryz.prog (grow (redrawn w13 d) os) = .ok (.agg fa) (grow (redrawn w13 d) os) := fun d os => run_loadVar_row _ gf 98 98 fa (0, 0) _ (HW11.out.below (below_regrown w13 d os)) Tryz.underlying98 rfl ifa.out
      have L3 : ∀ d os, (loadVar 101 ⟨gy, 0, none⟩).run Tryz.prog (grow (redrawn w13 d) os) = .ok (.agg da) (grow (redrawn w13 d) os) := fun d os => run_loadVar_row _ gy 101 101 da (0, 0) _ (HY11.out.below (below_regrown w13 d os)) Tryz.underlying101 rfl ida.out
      have L4 : ∀ d os, (loadVar 97 ⟨gv, 0, none⟩).run Tryz.prog (grow (redrawn w13 d) os) = .ok (.agg da) (grow (redrawn w13 d) os) := fun d os => run_loadVar_row _ gv 97 97 da (0, 0) _ (HV11.out.below (below_regrown w13 d os)) Tryz.underlying97 rfl idb.out
      have L5 : ∀ d os, (loadVar 94 ⟨gz, 0, none⟩).run Tryz.prog (grow (redrawn w13 d) os) = .ok (.agg qa) (grow (redrawn w13 d) os) := fun d os => run_loadVar_row _ gz 94 94 qa (0, 0) _ (HC11.out.below (below_regrown w13 d os)) Tryz.underlying94 rfl iqa
      have L6 : ∀ d os, (loadVar 94 ⟨gk, 0, none⟩).run Tryz.prog (grow (redrawn w13 d) os) = .ok (.agg ka) (grow (redrawn w13 d) os) := fun d os => run_loadVar_row _ gk 94 94 ka (0, 0) _ (HA11.out.below (below_regrown w13 d os)) Tryz.underlying94 rfl ika.out
      have hqs : qa = bytesA (sealL ks bs) := by rw [HQA.out, HKS.out]; rfl
      have q1 := QF.out
      have q2 := QD.out
      have q3 : ∀ W : World, (Op.equalIn 10000 94 (.agg qa) (.agg qa)).run Tryz.prog W = .ok true W := fun W => by rw [hqs]; exact eq_sameKey _ (sealL_len _ _) W
      have bw : ∀ d os, Below w.heap.size w (grow (redrawn w13 d) os) := fun d os => HB11.out.trans ((below_regrown w13 d os).mono HB11.out.size)
      have cA : ∀ d os, Calls Tryz.prog 17 #[] (grow (redrawn w13 d) os) fun e w'' => e = .returned (.bool true) ∧ ∃ p : Regrown, w'' = grow (redrawn w13 p.d) p.os := fun d os =>
        Calls.regrown_of (awake_any _ (HS_.out.keep (bw d os)) (HT_.out.keep (bw d os)))
      have cS : ∀ d os, Calls Tryz.prog 74 #[.agg ka, .slice (some ⟨gs, 0, none⟩) 32 32] (grow (redrawn w13 d) os) fun e w'' => e = .returned (.agg qa) ∧ ∃ p : Regrown, w'' = grow (redrawn w13 p.d) p.os := fun d os => by
        have hz := HF11.out.below (below_regrown w13 d os)
        rw [HSA.out] at hz
        have hz := bytesAt_blk bs HLB.out hz
        rw [HL.out] at hz
        rw [show ka = #[.int .u8 k0, .int .u8 k1, .int .u8 k2, .int .u8 k3, .int .u8 k4, .int .u8 k5, .int .u8 k6, .int .u8 k7] by rw [HKA.out, HKS.out]; rfl, HQA.out]
        exact Calls.regrown_of (refSeal_any k0 k1 k2 k3 k4 k5 k6 k7 _ 32 32 bs _ (by decide) HK8.out hz)
      have m1 : Tryz.prog.eqGuardType Tryz.prog.depth 98 = false := by kernel_rfl
      have m2 : Tryz.prog.eqGuardType Tryz.prog.depth 97 = false := by kernel_rfl
      have m3 : Tryz.prog.eqGuardType Tryz.prog.depth 94 = false := by kernel_rfl
      clear HS_ HT_ HENC HDEC HCHK HREN HRDE QF QD HKA HPA HSA HFA HDA HE HK HKB HL HLB HPS HQA HKS HK8 hqs iqa
      clear HB11 HA11 HP11 HF11 HX11 HY11 HC11 HW11 HV11
      try clear HREN0 HEZ
      refine wp_region_quiet_below (by kernel_rfl) (by kernel_rfl) ?_
      refine wpQuiet_row _ _ rfl (by rfl) gx fa rfl L1 ?_
      refine wpQuiet_row _ _ rfl (by rfl) gf fa rfl L2 ?_
      iterate 7 (quiet_step (fail))
      refine wpQuiet_row _ _ rfl (by rfl) gy da rfl L3 ?_
      refine wpQuiet_row _ _ rfl (by rfl) gv da rfl L4 ?_
      iterate 8 (quiet_step (fail))
      refine wpQuiet_row _ _ rfl (by rfl) gz qa rfl L5 ?_
      refine wpQuiet_row _ _ rfl (by rfl) gk ka rfl L6 ?_
      repeat (quiet_step (first | exact cS _ _ | exact cA _ _))
      refine wpQuiet_nil ?_
      intro _ hw'
      obtain ⟨⟨dq, osq⟩, hw''⟩ := hw'
      subst hw''
      go_wp2
      go_ret
      exact ⟨rfl, bw dq osq⟩
    · have hE1 : (E == 0) = false := by simp [hE0]
      have hz : #[.int .u8 0, .int .u8 0, .int .u8 0, .int .u8 0, .int .u8 0, .int .u8 0, .int .u8 0, .int .u8 0, .int .u8 0, .int .u8 0, .int .u8 0, .int .u8 0, .int .u8 0, .int .u8 0, .int .u8 0, .int .u8 0, .int .u8 0, .int .u8 0, .int .u8 0, .int .u8 0, .int .u8 0, .int .u8 0, .int .u8 0, .int .u8 0, .int .u8 0, .int .u8 0, .int .u8 0, .int .u8 0, .int .u8 0, .int .u8 0, .int .u8 0, .int .u8 0] = fa := by rw [HFA.out, encodeA_bad ks p (by rw [← HE.out]; exact hE0)]; rfl
      rw [hz] at HW7
      clear hz hE0
      go_upto_region 8 with fail
      go_wp2_with (first
          | (refine wpList_load_row rfl 94 _ rfl gk rfl 94 ka (0, 0) _ HA7.out Tryz.underlying94 rfl ika.out ?_)
          | (refine wpList_load_row rfl 98 _ rfl gs rfl 98 sa (0, 0) _ HF7.out Tryz.underlying98 rfl isa.out ?_))
      refine Calls.mono (HRDE.out _) ?_
      rintro x w12 ⟨rfl, hb⟩
      have HB8 := Lib.hid (HB7.out.trans (Below.mono hb HB7.out.size))
      have HA8 := Lib.hid (HA7.out.below hb)
      have HP8 := Lib.hid (HP7.out.below hb)
      have HF8 := Lib.hid (HF7.out.below hb)
      have HX8 := Lib.hid (HX7.out.below hb)
      have HY8 := Lib.hid (HY7.out.below hb)
      have HC8 := Lib.hid (HC7.out.below hb)
      have HW8 := Lib.hid (HW7.out.below hb)
      clear HB7 HA7 HP7 HF7 HX7 HY7 HC7 HW7
      clear hb
      go_upto_region 9 with (refine wpList_store_row rfl 97 _ _ rfl w12.heap.size da rfl rfl 97 _ (Blk.new _ _ _) idb.out idbz.out da1.out ?_)
      obtain ⟨w13, hW⟩ : ∃ X, X = (w12.alloc (.cells #[.int .i64 0, .int .i64 0, .int .i64 0, .int .i64 0, .int .u8 0, .int .u8 0, .int .u8 0, .int .u8 0, .int .u8 0, .int .u8 0, .int .u8 0, .int .u8 0, .int .u8 0, .int .u8 0, .int .u8 0, .int .u8 0, .int .u8 0, .int .u8 0, .int .u8 0, .int .u8 0, .int .u8 0, .int .u8 0] 97)).setRow w12.heap.size da := ⟨_, rfl⟩
      rw [← hW]
      obtain ⟨hk, hb⟩ := box_facts_row #[.int .i64 0, .int .i64 0, .int .i64 0, .int .i64 0, .int .u8 0, .int .u8 0, .int .u8 0, .int .u8 0, .int .u8 0, .int .u8 0, .int .u8 0, .int .u8 0, .int .u8 0, .int .u8 0, .int .u8 0, .int .u8 0, .int .u8 0, .int .u8 0, .int .u8 0, .int .u8 0, .int .u8 0, .int .u8 0] da 97 rfl w13 hW
      have HB9 := Lib.hid (HB8.out.trans (Below.mono hb HB8.out.size))
      have HA9 := Lib.hid (HA8.out.below hb)
      have HP9 := Lib.hid (HP8.out.below hb)
      have HF9 := Lib.hid (HF8.out.below hb)
      have HX9 := Lib.hid (HX8.out.below hb)
      have HY9 := Lib.hid (HY8.out.below hb)
      have HC9 := Lib.hid (HC8.out.below hb)
      have HW9 := Lib.hid (HW8.out.below hb)
      clear HB8 HA8 HP8 HF8 HX8 HY8 HC8 HW8
      have HV9 := Lib.hid hk
      obtain ⟨gv, hg⟩ : ∃ g, g = w12.heap.size := ⟨_, rfl⟩
      rw [← hg] at HV9 ⊢
      clear hb hk hW hg
      have iqa : (Tryz.prog.info? 94).map (·.size) = some qa.size := by rw [HQA.out]; kernel_rfl
      have L1 : ∀ d os, (loadVar 98 ⟨gx, 0, none⟩).run Tryz.prog (grow (redrawn w13 d) os) = .ok (.agg fa) (grow (redrawn w13 d) os) := fun d os => run_loadVar_row _ gx 98 98 fa (0, 0) _ (HX9.out.below (below_regrown w13 d os)) Tryz.underlying98 rfl ifa.out
      have L2 : ∀ d os, (loadVar 98 ⟨gf, 0, none⟩).run Tryz.prog (grow (redrawn w13 d) os) = .ok (.agg fa) (grow (redrawn w13 d) os) := fun d os => run_loadVar_row _ gf 98 98 fa (0, 0) _ (HW9.out.below (below_regrown w13 d os)) Tryz.underlying98 rfl ifa.out
      have L3 : ∀ d os, (loadVar 101 ⟨gy, 0, none⟩).run Tryz.prog (grow (redrawn w13 d) os) = .ok (.agg da) (grow (redrawn w13 d) os) := fun d os => run_loadVar_row _ gy 101 101 da (0, 0) _ (HY9.out.below (below_regrown w13 d os)) Tryz.underlying101 rfl ida.out
      have L4 : ∀ d os, (loadVar 97 ⟨gv, 0, none⟩).run Tryz.prog (grow (redrawn w13 d) os) = .ok (.agg da) (grow (redrawn w13 d) os) := fun d os => run_loadVar_row _ gv 97 97 da (0, 0) _ (HV9.out.below (below_regrown w13 d os)) Tryz.underlying97 rfl idb.out
      have L5 : ∀ d os, (loadVar 94 ⟨gz, 0, none⟩).run Tryz.prog (grow (redrawn w13 d) os) = .ok (.agg qa) (grow (redrawn w13 d) os) := fun d os => run_loadVar_row _ gz 94 94 qa (0, 0) _ (HC9.out.below (below_regrown w13 d os)) Tryz.underlying94 rfl iqa
      have L6 : ∀ d os, (loadVar 94 ⟨gk, 0, none⟩).run Tryz.prog (grow (redrawn w13 d) os) = .ok (.agg ka) (grow (redrawn w13 d) os) := fun d os => run_loadVar_row _ gk 94 94 ka (0, 0) _ (HA9.out.below (below_regrown w13 d os)) Tryz.underlying94 rfl ika.out
      have hqs : qa = bytesA (sealL ks bs) := by rw [HQA.out, HKS.out]; rfl
      have q1 := QF.out
      have q2 := QD.out
      have q3 : ∀ W : World, (Op.equalIn 10000 94 (.agg qa) (.agg qa)).run Tryz.prog W = .ok true W := fun W => by rw [hqs]; exact eq_sameKey _ (sealL_len _ _) W
      have bw : ∀ d os, Below w.heap.size w (grow (redrawn w13 d) os) := fun d os => HB9.out.trans ((below_regrown w13 d os).mono HB9.out.size)
      have cA : ∀ d os, Calls Tryz.prog 17 #[] (grow (redrawn w13 d) os) fun e w'' => e = .returned (.bool true) ∧ ∃ p : Regrown, w'' = grow (redrawn w13 p.d) p.os := fun d os =>
        Calls.regrown_of (awake_any _ (HS_.out.keep (bw d os)) (HT_.out.keep (bw d os)))
      have cS : ∀ d os, Calls Tryz.prog 74 #[.agg ka, .slice (some ⟨gs, 0, none⟩) 32 32] (grow (redrawn w13 d) os) fun e w'' => e = .returned (.agg qa) ∧ ∃ p : Regrown, w'' = grow (redrawn w13 p.d) p.os := fun d os => by
        have hz := HF9.out.below (below_regrown w13 d os)
        rw [HSA.out] at hz
        have hz := bytesAt_blk bs HLB.out hz
        rw [HL.out] at hz
        rw [show ka = #[.int .u8 k0, .int .u8 k1, .int .u8 k2, .int .u8 k3, .int .u8 k4, .int .u8 k5, .int .u8 k6, .int .u8 k7] by rw [HKA.out, HKS.out]; rfl, HQA.out]
        exact Calls.regrown_of (refSeal_any k0 k1 k2 k3 k4 k5 k6 k7 _ 32 32 bs _ (by decide) HK8.out hz)
      have m1 : Tryz.prog.eqGuardType Tryz.prog.depth 98 = false := by kernel_rfl
      have m2 : Tryz.prog.eqGuardType Tryz.prog.depth 97 = false := by kernel_rfl
      have m3 : Tryz.prog.eqGuardType Tryz.prog.depth 94 = false := by kernel_rfl
      clear HS_ HT_ HENC HDEC HCHK HREN HRDE QF QD HKA HPA HSA HFA HDA HE HK HKB HL HLB HPS HQA HKS HK8 hqs iqa
      clear HB9 HA9 HP9 HF9 HX9 HY9 HC9 HW9 HV9
      try clear HREN0 HEZ
      refine wp_region_quiet_below (by kernel_rfl) (by kernel_rfl) ?_
      refine wpQuiet_row _ _ rfl (by rfl) gx fa rfl L1 ?_
      refine wpQuiet_row _ _ rfl (by rfl) gf fa rfl L2 ?_
      iterate 7 (quiet_step (fail))
      refine wpQuiet_row _ _ rfl (by rfl) gy da rfl L3 ?_
      refine wpQuiet_row _ _ rfl (by rfl) gv da rfl L4 ?_
      iterate 8 (quiet_step (fail))
      refine wpQuiet_row _ _ rfl (by rfl) gz qa rfl L5 ?_
      refine wpQuiet_row _ _ rfl (by rfl) gk ka rfl L6 ?_
      repeat (quiet_step (first | exact cS _ _ | exact cA _ _))
      refine wpQuiet_nil ?_
      intro _ hw'
      obtain ⟨⟨dq, osq⟩, hw''⟩ := hw'
      subst hw''
      go_wp2
      go_ret
      exact ⟨rfl, bw dq osq⟩
end Go.Proofs.YtoipafnlcchmbaaGreatDoor
