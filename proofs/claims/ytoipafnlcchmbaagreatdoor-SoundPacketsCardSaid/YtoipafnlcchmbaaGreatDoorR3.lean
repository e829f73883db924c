/- The reference's Encode (made by wip/tools/gen_re.py). -/
import Derived.Test.YtoipafnlcchmbaaGreatDoorQH
import Derived.Test.YtoipafnlcchmbaaGreatDoorQF
import Derived.WalkMore
namespace Go.Proofs.YtoipafnlcchmbaaGreatDoor
open Go.RowKit

set_option maxHeartbeats 6000000 in
set_option maxRecDepth 100000 in
theorem refEncode_any (ks : List Int) (p : Pk) (w : World) (hk : ks.length = 8) (hb : AllB ks) (hps : p.ps.length = 18) (hpb : AllB p.ps) (HE0 : Hid (p.err = 0)) :
    Calls Tryz.prog 72 #[.agg (bytesA ks), .agg p.cells] w fun e w' => e = .returned (.agg (bytesA (frameL ks p))) ∧ Below w.heap.size w w' := by
  obtain ⟨ka, hka⟩ : ∃ ka, ka = bytesA ks := ⟨_, rfl⟩
  obtain ⟨pa, hpa⟩ : ∃ pa, pa = p.cells := ⟨_, rfl⟩
  rw [← hka, ← hpa]
  have HKA := Lib.hid hka
  have HPA := Lib.hid hpa
  clear hka hpa
  go_enter Tryz.func72, Tryz.ntmps72
  go_upto_region 1 with fail
  obtain ⟨W0, hW0⟩ : ∃ W0, W0 = ((w.alloc (.cells ka 94)).alloc (.cells pa 97)).alloc (.cells #[Value.int .u8 0, Value.int .u8 0, Value.int .u8 0, Value.int .u8 0, Value.int .u8 0, Value.int .u8 0, Value.int .u8 0, Value.int .u8 0, Value.int .u8 0, Value.int .u8 0, Value.int .u8 0, Value.int .u8 0, Value.int .u8 0, Value.int .u8 0, Value.int .u8 0, Value.int .u8 0, Value.int .u8 0, Value.int .u8 0, Value.int .u8 0, Value.int .u8 0, Value.int .u8 0, Value.int .u8 0, Value.int .u8 0, Value.int .u8 0, Value.int .u8 0, Value.int .u8 0, Value.int .u8 0, Value.int .u8 0, Value.int .u8 0, Value.int .u8 0, Value.int .u8 0, Value.int .u8 0] 98) := ⟨_, rfl⟩
  rw [← hW0]
  have B0 : Hid (Blk W0 w.heap.size 94 ka) := by rw [hW0]; exact ((Blk.new w _ _).alloc _).alloc _
  have B1 : Hid (Blk W0 (w.heap.size + 1) 97 pa) := by rw [hW0]; have := (Blk.new (w.alloc (.cells ka 94)) 97 pa).alloc (.cells #[Value.int .u8 0, Value.int .u8 0, Value.int .u8 0, Value.int .u8 0, Value.int .u8 0, Value.int .u8 0, Value.int .u8 0, Value.int .u8 0, Value.int .u8 0, Value.int .u8 0, Value.int .u8 0, Value.int .u8 0, Value.int .u8 0, Value.int .u8 0, Value.int .u8 0, Value.int .u8 0, Value.int .u8 0, Value.int .u8 0, Value.int .u8 0, Value.int .u8 0, Value.int .u8 0, Value.int .u8 0, Value.int .u8 0, Value.int .u8 0, Value.int .u8 0, Value.int .u8 0, Value.int .u8 0, Value.int .u8 0, Value.int .u8 0, Value.int .u8 0, Value.int .u8 0, Value.int .u8 0] 98); rw [size_alloc1] at this; exact this
  have B2 : Hid (Blk W0 (w.heap.size + 1 + 1) 98 #[Value.int .u8 0, Value.int .u8 0, Value.int .u8 0, Value.int .u8 0, Value.int .u8 0, Value.int .u8 0, Value.int .u8 0, Value.int .u8 0, Value.int .u8 0, Value.int .u8 0, Value.int .u8 0, Value.int .u8 0, Value.int .u8 0, Value.int .u8 0, Value.int .u8 0, Value.int .u8 0, Value.int .u8 0, Value.int .u8 0, Value.int .u8 0, Value.int .u8 0, Value.int .u8 0, Value.int .u8 0, Value.int .u8 0, Value.int .u8 0, Value.int .u8 0, Value.int .u8 0, Value.int .u8 0, Value.int .u8 0, Value.int .u8 0, Value.int .u8 0, Value.int .u8 0, Value.int .u8 0]) := by rw [hW0]; have := Blk.new ((w.alloc (.cells ka 94)).alloc (.cells pa 97)) 98 #[Value.int .u8 0, Value.int .u8 0, Value.int .u8 0, Value.int .u8 0, Value.int .u8 0, Value.int .u8 0, Value.int .u8 0, Value.int .u8 0, Value.int .u8 0, Value.int .u8 0, Value.int .u8 0, Value.int .u8 0, Value.int .u8 0, Value.int .u8 0, Value.int .u8 0, Value.int .u8 0, Value.int .u8 0, Value.int .u8 0, Value.int .u8 0, Value.int .u8 0, Value.int .u8 0, Value.int .u8 0, Value.int .u8 0, Value.int .u8 0, Value.int .u8 0, Value.int .u8 0, Value.int .u8 0, Value.int .u8 0, Value.int .u8 0, Value.int .u8 0, Value.int .u8 0, Value.int .u8 0]; rw [size_alloc1, size_alloc1] at this; exact this
  have hB : Hid (Below w.heap.size w W0) := by rw [hW0]; exact (((Below.refl _ w).alloc (Nat.le_refl _) _).alloc (by rw [size_alloc1]; omega) _).alloc (by rw [size_alloc1, size_alloc1]; omega) _
  clear hW0
  obtain ⟨w1, hw1⟩ : ∃ w1, w1 = W0 := ⟨_, rfl⟩
  rw [← hw1]
  have C0 := B0
  have C1 := B1
  have C2 := B2
  have hC := hB
  rw [← hw1] at C0 C1 C2 hC
  clear B0 B1 B2 hB hw1
  obtain ⟨⟨s1, s2⟩, ⟨k1, k2⟩, ⟨d1, d2⟩, ⟨l1, l2⟩⟩ := packetE_bd p HE0.out
  obtain ⟨st, hst⟩ : ∃ st, st = p.st := ⟨_, rfl⟩
  obtain ⟨kd, hkd⟩ : ∃ kd, kd = p.kd := ⟨_, rfl⟩
  obtain ⟨ct, hct⟩ : ∃ ct, ct = p.ct := ⟨_, rfl⟩
  obtain ⟨ln, hln⟩ : ∃ ln, ln = p.ln := ⟨_, rfl⟩
  have c0 : w1.cell? ⟨w.heap.size + 1, 0, none⟩ = some (.int .i64 p.st) := by rw [C1.out.cell 0, HPA.out]; exact pkA_0 p.st p.kd p.ct p.ln p.ps
  have c1 : w1.cell? ⟨w.heap.size + 1, 1, none⟩ = some (.int .i64 p.kd) := by rw [C1.out.cell 1, HPA.out]; exact pkA_1 p.st p.kd p.ct p.ln p.ps
  have c2 : w1.cell? ⟨w.heap.size + 1, 2, none⟩ = some (.int .i64 p.ct) := by rw [C1.out.cell 2, HPA.out]; exact pkA_2 p.st p.kd p.ct p.ln p.ps
  have c3 : w1.cell? ⟨w.heap.size + 1, 3, none⟩ = some (.int .i64 p.ln) := by rw [C1.out.cell 3, HPA.out]; exact pkA_3 p.st p.kd p.ct p.ln p.ps
  rw [← hst] at c0 s1 s2
  rw [← hkd] at c1 k1 k2
  rw [← hct] at c2 d1 d2
  rw [← hln] at c3 l1 l2
  have H1 := Lib.hid hst
  have H2 := Lib.hid hkd
  have H3 := Lib.hid hct
  have H4 := Lib.hid hln
  clear hst hkd hct hln
  have BZ : Hid (Blk (w1.alloc (.cells #[Value.int .u8 0, Value.int .u8 0, Value.int .u8 0, Value.int .u8 0, Value.int .u8 0, Value.int .u8 0, Value.int .u8 0, Value.int .u8 0, Value.int .u8 0, Value.int .u8 0, Value.int .u8 0, Value.int .u8 0, Value.int .u8 0, Value.int .u8 0, Value.int .u8 0, Value.int .u8 0, Value.int .u8 0, Value.int .u8 0, Value.int .u8 0, Value.int .u8 0, Value.int .u8 0, Value.int .u8 0, Value.int .u8 0, Value.int .u8 0, Value.int .u8 0, Value.int .u8 0, Value.int .u8 0, Value.int .u8 0, Value.int .u8 0, Value.int .u8 0, Value.int .u8 0, Value.int .u8 0] 98)) w1.heap.size 98 #[Value.int .u8 0, Value.int .u8 0, Value.int .u8 0, Value.int .u8 0, Value.int .u8 0, Value.int .u8 0, Value.int .u8 0, Value.int .u8 0, Value.int .u8 0, Value.int .u8 0, Value.int .u8 0, Value.int .u8 0, Value.int .u8 0, Value.int .u8 0, Value.int .u8 0, Value.int .u8 0, Value.int .u8 0, Value.int .u8 0, Value.int .u8 0, Value.int .u8 0, Value.int .u8 0, Value.int .u8 0, Value.int .u8 0, Value.int .u8 0, Value.int .u8 0, Value.int .u8 0, Value.int .u8 0, Value.int .u8 0, Value.int .u8 0, Value.int .u8 0, Value.int .u8 0, Value.int .u8 0]) := Blk.new w1 _ _
  go_upto_region 2 with (refine wpList_store_row rfl 98 _ _ rfl w1.heap.size _ rfl rfl 98 _ BZ.out (by kernel_rfl) rfl (by simp [Value.oneCell']) ?_)
  obtain ⟨g, hg⟩ : ∃ g, g = w1.heap.size := ⟨_, rfl⟩
  rw [← hg] at BZ ⊢
  have hgw : w.heap.size + 1 + 1 < g := by rw [hg]; exact lt_of_block C2.out
  obtain ⟨W2, hW2⟩ : ∃ W2, W2 = (w1.alloc (.cells #[Value.int .u8 0, Value.int .u8 0, Value.int .u8 0, Value.int .u8 0, Value.int .u8 0, Value.int .u8 0, Value.int .u8 0, Value.int .u8 0, Value.int .u8 0, Value.int .u8 0, Value.int .u8 0, Value.int .u8 0, Value.int .u8 0, Value.int .u8 0, Value.int .u8 0, Value.int .u8 0, Value.int .u8 0, Value.int .u8 0, Value.int .u8 0, Value.int .u8 0, Value.int .u8 0, Value.int .u8 0, Value.int .u8 0, Value.int .u8 0, Value.int .u8 0, Value.int .u8 0, Value.int .u8 0, Value.int .u8 0, Value.int .u8 0, Value.int .u8 0, Value.int .u8 0, Value.int .u8 0] 98)).setRow g #[.int .u8 93, .int .u8 st, .int .u8 kd, .int .u8 (ct % 256), .int .u8 (ct / 256), .int .u8 ln, .int .u8 0, .int .u8 0, .int .u8 0, .int .u8 0, .int .u8 0, .int .u8 0, .int .u8 0, .int .u8 0, .int .u8 0, .int .u8 0, .int .u8 0, .int .u8 0, .int .u8 0, .int .u8 0, .int .u8 0, .int .u8 0, .int .u8 0, .int .u8 0, .int .u8 0, .int .u8 0, .int .u8 0, .int .u8 0, .int .u8 0, .int .u8 0, .int .u8 0, .int .u8 0] := ⟨_, rfl⟩
  rw [← hW2]
  have D0 : Hid (Blk W2 w.heap.size 94 ka) := by rw [hW2]; exact (C0.out.alloc _).setRow_far (by omega) _
  have D1 : Hid (Blk W2 (w.heap.size + 1) 97 pa) := by rw [hW2]; exact (C1.out.alloc _).setRow_far (by omega) _
  have D2 : Hid (Blk W2 (w.heap.size + 1 + 1) 98 #[Value.int .u8 0, Value.int .u8 0, Value.int .u8 0, Value.int .u8 0, Value.int .u8 0, Value.int .u8 0, Value.int .u8 0, Value.int .u8 0, Value.int .u8 0, Value.int .u8 0, Value.int .u8 0, Value.int .u8 0, Value.int .u8 0, Value.int .u8 0, Value.int .u8 0, Value.int .u8 0, Value.int .u8 0, Value.int .u8 0, Value.int .u8 0, Value.int .u8 0, Value.int .u8 0, Value.int .u8 0, Value.int .u8 0, Value.int .u8 0, Value.int .u8 0, Value.int .u8 0, Value.int .u8 0, Value.int .u8 0, Value.int .u8 0, Value.int .u8 0, Value.int .u8 0, Value.int .u8 0]) := by rw [hW2]; exact (C2.out.alloc _).setRow_far (by omega) _
  have D7 : Hid (Blk W2 g 98 (bytesA ([93, st, kd, ct % 256, ct / 256, ln] ++ List.replicate 26 0))) := by rw [hW2]; exact BZ.out.setRow _
  have hD : Hid (Below w.heap.size w W2) := by rw [hW2]; exact (hC.out.alloc hC.out.size _).setRow' (by omega) _
  clear hW2 BZ C0 C1 C2 c0 c1 c2 c3 hg
  simp only [Act.put]
  refine wp_region_still_tail 3 (by kernel_rfl) (by kernel_rfl) ?_
  simp only [List.take_succ_cons, List.take_zero, List.drop_succ_cons, List.drop_zero]
  change wpStill _ _ (World.drew _) _ _ _
  repeat still_step
  refine wpStill_nil ?_
  change wpList _ _ _ _ _ (World.drew _)
  have hcur : W2.drew.heap[g]? = some (Obj.cells ((([93, st, kd, ct % 256, ct / 256, ln] ++ List.replicate 26 0).map (Value.int .u8)) : List Value).toArray 98 (0, 0)) := D7.out.drew
  refine wpList_copy_splice rfl (.tmp 25) (.tmp 27) 106 106 rfl 5 Tryz.underlying106 (by kernel_rfl) (some ⟨g, 6, none⟩) (some ⟨w.heap.size + 1, 4, none⟩) 18 26 18 18 rfl rfl g 6 (([93, st, kd, ct % 256, ct / 256, ln] ++ List.replicate 26 0).map (Value.int .u8)) 98 hcur (p.ps.map (Value.int .u8)) (by simp [hps])
    (fun _ => ⟨rfl, ⟨w.heap.size + 1, 4, none⟩, rfl, fun j v hj => ?_⟩) (by simp [hps]) (fun v hv => ?_) g W2 ((Below.refl _ _).drew) (Nat.le_refl _) ?_
  · have h18 : j < p.ps.length := by have := (List.getElem?_eq_some_iff.1 hj).1; simpa using this
    rw [Addr.add_mid, D1.out.drew.cell (4 + j), HPA.out]
    have := pkA_4 p.st p.kd p.ct p.ln p.ps j h18
    unfold Pk.cells
    rw [this, ← hj]
    simp [List.getD_eq_getElem?_getD, h18]
  · obtain ⟨x, _, rfl⟩ := List.mem_map.1 hv
    rfl
  intro w3 hsp hb3
  have D7' : Hid (Blk w3 g 98 (bytesA (bodyL p ++ List.replicate 8 0))) := by
    have := hsp.out
    rw [splice_body st kd (ct % 256) (ct / 256) ln p.ps hps] at this
    rw [H1.out, H2.out, H3.out, H4.out] at this
    exact this
  have E0 : Hid (Blk w3 w.heap.size 94 ka) := (hb3.block _ (by omega)).trans D0.out
  have E2 : Hid (Blk w3 (w.heap.size + 1 + 1) 98 #[Value.int .u8 0, Value.int .u8 0, Value.int .u8 0, Value.int .u8 0, Value.int .u8 0, Value.int .u8 0, Value.int .u8 0, Value.int .u8 0, Value.int .u8 0, Value.int .u8 0, Value.int .u8 0, Value.int .u8 0, Value.int .u8 0, Value.int .u8 0, Value.int .u8 0, Value.int .u8 0, Value.int .u8 0, Value.int .u8 0, Value.int .u8 0, Value.int .u8 0, Value.int .u8 0, Value.int .u8 0, Value.int .u8 0, Value.int .u8 0, Value.int .u8 0, Value.int .u8 0, Value.int .u8 0, Value.int .u8 0, Value.int .u8 0, Value.int .u8 0, Value.int .u8 0, Value.int .u8 0]) := (hb3.block _ (by omega)).trans D2.out
  have hE : Hid (Below w.heap.size w w3) := hD.out.trans (hb3.mono (by omega))
  have hgs : g < w3.heap.size := lt_of_block D7'.out
  clear hsp hcur hb3 D0 D1 D2 D7 hD
  go_upto_region 3 with fail
  generalize goInt _ = v35
  simp only [Act.put]
  obtain ⟨k0, k1, k2, k3, k4, k5, k6, k7, hks⟩ : ∃ k0 k1 k2 k3 k4 k5 k6 k7, ks = [k0, k1, k2, k3, k4, k5, k6, k7] := by
    match ks, hk with
    | [k0, k1, k2, k3, k4, k5, k6, k7], _ => exact ⟨_, _, _, _, _, _, _, _, rfl⟩
  have EK : Blk w3 w.heap.size 94 #[.int .u8 k0, .int .u8 k1, .int .u8 k2, .int .u8 k3, .int .u8 k4, .int .u8 k5, .int .u8 k6, .int .u8 k7] := by
    have := E0.out
    rw [HKA.out, hks] at this
    exact this
  have HK8 : Hid (Key8 k0 k1 k2 k3 k4 k5 k6 k7) := fun i hi => by
    have := hb i (by omega)
    rw [hks] at this
    exact this
  have HKS := Lib.hid hks
  have hbl : (bodyL p).length = 24 := by simp [bodyL, hps]
  have HBA : Hid (∀ W, Below w3.heap.size w3 W → BytesAt W (some ⟨g, 0, none⟩) 24 (bodyL p)) := fun W hW =>
    (show BytesAt w3 (some ⟨g, 0, none⟩) 24 (bodyL p) from ⟨hbl, fun i hi => bodyL_bd p hps hpb HE0.out i hi, fun _ => ⟨g, 0, rfl, fun i hi => by
      rw [Nat.zero_add, D7'.out.cell i, bytesA_at _ i (by simp [hbl]; omega)]
      simp [List.getD_eq_getElem?_getD, List.getElem?_append_left (show i < (bodyL p).length by omega)]⟩⟩).keep hW
  clear hks hb hbl
  have HEK := Lib.hid EK
  have hne : w.heap.size ≠ w3.heap.size := by omega
  have xc0 := EK.cell 0; have xf0 := EK.frozen 0; have xc1 := EK.cell 1; have xf1 := EK.frozen 1; have xc2 := EK.cell 2; have xf2 := EK.frozen 2; have xc3 := EK.cell 3; have xf3 := EK.frozen 3; have xc4 := EK.cell 4; have xf4 := EK.frozen 4; have xc5 := EK.cell 5; have xf5 := EK.frozen 5; have xc6 := EK.cell 6; have xf6 := EK.frozen 6; have xc7 := EK.cell 7; have xf7 := EK.frozen 7
  simp only [List.getElem?_toArray, List.getElem?_cons_zero, List.getElem?_cons_succ] at xc0 xc1 xc2 xc3 xc4 xc5 xc6 xc7
  clear EK
  clear xf0 xf1 xf2 xf3 xf4 xf5 xf6 xf7
  go_region_held3 (fun W => W.cell? ⟨w.heap.size, 0, none⟩ = some (.int .u8 k0) ∧ W.cell? ⟨w.heap.size, 1, none⟩ = some (.int .u8 k1) ∧ W.cell? ⟨w.heap.size, 2, none⟩ = some (.int .u8 k2) ∧ W.cell? ⟨w.heap.size, 3, none⟩ = some (.int .u8 k3) ∧ W.cell? ⟨w.heap.size, 4, none⟩ = some (.int .u8 k4) ∧ W.cell? ⟨w.heap.size, 5, none⟩ = some (.int .u8 k5) ∧ W.cell? ⟨w.heap.size, 6, none⟩ = some (.int .u8 k6) ∧ W.cell? ⟨w.heap.size, 7, none⟩ = some (.int .u8 k7)) (first | with_reducible exact results8 HEK.out.drew | with_reducible exact results8 BK.out | with_reducible exact results8 (BK.out.alloc _) | with_reducible exact results8 (HEK.out.alloc _).drew | with_reducible exact results8 (HEK.out.drew.alloc _) | with_reducible exact results8 ((((((((BK.out.far (p := ⟨w3.heap.size, 0, none⟩) hne _).far (p := ⟨w3.heap.size, 1, none⟩) hne _).far (p := ⟨w3.heap.size, 2, none⟩) hne _).far (p := ⟨w3.heap.size, 3, none⟩) hne _).far (p := ⟨w3.heap.size, 4, none⟩) hne _).far (p := ⟨w3.heap.size, 5, none⟩) hne _).far (p := ⟨w3.heap.size, 6, none⟩) hne _).far (p := ⟨w3.heap.size, 7, none⟩) hne _))
    (first | (go_at_call 74; refine (refSeal_any k0 k1 k2 k3 k4 k5 k6 k7 (some ⟨g, 0, none⟩) 24 32 (bodyL p) _ (by decide) HK8.out (by first | with_reducible exact HBA.out _ (Below.refl _ _).drew | with_reducible exact HBA.out _ ((Below.refl _ _).alloc (Nat.le_refl _) _).drew)).mono ?_; rintro e w4 ⟨rfl, hb4⟩; have BK : Hid (Blk w4 w.heap.size 94 #[.int .u8 k0, .int .u8 k1, .int .u8 k2, .int .u8 k3, .int .u8 k4, .int .u8 k5, .int .u8 k6, .int .u8 k7]) := (by first | with_reducible exact Lib.hid (HEK.out.drew.below hb4) | with_reducible exact Lib.hid ((HEK.out.alloc _).drew.below hb4)); (first | (have ZK : Blk w4 w3.heap.size 94 #[.int .u8 0, .int .u8 0, .int .u8 0, .int .u8 0, .int .u8 0, .int .u8 0, .int .u8 0, .int .u8 0] := (Blk.new w3 94 #[.int .u8 0, .int .u8 0, .int .u8 0, .int .u8 0, .int .u8 0, .int .u8 0, .int .u8 0, .int .u8 0]).drew.below hb4; have HZK := Lib.hid ZK; obtain ⟨z0, z1, z2, z3, z4, z5, z6, z7⟩ := results8 ZK; have y0 := ZK.frozen 0; have y1 := ZK.frozen 1; have y2 := ZK.frozen 2; have y3 := ZK.frozen 3; have y4 := ZK.frozen 4; have y5 := ZK.frozen 5; have y6 := ZK.frozen 6; have y7 := ZK.frozen 7; clear ZK) | skip); have G4 := Lib.hid hb4; clear hb4))
  all_goals
    first
      | (have H := encode_end2 hgs D7'.out E2.out hE.out G4.out HZK.out (.int .u8 (sealAt 0 k0 (bodyL p))) (.int .u8 (sealAt 1 k1 (bodyL p))) (.int .u8 (sealAt 2 k2 (bodyL p))) (.int .u8 (sealAt 3 k3 (bodyL p))) (.int .u8 (sealAt 4 k4 (bodyL p))) (.int .u8 (sealAt 5 k5 (bodyL p))) (.int .u8 (sealAt 6 k6 (bodyL p))) (.int .u8 (sealAt 7 k7 (bodyL p)))
         generalize World.setCell _ _ _ = W5 at H ⊢
         generalize w3.heap.size = g8 at H ⊢)
      | (have H := encode_end1 hgs D7'.out E2.out hE.out G4.out #[.int .u8 (sealAt 0 k0 (bodyL p)), .int .u8 (sealAt 1 k1 (bodyL p)), .int .u8 (sealAt 2 k2 (bodyL p)), .int .u8 (sealAt 3 k3 (bodyL p)), .int .u8 (sealAt 4 k4 (bodyL p)), .int .u8 (sealAt 5 k5 (bodyL p)), .int .u8 (sealAt 6 k6 (bodyL p)), .int .u8 (sealAt 7 k7 (bodyL p))]
         generalize World.alloc w4 _ = W5 at H ⊢
         generalize w4.heap.size = g8 at H ⊢)
    obtain ⟨F8, F7, F2, hF, hgg⟩ := H
    have F8' : Hid (Blk W5 g8 94 (bytesA (sealL ks (bodyL p)))) := by rw [HKS.out]; exact F8
    have HF7 := Lib.hid F7
    have HF2 := Lib.hid F2
    have HhF := Lib.hid hF
    have hgw2 : w.heap.size + 1 + 1 < g := hgw
    clear F8 F7 F2 hF HK8 HBA HEK D7' E2 hE hgs
    try clear BK G4
    try clear HZK
    go_upto_region 4 with fail
    refine wp_region_still_tail 2 (by kernel_rfl) (by kernel_rfl) ?_
    simp only [List.take_succ_cons, List.take_zero, List.drop_succ_cons, List.drop_zero]
    change wpStill _ _ (World.drew _) _ _ _
    repeat still_step
    refine wpStill_nil ?_
    change wpList _ _ _ _ _ (World.drew _)
    have hcur : W5.drew.heap[g]? = some (Obj.cells ((bodyL p ++ List.replicate 8 0).map (Value.int .u8)).toArray 98 (0, 0)) := HF7.out.drew
    have hbl : (bodyL p).length = 24 := by simp [bodyL, hps]
    refine wpList_copy_splice rfl (.tmp 32) (.tmp 33) 106 106 rfl 5 Tryz.underlying106 (by kernel_rfl) (some ⟨g, 24, none⟩) (some ⟨g8, 0, none⟩) 8 8 8 8 rfl rfl g 24 ((bodyL p ++ List.replicate 8 0).map (Value.int .u8)) 98 hcur ((sealL ks (bodyL p)).map (Value.int .u8)) (by simp [sealL_len])
      (fun _ => ⟨rfl, ⟨g8, 0, none⟩, rfl, fun j v hj => ?_⟩) (by simp [sealL_len, hbl]) (fun v hv => ?_) g W5 ((Below.refl _ _).drew) (Nat.le_refl _) ?_
    · have h8 : j < (sealL ks (bodyL p)).length := by have := (List.getElem?_eq_some_iff.1 hj).1; simpa using this
      rw [Addr.add_mid, F8'.out.drew.cell (0 + j), Nat.zero_add, bytesA_at _ j h8, ← hj]
      simp [List.getD_eq_getElem?_getD, h8]
    · obtain ⟨x, _, rfl⟩ := List.mem_map.1 hv
      rfl
    intro w6 hsp hb6
    have M7 : Hid (Blk w6 g 98 (bytesA (frameL ks p))) := by
      have := hsp.out
      rw [splice_seal (bodyL p) (sealL ks (bodyL p)) hbl (sealL_len _ _)] at this
      exact this
    have M2 : Hid (Blk w6 (w.heap.size + 1 + 1) 98 #[.int .u8 0, .int .u8 0, .int .u8 0, .int .u8 0, .int .u8 0, .int .u8 0, .int .u8 0, .int .u8 0, .int .u8 0, .int .u8 0, .int .u8 0, .int .u8 0, .int .u8 0, .int .u8 0, .int .u8 0, .int .u8 0, .int .u8 0, .int .u8 0, .int .u8 0, .int .u8 0, .int .u8 0, .int .u8 0, .int .u8 0, .int .u8 0, .int .u8 0, .int .u8 0, .int .u8 0, .int .u8 0, .int .u8 0, .int .u8 0, .int .u8 0, .int .u8 0]) := (hb6.block _ (by omega)).trans HF2.out
    have hM : Hid (Below w.heap.size w w6) := HhF.out.trans (hb6.mono (by omega))
    clear hsp hcur hb6 HF7 HF2 HhF F8'
    obtain ⟨fa, hfa⟩ : ∃ fa, fa = bytesA (frameL ks p) := ⟨_, rfl⟩
    rw [← hfa] at M7
    have HFA := Lib.hid hfa
    have fsz : Hid (fa.size = 32) := by show _ = _; rw [hfa, bytesA_size]; simp [frameL, hbl, sealL_len]
    have fone : Hid (fa.all (·.oneCell') = true) := by show _ = _; rw [hfa]; exact bytesA_one _
    have ifa : Hid ((Tryz.prog.info? 98).map (·.size) = some fa.size) := by show _ = _; rw [fsz.out]; kernel_rfl
    have hold : Hid ((#[.int .u8 0, .int .u8 0, .int .u8 0, .int .u8 0, .int .u8 0, .int .u8 0, .int .u8 0, .int .u8 0, .int .u8 0, .int .u8 0, .int .u8 0, .int .u8 0, .int .u8 0, .int .u8 0, .int .u8 0, .int .u8 0, .int .u8 0, .int .u8 0, .int .u8 0, .int .u8 0, .int .u8 0, .int .u8 0, .int .u8 0, .int .u8 0, .int .u8 0, .int .u8 0, .int .u8 0, .int .u8 0, .int .u8 0, .int .u8 0, .int .u8 0, .int .u8 0] : Array Value).size = fa.size) := by show _ = _; rw [fsz.out]; rfl
    clear hfa hbl
    generalize goInt _ = v41
    go_wp2_with (first
      | (refine wpList_load_row rfl 98 _ rfl g rfl 98 fa (0, 0) _ M7.out Tryz.underlying98 rfl ifa.out ?_)
      | (refine wpList_store_row rfl 98 _ _ rfl (w.heap.size + 1 + 1) fa rfl rfl 98 _ M2.out ifa.out hold.out fone.out ?_))
    generalize hWf : World.setRow _ _ _ = Wf
    have D : Blk Wf (w.heap.size + 1 + 1) 98 fa := by rw [← hWf]; exact M2.out.setRow _
    have hBf : Below w.heap.size w Wf := by rw [← hWf]; exact hM.out.setRow' (by omega) _
    exact bodyPost_ret (v := .agg fa) (results_cell_row rfl _ _ (w.heap.size + 1 + 1) 98 fa (0, 0) _ rfl D Tryz.underlying98 rfl ifa.out) rfl ⟨by rw [HFA.out], hBf⟩
end Go.Proofs.YtoipafnlcchmbaaGreatDoor
