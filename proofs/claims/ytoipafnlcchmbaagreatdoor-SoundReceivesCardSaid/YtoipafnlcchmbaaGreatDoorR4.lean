/- The reference's Decode (made by wip/tools/gen_rd.py). -/
import Derived.Test.YtoipafnlcchmbaaGreatDoorQM
import Derived.Test.YtoipafnlcchmbaaGreatDoorQF
import Derived.Test.YtoipafnlcchmbaaGreatDoorQH
import Derived.Test.YtoipafnlcchmbaaGreatDoorR1
import Derived.Laws.BytesArg
import Derived.WalkMore
namespace Go.Proofs.YtoipafnlcchmbaaGreatDoor
open Go.RowKit

set_option maxHeartbeats 2000000 in
set_option maxRecDepth 100000 in
theorem refDecode_head (ks bs : List Int) (w : World) (hl : bs.length = 32) (h0 : bs.getD 0 0 ≠ 93) :
    Calls Tryz.prog 73 #[.agg (bytesA ks), .agg (bytesA bs)] w fun e w' => e = .returned (.tuple #[.agg (decodeA ks bs), .int .i64 (decodeE ks bs)]) ∧ Below w.heap.size w w' := by
  rw [(decode_head ks bs h0).1, (decode_head ks bs h0).2]
  obtain ⟨ka, hka⟩ : ∃ ka, ka = bytesA ks := ⟨_, rfl⟩
  obtain ⟨sa, hsa⟩ : ∃ sa, sa = bytesA bs := ⟨_, rfl⟩
  rw [← hka, ← hsa]
  have HSA := Lib.hid hsa
  clear hka hsa
  go_enter Tryz.func73, Tryz.ntmps73
  go_upto_region 1 with fail
  obtain ⟨W0, hW0⟩ : ∃ W0, W0 = ((w.alloc (.cells ka 94)).alloc (.cells sa 98)).alloc (.cells #[.int .i64 0, .int .i64 0, .int .i64 0, .int .i64 0, .int .u8 0, .int .u8 0, .int .u8 0, .int .u8 0, .int .u8 0, .int .u8 0, .int .u8 0, .int .u8 0, .int .u8 0, .int .u8 0, .int .u8 0, .int .u8 0, .int .u8 0, .int .u8 0, .int .u8 0, .int .u8 0, .int .u8 0, .int .u8 0] 97) := ⟨_, rfl⟩
  rw [← hW0]
  have B1 : Hid (Blk W0 (w.heap.size + 1) 98 sa) := by rw [hW0]; have := (Blk.new (w.alloc (.cells ka 94)) 98 sa).alloc (.cells #[.int .i64 0, .int .i64 0, .int .i64 0, .int .i64 0, .int .u8 0, .int .u8 0, .int .u8 0, .int .u8 0, .int .u8 0, .int .u8 0, .int .u8 0, .int .u8 0, .int .u8 0, .int .u8 0, .int .u8 0, .int .u8 0, .int .u8 0, .int .u8 0, .int .u8 0, .int .u8 0, .int .u8 0, .int .u8 0] 97); rw [size_alloc1] at this; exact this
  have B2 : Hid (Blk W0 (w.heap.size + 1 + 1) 97 #[.int .i64 0, .int .i64 0, .int .i64 0, .int .i64 0, .int .u8 0, .int .u8 0, .int .u8 0, .int .u8 0, .int .u8 0, .int .u8 0, .int .u8 0, .int .u8 0, .int .u8 0, .int .u8 0, .int .u8 0, .int .u8 0, .int .u8 0, .int .u8 0, .int .u8 0, .int .u8 0, .int .u8 0, .int .u8 0]) := by rw [hW0]; have := Blk.new ((w.alloc (.cells ka 94)).alloc (.cells sa 98)) 97 #[.int .i64 0, .int .i64 0, .int .i64 0, .int .i64 0, .int .u8 0, .int .u8 0, .int .u8 0, .int .u8 0, .int .u8 0, .int .u8 0, .int .u8 0, .int .u8 0, .int .u8 0, .int .u8 0, .int .u8 0, .int .u8 0, .int .u8 0, .int .u8 0, .int .u8 0, .int .u8 0, .int .u8 0, .int .u8 0]; rw [size_alloc1, size_alloc1] at this; exact this
  have hB : Hid (Below w.heap.size w W0) := by rw [hW0]; exact (((Below.refl _ w).alloc (Nat.le_refl _) _).alloc (by rw [size_alloc1]; omega) _).alloc (by rw [size_alloc1, size_alloc1]; omega) _
  clear hW0
  obtain ⟨x, hx⟩ : ∃ x, x = bs.getD 0 0 := ⟨_, rfl⟩
  have c0 : W0.cell? ⟨w.heap.size + 1, 0, none⟩ = some (.int .u8 x) := by rw [B1.out.cell 0, HSA.out, bytesA_at bs 0 (by omega), hx]
  rw [← hx] at h0
  have h1 : (x != 93) = true := by simp [h0]
  clear hx h0
  have iz : Hid ((Tryz.prog.info? 97).map (·.size) = some (#[.int .i64 0, .int .i64 0, .int .i64 0, .int .i64 0, .int .u8 0, .int .u8 0, .int .u8 0, .int .u8 0, .int .u8 0, .int .u8 0, .int .u8 0, .int .u8 0, .int .u8 0, .int .u8 0, .int .u8 0, .int .u8 0, .int .u8 0, .int .u8 0, .int .u8 0, .int .u8 0, .int .u8 0, .int .u8 0] : Array Value).size) := by show _ = _; kernel_rfl
  have zo : Hid ((#[.int .i64 0, .int .i64 0, .int .i64 0, .int .i64 0, .int .u8 0, .int .u8 0, .int .u8 0, .int .u8 0, .int .u8 0, .int .u8 0, .int .u8 0, .int .u8 0, .int .u8 0, .int .u8 0, .int .u8 0, .int .u8 0, .int .u8 0, .int .u8 0, .int .u8 0, .int .u8 0, .int .u8 0, .int .u8 0] : Array Value).all (·.oneCell') = true) := by show _ = _; simp [Value.oneCell']
  go_wp2_with (refine wpList_store_row rfl 97 _ _ rfl (w.heap.size + 1 + 1) #[.int .i64 0, .int .i64 0, .int .i64 0, .int .i64 0, .int .u8 0, .int .u8 0, .int .u8 0, .int .u8 0, .int .u8 0, .int .u8 0, .int .u8 0, .int .u8 0, .int .u8 0, .int .u8 0, .int .u8 0, .int .u8 0, .int .u8 0, .int .u8 0, .int .u8 0, .int .u8 0, .int .u8 0, .int .u8 0] rfl rfl 97 _ B2.out iz.out rfl zo.out ?_)
  generalize hWf : World.setRow _ _ _ = Wf
  have D : Blk Wf (w.heap.size + 1 + 1) 97 #[.int .i64 0, .int .i64 0, .int .i64 0, .int .i64 0, .int .u8 0, .int .u8 0, .int .u8 0, .int .u8 0, .int .u8 0, .int .u8 0, .int .u8 0, .int .u8 0, .int .u8 0, .int .u8 0, .int .u8 0, .int .u8 0, .int .u8 0, .int .u8 0, .int .u8 0, .int .u8 0, .int .u8 0, .int .u8 0] := by rw [← hWf]; exact B2.out.setRow _
  have hlv : (loadVar 97 ⟨w.heap.size + 1 + 1, 0, none⟩).run Tryz.prog Wf = .ok (.agg #[.int .i64 0, .int .i64 0, .int .i64 0, .int .i64 0, .int .u8 0, .int .u8 0, .int .u8 0, .int .u8 0, .int .u8 0, .int .u8 0, .int .u8 0, .int .u8 0, .int .u8 0, .int .u8 0, .int .u8 0, .int .u8 0, .int .u8 0, .int .u8 0, .int .u8 0, .int .u8 0, .int .u8 0, .int .u8 0]) Wf := run_loadVar_row Wf _ 97 97 _ (0, 0) _ D Tryz.underlying97 rfl iz.out
  have hBf : Below w.heap.size w Wf := by rw [← hWf]; exact hB.out.setRow' (by omega) _
  exact bodyPost_ret (v := .tuple #[.agg #[.int .i64 0, .int .i64 0, .int .i64 0, .int .i64 0, .int .u8 0, .int .u8 0, .int .u8 0, .int .u8 0, .int .u8 0, .int .u8 0, .int .u8 0, .int .u8 0, .int .u8 0, .int .u8 0, .int .u8 0, .int .u8 0, .int .u8 0, .int .u8 0, .int .u8 0, .int .u8 0, .int .u8 0, .int .u8 0], .int .i64 1]) (by simp [results, Tryz.results73, asAddr, hlv]) rfl ⟨rfl, hBf⟩

theorem splice_pk (a b c d : Value) (ps : List Int) (h : ps.length = 18) : (splice [a, b, c, d, Value.int .u8 0, Value.int .u8 0, Value.int .u8 0, Value.int .u8 0, Value.int .u8 0, Value.int .u8 0, Value.int .u8 0, Value.int .u8 0, Value.int .u8 0, Value.int .u8 0, Value.int .u8 0, Value.int .u8 0, Value.int .u8 0, Value.int .u8 0, Value.int .u8 0, Value.int .u8 0, Value.int .u8 0, Value.int .u8 0] 4 (ps.map (Value.int .u8))).toArray = (a :: b :: c :: d :: ps.map (Value.int .u8)).toArray := by
  unfold splice
  rw [List.length_map, h]
  simp
theorem refCheckPacket_pk (p : Pk) (cs : Array Value) (w : World) (hcs : cs = p.cells) (hps : p.ps.length = 18) :
    Calls Tryz.prog 71 #[.agg cs] w fun e w' => e = .returned (.int .i64 p.err) ∧ Below w.heap.size w w' := by
  rw [hcs]; exact refCheckPacket_any p.st p.kd p.ct p.ln p.ps w hps
/-- A key that is sealed and laid in a box, the box first or last: what is left. -/
theorem seal_end1 {w w3 w4 : World} (hE : Below w.heap.size w w3) (G4 : Below w3.drew.heap.size w3.drew w4) (S : Array Value) :
    Blk (w4.alloc (.cells S 94)) w4.heap.size 94 S ∧ (∀ g t cs, Blk w3 g t cs → Blk (w4.alloc (.cells S 94)) g t cs) ∧ Below w.heap.size w (w4.alloc (.cells S 94)) ∧ w3.heap.size ≤ w4.heap.size := by
  have s1 : w3.heap.size ≤ w4.heap.size := G4.size
  have b : Below w.heap.size w w4 := hE.drew.trans (G4.mono hE.size)
  exact ⟨Blk.new w4 _ _, fun g t cs h => (h.drew.below G4).alloc _, b.alloc b.size _, s1⟩
theorem seal_end2 {w w3 w4 : World} (hE : Below w.heap.size w w3)
    {z : Array Value} (G4 : Below (w3.alloc (.cells z 94)).drew.heap.size (w3.alloc (.cells z 94)).drew w4) {z0 z1 z2 z3 z4 z5 z6 z7 : Value} (hz : Blk w4 w3.heap.size 94 #[z0, z1, z2, z3, z4, z5, z6, z7]) (a0 a1 a2 a3 a4 a5 a6 a7 : Value) :
    Blk ((((((((w4.setCell ⟨w3.heap.size, 0, none⟩ a0).setCell ⟨w3.heap.size, 1, none⟩ a1).setCell ⟨w3.heap.size, 2, none⟩ a2).setCell ⟨w3.heap.size, 3, none⟩ a3).setCell ⟨w3.heap.size, 4, none⟩ a4).setCell ⟨w3.heap.size, 5, none⟩ a5).setCell ⟨w3.heap.size, 6, none⟩ a6).setCell ⟨w3.heap.size, 7, none⟩ a7) w3.heap.size 94 #[a0, a1, a2, a3, a4, a5, a6, a7] ∧
    (∀ g t cs, Blk w3 g t cs → Blk ((((((((w4.setCell ⟨w3.heap.size, 0, none⟩ a0).setCell ⟨w3.heap.size, 1, none⟩ a1).setCell ⟨w3.heap.size, 2, none⟩ a2).setCell ⟨w3.heap.size, 3, none⟩ a3).setCell ⟨w3.heap.size, 4, none⟩ a4).setCell ⟨w3.heap.size, 5, none⟩ a5).setCell ⟨w3.heap.size, 6, none⟩ a6).setCell ⟨w3.heap.size, 7, none⟩ a7) g t cs) ∧
    Below w.heap.size w ((((((((w4.setCell ⟨w3.heap.size, 0, none⟩ a0).setCell ⟨w3.heap.size, 1, none⟩ a1).setCell ⟨w3.heap.size, 2, none⟩ a2).setCell ⟨w3.heap.size, 3, none⟩ a3).setCell ⟨w3.heap.size, 4, none⟩ a4).setCell ⟨w3.heap.size, 5, none⟩ a5).setCell ⟨w3.heap.size, 6, none⟩ a6).setCell ⟨w3.heap.size, 7, none⟩ a7) ∧ w3.heap.size ≤ w3.heap.size := by
  have b : Below w.heap.size w w4 := ((hE.alloc hE.size _).drew).trans (G4.mono (by have := hE.size; simp; omega))
  refine ⟨hz.set8 a0 a1 a2 a3 a4 a5 a6 a7, fun g t cs h => ?_, below_set8 b hE.size a0 a1 a2 a3 a4 a5 a6 a7, Nat.le_refl _⟩
  have hg : g ≠ w3.heap.size := by have := lt_of_block h; omega
  have d7 := (h.alloc (.cells z 94)).drew.below G4
  exact (((((((d7.far (p := ⟨w3.heap.size, 0, none⟩) hg _).far (p := ⟨w3.heap.size, 1, none⟩) hg _).far (p := ⟨w3.heap.size, 2, none⟩) hg _).far (p := ⟨w3.heap.size, 3, none⟩) hg _).far (p := ⟨w3.heap.size, 4, none⟩) hg _).far (p := ⟨w3.heap.size, 5, none⟩) hg _).far (p := ⟨w3.heap.size, 6, none⟩) hg _).far (p := ⟨w3.heap.size, 7, none⟩) hg _
theorem strOfNums_inj {xs ys : List Int} (hx : AllB xs) (hy : AllB ys) (hl : xs.length = ys.length) (h : strOfNums xs = strOfNums ys) : xs = ys := by
  have h1 : (strOfNums xs).data.toList = (strOfNums ys).data.toList := by rw [h]
  rw [strOfNums_data, strOfNums_data] at h1
  refine ext_getD hl (fun i hi => ?_)
  have hi' : i < ys.length := by omega
  have h2 : (xs.map fun n => UInt8.ofNat n.toNat)[i]? = (ys.map fun n => UInt8.ofNat n.toNat)[i]? := by rw [h1]
  rw [List.getElem?_map, List.getElem?_map, List.getElem?_eq_getElem hi, List.getElem?_eq_getElem hi'] at h2
  have h3 := congrArg UInt8.toNat (Option.some.inj h2)
  have b1 := hx i hi
  have b2 := hy i hi'
  rw [List.getD_eq_getElem?_getD, List.getElem?_eq_getElem hi, Option.getD_some] at b1 ⊢
  rw [List.getD_eq_getElem?_getD, List.getElem?_eq_getElem hi', Option.getD_some] at b2 ⊢
  simp only [UInt8.toNat_ofNat'] at h3
  omega

theorem str_beq {a b : ByteArray} (h : (a.toList == b.toList) = true) : a = b := by
  rw [ByteArray.toList_eq, ByteArray.toList_eq] at h
  have h2 := eq_of_beq h
  obtain ⟨a⟩ := a
  obtain ⟨b⟩ := b
  congr 1
  exact Array.toList_inj.1 h2

set_option maxHeartbeats 6000000 in
set_option maxRecDepth 100000 in
theorem refDecode_tail (ks bs : List Int) (w : World) (hk : ks.length = 8) (hkb : AllB ks) (hl : bs.length = 32) (hb : AllB bs) (h0 : bs.getD 0 0 = 93) :
    Calls Tryz.prog 73 #[.agg (bytesA ks), .agg (bytesA bs)] w fun e w' => e = .returned (.tuple #[.agg (decodeA ks bs), .int .i64 (decodeE ks bs)]) ∧ Below w.heap.size w w' := by
  obtain ⟨ka, hka⟩ : ∃ ka, ka = bytesA ks := ⟨_, rfl⟩
  obtain ⟨sa, hsa⟩ : ∃ sa, sa = bytesA bs := ⟨_, rfl⟩
  rw [← hka, ← hsa]
  have HKA := Lib.hid hka
  have HSA := Lib.hid hsa
  clear hka hsa
  go_enter Tryz.func73, Tryz.ntmps73
  go_upto_region 1 with fail
  obtain ⟨w3, hW⟩ : ∃ X, X = ((w.alloc (.cells ka 94)).alloc (.cells sa 98)).alloc (.cells #[.int .i64 0, .int .i64 0, .int .i64 0, .int .i64 0, .int .u8 0, .int .u8 0, .int .u8 0, .int .u8 0, .int .u8 0, .int .u8 0, .int .u8 0, .int .u8 0, .int .u8 0, .int .u8 0, .int .u8 0, .int .u8 0, .int .u8 0, .int .u8 0, .int .u8 0, .int .u8 0, .int .u8 0, .int .u8 0] 97) := ⟨_, rfl⟩
  rw [← hW]
  have B0 : Hid (Blk w3 w.heap.size 94 ka) := by show Blk _ _ _ _; rw [hW]; exact ((Blk.new w _ _).alloc _).alloc _
  have B1 : Hid (Blk w3 (w.heap.size + 1) 98 sa) := by show Blk _ _ _ _; rw [hW]; exact (Blk.at_size _ _ (by simp)).alloc _
  have B2 : Hid (Blk w3 (w.heap.size + 1 + 1) 97 #[.int .i64 0, .int .i64 0, .int .i64 0, .int .i64 0, .int .u8 0, .int .u8 0, .int .u8 0, .int .u8 0, .int .u8 0, .int .u8 0, .int .u8 0, .int .u8 0, .int .u8 0, .int .u8 0, .int .u8 0, .int .u8 0, .int .u8 0, .int .u8 0, .int .u8 0, .int .u8 0, .int .u8 0, .int .u8 0]) := by show Blk _ _ _ _; rw [hW]; exact Blk.at_size _ _ (by simp)
  have hE : Hid (Below w.heap.size w w3) := by show Below _ _ _; rw [hW]; exact (((Below.refl _ w).alloc (Nat.le_refl _) _).alloc (by simp) _).alloc (by simp; omega) _
  clear hW
  have c0 : w3.cell? ⟨w.heap.size + 1, 0, none⟩ = some (.int .u8 93) := by rw [B1.out.cell 0, HSA.out, bytesA_at bs 0 (by omega), h0]
  have H0 := Lib.hid h0
  have HL := Lib.hid hl
  have HBB := Lib.hid hb
  obtain ⟨k0, k1, k2, k3, k4, k5, k6, k7, hks⟩ := eight ks hk
  have EK : Blk w3 w.heap.size 94 #[.int .u8 k0, .int .u8 k1, .int .u8 k2, .int .u8 k3, .int .u8 k4, .int .u8 k5, .int .u8 k6, .int .u8 k7] := by
    have := B0.out
    rw [HKA.out, hks] at this
    exact this
  have HK8 : Hid (Key8 k0 k1 k2 k3 k4 k5 k6 k7) := fun i hi => by
    have := hkb i (by omega)
    rw [hks] at this
    exact this
  have HKS := Lib.hid hks
  obtain ⟨bb, hbb⟩ : ∃ bb, bb = bs.take 24 := ⟨_, rfl⟩
  have HBK := Lib.hid hbb
  have HBA : Hid (∀ W, Below w3.heap.size w3 W → BytesAt W (some ⟨w.heap.size + 1, 0, none⟩) 24 bb) := fun W hW =>
    (show BytesAt w3 (some ⟨w.heap.size + 1, 0, none⟩) 24 bb from ⟨by rw [hbb]; simp [hl], fun i hi => by
      rw [hbb]
      have := hb i (by omega)
      simpa [List.getD_eq_getElem?_getD, hi] using this, fun _ => ⟨w.heap.size + 1, 0, rfl, fun i hi => by
      rw [Nat.zero_add, B1.out.cell i, HSA.out, bytesA_at bs i (by omega), hbb]
      simp [List.getD_eq_getElem?_getD, hi]⟩⟩).keep hW
  have HEK := Lib.hid EK
  have hne : w.heap.size ≠ w3.heap.size := by have := lt_of_block EK; omega
  have HKB : Hid (ks.length = 8 ∧ AllB ks) := ⟨hk, hkb⟩
  clear hks hbb h0 hl hb hkb hk
  go_upto_region 3 with fail
  clear c0
  have xc0 := EK.cell 0; have xf0 := EK.frozen 0; have xc1 := EK.cell 1; have xf1 := EK.frozen 1; have xc2 := EK.cell 2; have xf2 := EK.frozen 2; have xc3 := EK.cell 3; have xf3 := EK.frozen 3; have xc4 := EK.cell 4; have xf4 := EK.frozen 4; have xc5 := EK.cell 5; have xf5 := EK.frozen 5; have xc6 := EK.cell 6; have xf6 := EK.frozen 6; have xc7 := EK.cell 7; have xf7 := EK.frozen 7
  simp only [List.getElem?_toArray, List.getElem?_cons_zero, List.getElem?_cons_succ] at xc0 xc1 xc2 xc3 xc4 xc5 xc6 xc7
  clear EK
  clear xf0 xf1 xf2 xf3 xf4 xf5 xf6 xf7
  go_region_held3 (fun W => W.cell? ⟨w.heap.size, 0, none⟩ = some (.int .u8 k0) ∧ W.cell? ⟨w.heap.size, 1, none⟩ = some (.int .u8 k1) ∧ W.cell? ⟨w.heap.size, 2, none⟩ = some (.int .u8 k2) ∧ W.cell? ⟨w.heap.size, 3, none⟩ = some (.int .u8 k3) ∧ W.cell? ⟨w.heap.size, 4, none⟩ = some (.int .u8 k4) ∧ W.cell? ⟨w.heap.size, 5, none⟩ = some (.int .u8 k5) ∧ W.cell? ⟨w.heap.size, 6, none⟩ = some (.int .u8 k6) ∧ W.cell? ⟨w.heap.size, 7, none⟩ = some (.int .u8 k7)) (first | with_reducible exact results8 HEK.out.drew | with_reducible exact results8 BK.out | with_reducible exact results8 (BK.out.alloc _) | with_reducible exact results8 (HEK.out.alloc _).drew | with_reducible exact results8 (HEK.out.drew.alloc _) | with_reducible exact results8 ((((((((BK.out.far (p := ⟨w3.heap.size, 0, none⟩) hne _).far (p := ⟨w3.heap.size, 1, none⟩) hne _).far (p := ⟨w3.heap.size, 2, none⟩) hne _).far (p := ⟨w3.heap.size, 3, none⟩) hne _).far (p := ⟨w3.heap.size, 4, none⟩) hne _).far (p := ⟨w3.heap.size, 5, none⟩) hne _).far (p := ⟨w3.heap.size, 6, none⟩) hne _).far (p := ⟨w3.heap.size, 7, none⟩) hne _))
      (first | (go_at_call 74; refine (refSeal_any k0 k1 k2 k3 k4 k5 k6 k7 (some ⟨w.heap.size + 1, 0, none⟩) 24 32 bb _ (by decide) HK8.out (by first | with_reducible exact HBA.out _ (Below.refl _ _).drew | with_reducible exact HBA.out _ ((Below.refl _ _).alloc (Nat.le_refl _) _).drew)).mono ?_; rintro e w4 ⟨rfl, hb4⟩; have BK : Hid (Blk w4 w.heap.size 94 #[.int .u8 k0, .int .u8 k1, .int .u8 k2, .int .u8 k3, .int .u8 k4, .int .u8 k5, .int .u8 k6, .int .u8 k7]) := (by first | with_reducible exact Lib.hid (HEK.out.drew.below hb4) | with_reducible exact Lib.hid ((HEK.out.alloc _).drew.below hb4)); (first | (have ZK : Blk w4 w3.heap.size 94 #[.int .u8 0, .int .u8 0, .int .u8 0, .int .u8 0, .int .u8 0, .int .u8 0, .int .u8 0, .int .u8 0] := (Blk.new w3 94 #[.int .u8 0, .int .u8 0, .int .u8 0, .int .u8 0, .int .u8 0, .int .u8 0, .int .u8 0, .int .u8 0]).drew.below hb4; have HZK := Lib.hid ZK; obtain ⟨z0, z1, z2, z3, z4, z5, z6, z7⟩ := results8 ZK; have y0 := ZK.frozen 0; have y1 := ZK.frozen 1; have y2 := ZK.frozen 2; have y3 := ZK.frozen 3; have y4 := ZK.frozen 4; have y5 := ZK.frozen 5; have y6 := ZK.frozen 6; have y7 := ZK.frozen 7; clear ZK) | skip); have G4 := Lib.hid hb4; clear hb4))
  all_goals
    first
      | (have H := seal_end2 hE.out G4.out HZK.out (.int .u8 (sealAt 0 k0 bb)) (.int .u8 (sealAt 1 k1 bb)) (.int .u8 (sealAt 2 k2 bb)) (.int .u8 (sealAt 3 k3 bb)) (.int .u8 (sealAt 4 k4 bb)) (.int .u8 (sealAt 5 k5 bb)) (.int .u8 (sealAt 6 k6 bb)) (.int .u8 (sealAt 7 k7 bb))
         generalize World.setCell _ _ _ = W5 at H ⊢
         generalize w3.heap.size = g8 at H ⊢)
      | (have H := seal_end1 hE.out G4.out #[.int .u8 (sealAt 0 k0 bb), .int .u8 (sealAt 1 k1 bb), .int .u8 (sealAt 2 k2 bb), .int .u8 (sealAt 3 k3 bb), .int .u8 (sealAt 4 k4 bb), .int .u8 (sealAt 5 k5 bb), .int .u8 (sealAt 6 k6 bb), .int .u8 (sealAt 7 k7 bb)]
         generalize World.alloc w4 _ = W5 at H ⊢
         generalize w4.heap.size = g8 at H ⊢)
    obtain ⟨F8, FF, hF, hg8⟩ := H
    have F8' : Hid (Blk W5 g8 94 (bytesA (sealL ks bb))) := by rw [HKS.out]; exact F8
    have F1 := Lib.hid (FF _ _ _ B1.out)
    have F2 := Lib.hid (FF _ _ _ B2.out)
    have HhF := Lib.hid hF
    clear F8 FF hF hg8 HEK HBA HK8 B0 B1 B2 hE
    try clear HZK
    try clear BK G4
    have hl8 : (sealL ks bb).length = 8 := sealL_len _ _
    obtain ⟨X1, hX1⟩ : ∃ X, X = strOfNums (sealL ks bb) := ⟨_, rfl⟩
    obtain ⟨X2, hX2⟩ : ∃ X, X = strOfNums (bs.drop 24) := ⟨_, rfl⟩
    have k1 : (convert 106 9 (.slice (some ⟨g8, 0, none⟩) 8 8)).run Tryz.prog W5 = .ok (.string X1) W5 := by
      rw [hX1]
      exact run_convert_bytes_arg W5 106 5 Tryz.underlying106 Tryz.underlying5 g8 0 8 8 (sealL ks bb) hl8 (fun i hi => by
        rw [Nat.zero_add, F8'.out.cell i, bytesA_at _ i (by omega)]) 9 Tryz.underlying9
    have k2 : (convert 106 9 (.slice (some ⟨w.heap.size + 1, 24, none⟩) 8 8)).run Tryz.prog W5 = .ok (.string X2) W5 := by
      rw [hX2]
      exact run_convert_bytes_arg W5 106 5 Tryz.underlying106 Tryz.underlying5 (w.heap.size + 1) 24 8 8 (bs.drop 24) (by simp [HL.out]) (fun i hi => by
        rw [F1.out.cell (24 + i), HSA.out, bytesA_at _ (24 + i) (by have := HL.out; omega), getD_drop]) 9 Tryz.underlying9
    have k3 : (convert 106 9 (.slice (some ⟨g8, 0, none⟩) 8 8)).run Tryz.prog W5.drew = .ok (.string X1) W5.drew := by
      rw [hX1]
      exact run_convert_bytes_arg W5.drew 106 5 Tryz.underlying106 Tryz.underlying5 g8 0 8 8 (sealL ks bb) hl8 (fun i hi => by
        rw [Nat.zero_add, F8'.out.drew.cell i, bytesA_at _ i (by omega)]) 9 Tryz.underlying9
    have k4 : (convert 106 9 (.slice (some ⟨w.heap.size + 1, 24, none⟩) 8 8)).run Tryz.prog W5.drew = .ok (.string X2) W5.drew := by
      rw [hX2]
      exact run_convert_bytes_arg W5.drew 106 5 Tryz.underlying106 Tryz.underlying5 (w.heap.size + 1) 24 8 8 (bs.drop 24) (by simp [HL.out]) (fun i hi => by
        rw [F1.out.drew.cell (24 + i), HSA.out, bytesA_at _ (24 + i) (by have := HL.out; omega), getD_drop]) 9 Tryz.underlying9
    have HX1 := Lib.hid hX1
    have HX2 := Lib.hid hX2
    clear hX1 hX2 hl8
    go_upto_region 4 with fail
    go_region
    all_goals
      clear k1 k2 k3 k4
      obtain ⟨q, hq⟩ : ∃ q, q = (X1.toList == X2.toList) := ⟨_, rfl⟩
      rw [← hq]
      cases q
      · have he : Hid (decodeE ks bs = 27) := by
          show _ = _
          unfold decodeE
          rw [if_pos H0.out, if_neg]
          intro e
          rw [← HBK.out] at e
          rw [HX1.out, HX2.out, e] at hq
          simp at hq
        have ha : Hid (decodeA ks bs = pkNone) := by show _ = _; unfold decodeA; rw [he.out]; rfl
        have iz : Hid ((Tryz.prog.info? 97).map (·.size) = some (#[.int .i64 0, .int .i64 0, .int .i64 0, .int .i64 0, .int .u8 0, .int .u8 0, .int .u8 0, .int .u8 0, .int .u8 0, .int .u8 0, .int .u8 0, .int .u8 0, .int .u8 0, .int .u8 0, .int .u8 0, .int .u8 0, .int .u8 0, .int .u8 0, .int .u8 0, .int .u8 0, .int .u8 0, .int .u8 0] : Array Value).size) := by show _ = _; kernel_rfl
        have zo : Hid ((#[.int .i64 0, .int .i64 0, .int .i64 0, .int .i64 0, .int .u8 0, .int .u8 0, .int .u8 0, .int .u8 0, .int .u8 0, .int .u8 0, .int .u8 0, .int .u8 0, .int .u8 0, .int .u8 0, .int .u8 0, .int .u8 0, .int .u8 0, .int .u8 0, .int .u8 0, .int .u8 0, .int .u8 0, .int .u8 0] : Array Value).all (·.oneCell') = true) := by show _ = _; simp [Value.oneCell']
        clear hq HX1 HX2
        go_wp2_with (refine wpList_store_row rfl 97 _ _ rfl (w.heap.size + 1 + 1) #[.int .i64 0, .int .i64 0, .int .i64 0, .int .i64 0, .int .u8 0, .int .u8 0, .int .u8 0, .int .u8 0, .int .u8 0, .int .u8 0, .int .u8 0, .int .u8 0, .int .u8 0, .int .u8 0, .int .u8 0, .int .u8 0, .int .u8 0, .int .u8 0, .int .u8 0, .int .u8 0, .int .u8 0, .int .u8 0] rfl rfl 97 _ F2.out.drew iz.out rfl zo.out ?_)
        generalize hWf : World.setRow _ _ _ = Wf
        have D : Blk Wf (w.heap.size + 1 + 1) 97 #[.int .i64 0, .int .i64 0, .int .i64 0, .int .i64 0, .int .u8 0, .int .u8 0, .int .u8 0, .int .u8 0, .int .u8 0, .int .u8 0, .int .u8 0, .int .u8 0, .int .u8 0, .int .u8 0, .int .u8 0, .int .u8 0, .int .u8 0, .int .u8 0, .int .u8 0, .int .u8 0, .int .u8 0, .int .u8 0] := by rw [← hWf]; exact F2.out.drew.setRow _
        have hlv : (loadVar 97 ⟨w.heap.size + 1 + 1, 0, none⟩).run Tryz.prog Wf = .ok (.agg #[.int .i64 0, .int .i64 0, .int .i64 0, .int .i64 0, .int .u8 0, .int .u8 0, .int .u8 0, .int .u8 0, .int .u8 0, .int .u8 0, .int .u8 0, .int .u8 0, .int .u8 0, .int .u8 0, .int .u8 0, .int .u8 0, .int .u8 0, .int .u8 0, .int .u8 0, .int .u8 0, .int .u8 0, .int .u8 0]) Wf := run_loadVar_row Wf _ 97 97 _ (0, 0) _ D Tryz.underlying97 rfl iz.out
        have hBf : Below w.heap.size w Wf := by rw [← hWf]; exact HhF.out.drew.setRow' (by omega) _
        exact bodyPost_ret (v := .tuple #[.agg #[.int .i64 0, .int .i64 0, .int .i64 0, .int .i64 0, .int .u8 0, .int .u8 0, .int .u8 0, .int .u8 0, .int .u8 0, .int .u8 0, .int .u8 0, .int .u8 0, .int .u8 0, .int .u8 0, .int .u8 0, .int .u8 0, .int .u8 0, .int .u8 0, .int .u8 0, .int .u8 0, .int .u8 0, .int .u8 0], .int .i64 27]) (by simp [results, Tryz.results73, asAddr, hlv]) rfl ⟨ret_agg2 (ha.out.trans rfl).symm he.out.symm, hBf⟩
      · have HEQ : Hid (bs.drop 24 = sealL ks (bs.take 24)) := by
          show _ = _
          have e := str_beq hq.symm
          rw [HX1.out, HX2.out, HBK.out] at e
          refine (strOfNums_inj (sealL_all _ _ HKB.out.1 HKB.out.2) (fun i hi => ?_) (by rw [sealL_len]; simp [HL.out]) e).symm
          rw [getD_drop]
          exact HBB.out (24 + i) (by simp at hi; omega)
        have HDE : Hid (decodeE ks bs = (readP bs).err) := by show _ = _; unfold decodeE; rw [if_pos H0.out, if_pos HEQ.out]
        clear hq HX1 HX2 HEQ
        go_upto_region 6 with fail
        obtain ⟨b1, hb1⟩ : ∃ b, b = bs.getD 1 0 := ⟨_, rfl⟩
        obtain ⟨b2, hb2⟩ : ∃ b, b = bs.getD 2 0 := ⟨_, rfl⟩
        obtain ⟨b3, hb3⟩ : ∃ b, b = bs.getD 3 0 := ⟨_, rfl⟩
        obtain ⟨b4, hb4⟩ : ∃ b, b = bs.getD 4 0 := ⟨_, rfl⟩
        obtain ⟨b5, hb5⟩ : ∃ b, b = bs.getD 5 0 := ⟨_, rfl⟩
        have d1 : W5.drew.cell? ⟨w.heap.size + 1, 1, none⟩ = some (.int .u8 b1) := by rw [F1.out.drew.cell 1, HSA.out, bytesA_at bs 1 (by have := HL.out; omega), hb1]
        have d2 : W5.drew.cell? ⟨w.heap.size + 1, 2, none⟩ = some (.int .u8 b2) := by rw [F1.out.drew.cell 2, HSA.out, bytesA_at bs 2 (by have := HL.out; omega), hb2]
        have d3 : W5.drew.cell? ⟨w.heap.size + 1, 3, none⟩ = some (.int .u8 b3) := by rw [F1.out.drew.cell 3, HSA.out, bytesA_at bs 3 (by have := HL.out; omega), hb3]
        have d4 : W5.drew.cell? ⟨w.heap.size + 1, 4, none⟩ = some (.int .u8 b4) := by rw [F1.out.drew.cell 4, HSA.out, bytesA_at bs 4 (by have := HL.out; omega), hb4]
        have d5 : W5.drew.cell? ⟨w.heap.size + 1, 5, none⟩ = some (.int .u8 b5) := by rw [F1.out.drew.cell 5, HSA.out, bytesA_at bs 5 (by have := HL.out; omega), hb5]
        obtain ⟨p1, q1⟩ : 0 ≤ b1 ∧ b1 ≤ 255 := by rw [hb1]; exact HBB.out 1 (by have := HL.out; omega)
        obtain ⟨p2, q2⟩ : 0 ≤ b2 ∧ b2 ≤ 255 := by rw [hb2]; exact HBB.out 2 (by have := HL.out; omega)
        obtain ⟨p3, q3⟩ : 0 ≤ b3 ∧ b3 ≤ 255 := by rw [hb3]; exact HBB.out 3 (by have := HL.out; omega)
        obtain ⟨p4, q4⟩ : 0 ≤ b4 ∧ b4 ≤ 255 := by rw [hb4]; exact HBB.out 4 (by have := HL.out; omega)
        obtain ⟨p5, q5⟩ : 0 ≤ b5 ∧ b5 ≤ 255 := by rw [hb5]; exact HBB.out 5 (by have := HL.out; omega)
        have HC1 : Hid (readP bs = ⟨b1, b2, b3 + 256 * b4, b5, (bs.drop 6).take 18⟩) := by show _ = _; unfold readP; rw [hb1, hb2, hb3, hb4, hb5, Int.mul_comm]
        clear hb1 hb2 hb3 hb4 hb5
        obtain ⟨W8, hW8⟩ : ∃ X, X = W5.drew := ⟨_, rfl⟩
        rw [← hW8] at d1 d2 d3 d4 d5 ⊢
        have E1 : Hid (Blk W8 (w.heap.size + 1) 98 sa) := by show Blk _ _ _ _; rw [hW8]; exact F1.out.drew
        have E2 : Hid (Blk W8 (w.heap.size + 1 + 1) 97 #[.int .i64 0, .int .i64 0, .int .i64 0, .int .i64 0, .int .u8 0, .int .u8 0, .int .u8 0, .int .u8 0, .int .u8 0, .int .u8 0, .int .u8 0, .int .u8 0, .int .u8 0, .int .u8 0, .int .u8 0, .int .u8 0, .int .u8 0, .int .u8 0, .int .u8 0, .int .u8 0, .int .u8 0, .int .u8 0]) := by show Blk _ _ _ _; rw [hW8]; exact F2.out.drew
        have HhE : Hid (Below w.heap.size w W8) := by show Below _ _ _; rw [hW8]; exact HhF.out.drew
        clear hW8 F1 F2 HhF F8'
        have BZ : Hid (Blk (W8.alloc (.cells #[.int .i64 0, .int .i64 0, .int .i64 0, .int .i64 0, .int .u8 0, .int .u8 0, .int .u8 0, .int .u8 0, .int .u8 0, .int .u8 0, .int .u8 0, .int .u8 0, .int .u8 0, .int .u8 0, .int .u8 0, .int .u8 0, .int .u8 0, .int .u8 0, .int .u8 0, .int .u8 0, .int .u8 0, .int .u8 0] 97)) W8.heap.size 97 #[.int .i64 0, .int .i64 0, .int .i64 0, .int .i64 0, .int .u8 0, .int .u8 0, .int .u8 0, .int .u8 0, .int .u8 0, .int .u8 0, .int .u8 0, .int .u8 0, .int .u8 0, .int .u8 0, .int .u8 0, .int .u8 0, .int .u8 0, .int .u8 0, .int .u8 0, .int .u8 0, .int .u8 0, .int .u8 0]) := Blk.new _ _ _
        go_upto_region 7 with (refine wpList_store_row rfl 97 _ _ rfl W8.heap.size _ rfl rfl 97 _ BZ.out (by kernel_rfl) rfl (by simp [Value.oneCell']) ?_)
        simp only [Act.put]
        obtain ⟨g, hg⟩ : ∃ g, g = W8.heap.size := ⟨_, rfl⟩
        rw [← hg] at BZ ⊢
        have hgw : w.heap.size + 1 + 1 < g := by rw [hg]; exact lt_of_block E2.out
        obtain ⟨W9, hW9⟩ : ∃ X, X = (W8.alloc (.cells #[.int .i64 0, .int .i64 0, .int .i64 0, .int .i64 0, .int .u8 0, .int .u8 0, .int .u8 0, .int .u8 0, .int .u8 0, .int .u8 0, .int .u8 0, .int .u8 0, .int .u8 0, .int .u8 0, .int .u8 0, .int .u8 0, .int .u8 0, .int .u8 0, .int .u8 0, .int .u8 0, .int .u8 0, .int .u8 0] 97)).setRow g #[.int .i64 b1, .int .i64 b2, .int .i64 (b3 + 256 * b4), .int .i64 b5, .int .u8 0, .int .u8 0, .int .u8 0, .int .u8 0, .int .u8 0, .int .u8 0, .int .u8 0, .int .u8 0, .int .u8 0, .int .u8 0, .int .u8 0, .int .u8 0, .int .u8 0, .int .u8 0, .int .u8 0, .int .u8 0, .int .u8 0, .int .u8 0] := ⟨_, rfl⟩
        rw [← hW9]
        have D7 : Hid (Blk W9 g 97 #[.int .i64 b1, .int .i64 b2, .int .i64 (b3 + 256 * b4), .int .i64 b5, .int .u8 0, .int .u8 0, .int .u8 0, .int .u8 0, .int .u8 0, .int .u8 0, .int .u8 0, .int .u8 0, .int .u8 0, .int .u8 0, .int .u8 0, .int .u8 0, .int .u8 0, .int .u8 0, .int .u8 0, .int .u8 0, .int .u8 0, .int .u8 0]) := by show Blk _ _ _ _; rw [hW9]; exact BZ.out.setRow _
        have D1 : Hid (Blk W9 (w.heap.size + 1) 98 sa) := by show Blk _ _ _ _; rw [hW9]; exact (E1.out.alloc _).setRow_far (by omega) _
        have D2 : Hid (Blk W9 (w.heap.size + 1 + 1) 97 #[.int .i64 0, .int .i64 0, .int .i64 0, .int .i64 0, .int .u8 0, .int .u8 0, .int .u8 0, .int .u8 0, .int .u8 0, .int .u8 0, .int .u8 0, .int .u8 0, .int .u8 0, .int .u8 0, .int .u8 0, .int .u8 0, .int .u8 0, .int .u8 0, .int .u8 0, .int .u8 0, .int .u8 0, .int .u8 0]) := by show Blk _ _ _ _; rw [hW9]; exact (E2.out.alloc _).setRow_far (by omega) _
        have hD : Hid (Below w.heap.size w W9) := by show Below _ _ _; rw [hW9]; exact (HhE.out.alloc HhE.out.size _).setRow' (by omega) _
        clear hW9 BZ E1 E2 HhE hg d1 d2 d3 d4 d5
        refine wp_region_still_tail 3 (by kernel_rfl) (by kernel_rfl) ?_
        simp only [List.take_succ_cons, List.take_zero, List.drop_succ_cons, List.drop_zero]
        change wpStill _ _ (World.drew _) _ _ _
        repeat still_step
        refine wpStill_nil ?_
        change wpList _ _ _ _ _ (World.drew _)
        obtain ⟨pl, hpl⟩ : ∃ pl, pl = (bs.drop 6).take 18 := ⟨_, rfl⟩
        have hplen : pl.length = 18 := by rw [hpl]; simp [HL.out]
        have hcur : W9.drew.heap[g]? = some (Obj.cells ([Value.int .i64 b1, Value.int .i64 b2, Value.int .i64 (b3 + 256 * b4), Value.int .i64 b5, Value.int .u8 0, Value.int .u8 0, Value.int .u8 0, Value.int .u8 0, Value.int .u8 0, Value.int .u8 0, Value.int .u8 0, Value.int .u8 0, Value.int .u8 0, Value.int .u8 0, Value.int .u8 0, Value.int .u8 0, Value.int .u8 0, Value.int .u8 0, Value.int .u8 0, Value.int .u8 0, Value.int .u8 0, Value.int .u8 0] : List Value).toArray 97 (0, 0)) := D7.out.drew
        refine wpList_copy_splice rfl (.tmp 41) (.tmp 42) 106 106 rfl 5 Tryz.underlying106 (by kernel_rfl) (some ⟨g, 4, none⟩) (some ⟨w.heap.size + 1, 6, none⟩) 18 18 18 26 rfl rfl g 4 [Value.int .i64 b1, Value.int .i64 b2, Value.int .i64 (b3 + 256 * b4), Value.int .i64 b5, Value.int .u8 0, Value.int .u8 0, Value.int .u8 0, Value.int .u8 0, Value.int .u8 0, Value.int .u8 0, Value.int .u8 0, Value.int .u8 0, Value.int .u8 0, Value.int .u8 0, Value.int .u8 0, Value.int .u8 0, Value.int .u8 0, Value.int .u8 0, Value.int .u8 0, Value.int .u8 0, Value.int .u8 0, Value.int .u8 0] 97 hcur (pl.map (Value.int .u8)) (by simp [hplen])
          (fun _ => ⟨rfl, ⟨w.heap.size + 1, 6, none⟩, rfl, fun j v hj => ?_⟩) (by simp [hplen]) (fun v hv => ?_) g W9 ((Below.refl _ _).drew) (Nat.le_refl _) ?_
        · have h18 : j < pl.length := by have := (List.getElem?_eq_some_iff.1 hj).1; simpa using this
          rw [Addr.add_mid, D1.out.drew.cell (6 + j), HSA.out, bytesA_at bs (6 + j) (by have := HL.out; omega), ← hj, List.getElem?_map, hpl]
          simp [List.getD_eq_getElem?_getD, show j < 18 by omega, show 6 + j < bs.length by have := HL.out; omega]
        · obtain ⟨x, _, rfl⟩ := List.mem_map.1 hv
          rfl
        intro w10 hsp hb10
        obtain ⟨pc, hpc⟩ : ∃ pc, pc = (readP bs).cells := ⟨_, rfl⟩
        have M7 : Hid (Blk w10 g 97 pc) := by
          show Blk _ _ _ _
          have := hsp.out
          rw [splice_pk _ _ _ _ pl hplen] at this
          rw [hpc, HC1.out, ← hpl]
          exact this
        have M2 : Hid (Blk w10 (w.heap.size + 1 + 1) 97 #[.int .i64 0, .int .i64 0, .int .i64 0, .int .i64 0, .int .u8 0, .int .u8 0, .int .u8 0, .int .u8 0, .int .u8 0, .int .u8 0, .int .u8 0, .int .u8 0, .int .u8 0, .int .u8 0, .int .u8 0, .int .u8 0, .int .u8 0, .int .u8 0, .int .u8 0, .int .u8 0, .int .u8 0, .int .u8 0]) := (hb10.block _ (by omega)).trans D2.out
        have hM : Hid (Below w.heap.size w w10) := hD.out.trans (hb10.mono (by omega))
        have hps : (readP bs).ps.length = 18 := by rw [HC1.out, ← hpl]; exact hplen
        have HPC := Lib.hid hpc
        have HPS := Lib.hid hps
        have psz : Hid (pc.size = 22) := by show _ = _; rw [hpc]; exact Pk.size hps
        have pone : Hid (pc.all (·.oneCell') = true) := by show _ = _; rw [hpc]; exact pkA_one ..
        have ip : Hid ((Tryz.prog.info? 97).map (·.size) = some pc.size) := by show _ = _; rw [psz.out]; kernel_rfl
        have hold : Hid ((#[.int .i64 0, .int .i64 0, .int .i64 0, .int .i64 0, .int .u8 0, .int .u8 0, .int .u8 0, .int .u8 0, .int .u8 0, .int .u8 0, .int .u8 0, .int .u8 0, .int .u8 0, .int .u8 0, .int .u8 0, .int .u8 0, .int .u8 0, .int .u8 0, .int .u8 0, .int .u8 0, .int .u8 0, .int .u8 0] : Array Value).size = pc.size) := by show _ = _; rw [psz.out]; rfl
        clear hsp hcur hb10 D7 D1 D2 hD hpl hplen hpc hps HC1
        generalize goInt _ = v43
        simp only [Act.put]
        go_wp2_with (refine wpList_load_row rfl 97 _ rfl g rfl 97 pc (0, 0) _ M7.out Tryz.underlying97 rfl ip.out ?_)
        refine Calls.mono (refCheckPacket_pk (readP bs) pc _ HPC.out HPS.out) ?_
        rintro e w11 ⟨rfl, hb11⟩
        have N7 : Hid (Blk w11 g 97 pc) := M7.out.below hb11
        have N2 : Hid (Blk w11 (w.heap.size + 1 + 1) 97 #[.int .i64 0, .int .i64 0, .int .i64 0, .int .i64 0, .int .u8 0, .int .u8 0, .int .u8 0, .int .u8 0, .int .u8 0, .int .u8 0, .int .u8 0, .int .u8 0, .int .u8 0, .int .u8 0, .int .u8 0, .int .u8 0, .int .u8 0, .int .u8 0, .int .u8 0, .int .u8 0, .int .u8 0, .int .u8 0]) := M2.out.below hb11
        have hN : Hid (Below w.heap.size w w11) := hM.out.trans (hb11.mono hM.out.size)
        obtain ⟨E, hEe⟩ : ∃ E, E = (readP bs).err := ⟨_, rfl⟩
        rw [← hEe] at HDE ⊢
        clear hb11 M7 M2 hM hEe
        by_cases he : E = 0
        · have h1 : (E != 0) = false := by simp [he]
          have hd : Hid (decodeE ks bs = 0) := by show _ = _; rw [HDE.out]; exact he
          have ha : Hid (decodeA ks bs = pc) := by show _ = _; unfold decodeA; rw [if_pos hd.out, HPC.out]
          clear he
          go_wp2_with (first
            | (refine wpList_load_row rfl 97 _ rfl g rfl 97 pc (0, 0) _ N7.out Tryz.underlying97 rfl ip.out ?_)
            | (refine wpList_store_row rfl 97 _ _ rfl (w.heap.size + 1 + 1) pc rfl rfl 97 _ N2.out ip.out hold.out pone.out ?_))
          generalize hWf : World.setRow _ _ _ = Wf
          have D : Blk Wf (w.heap.size + 1 + 1) 97 pc := by rw [← hWf]; exact N2.out.setRow _
          have hlv : (loadVar 97 ⟨w.heap.size + 1 + 1, 0, none⟩).run Tryz.prog Wf = .ok (.agg pc) Wf := run_loadVar_row Wf _ 97 97 _ (0, 0) _ D Tryz.underlying97 rfl ip.out
          have hBf : Below w.heap.size w Wf := by rw [← hWf]; exact hN.out.setRow' (by omega) _
          exact bodyPost_ret (v := .tuple #[.agg pc, .int .i64 0]) (by simp [results, Tryz.results73, asAddr, hlv]) rfl ⟨ret_agg2 ha.out.symm hd.out.symm, hBf⟩
        · have h1 : (E != 0) = true := by simp [he]
          have ha : Hid (decodeA ks bs = pkNone) := by show _ = _; unfold decodeA; rw [if_neg (by rw [HDE.out]; exact he)]
          have iz : Hid ((Tryz.prog.info? 97).map (·.size) = some (#[.int .i64 0, .int .i64 0, .int .i64 0, .int .i64 0, .int .u8 0, .int .u8 0, .int .u8 0, .int .u8 0, .int .u8 0, .int .u8 0, .int .u8 0, .int .u8 0, .int .u8 0, .int .u8 0, .int .u8 0, .int .u8 0, .int .u8 0, .int .u8 0, .int .u8 0, .int .u8 0, .int .u8 0, .int .u8 0] : Array Value).size) := by show _ = _; kernel_rfl
          have zo : Hid ((#[.int .i64 0, .int .i64 0, .int .i64 0, .int .i64 0, .int .u8 0, .int .u8 0, .int .u8 0, .int .u8 0, .int .u8 0, .int .u8 0, .int .u8 0, .int .u8 0, .int .u8 0, .int .u8 0, .int .u8 0, .int .u8 0, .int .u8 0, .int .u8 0, .int .u8 0, .int .u8 0, .int .u8 0, .int .u8 0] : Array Value).all (·.oneCell') = true) := by show _ = _; simp [Value.oneCell']
          clear he
          go_wp2_with (refine wpList_store_row rfl 97 _ _ rfl (w.heap.size + 1 + 1) #[.int .i64 0, .int .i64 0, .int .i64 0, .int .i64 0, .int .u8 0, .int .u8 0, .int .u8 0, .int .u8 0, .int .u8 0, .int .u8 0, .int .u8 0, .int .u8 0, .int .u8 0, .int .u8 0, .int .u8 0, .int .u8 0, .int .u8 0, .int .u8 0, .int .u8 0, .int .u8 0, .int .u8 0, .int .u8 0] rfl rfl 97 _ N2.out iz.out rfl zo.out ?_)
          generalize hWf : World.setRow _ _ _ = Wf
          have D : Blk Wf (w.heap.size + 1 + 1) 97 #[.int .i64 0, .int .i64 0, .int .i64 0, .int .i64 0, .int .u8 0, .int .u8 0, .int .u8 0, .int .u8 0, .int .u8 0, .int .u8 0, .int .u8 0, .int .u8 0, .int .u8 0, .int .u8 0, .int .u8 0, .int .u8 0, .int .u8 0, .int .u8 0, .int .u8 0, .int .u8 0, .int .u8 0, .int .u8 0] := by rw [← hWf]; exact N2.out.setRow _
          have hlv : (loadVar 97 ⟨w.heap.size + 1 + 1, 0, none⟩).run Tryz.prog Wf = .ok (.agg #[.int .i64 0, .int .i64 0, .int .i64 0, .int .i64 0, .int .u8 0, .int .u8 0, .int .u8 0, .int .u8 0, .int .u8 0, .int .u8 0, .int .u8 0, .int .u8 0, .int .u8 0, .int .u8 0, .int .u8 0, .int .u8 0, .int .u8 0, .int .u8 0, .int .u8 0, .int .u8 0, .int .u8 0, .int .u8 0]) Wf := run_loadVar_row Wf _ 97 97 _ (0, 0) _ D Tryz.underlying97 rfl iz.out
          have hBf : Below w.heap.size w Wf := by rw [← hWf]; exact hN.out.setRow' (by omega) _
          exact bodyPost_ret (v := .tuple #[.agg #[.int .i64 0, .int .i64 0, .int .i64 0, .int .i64 0, .int .u8 0, .int .u8 0, .int .u8 0, .int .u8 0, .int .u8 0, .int .u8 0, .int .u8 0, .int .u8 0, .int .u8 0, .int .u8 0, .int .u8 0, .int .u8 0, .int .u8 0, .int .u8 0, .int .u8 0, .int .u8 0, .int .u8 0, .int .u8 0], .int .i64 E]) (by simp [results, Tryz.results73, asAddr, hlv]) rfl ⟨ret_agg2 (ha.out.trans rfl).symm HDE.out.symm, hBf⟩
theorem refDecode_any (ks bs : List Int) (w : World) (hk : ks.length = 8) (hkb : AllB ks) (hl : bs.length = 32) (hb : AllB bs) :
    Calls Tryz.prog 73 #[.agg (bytesA ks), .agg (bytesA bs)] w fun e w' => e = .returned (.tuple #[.agg (decodeA ks bs), .int .i64 (decodeE ks bs)]) ∧ Below w.heap.size w w' := by
  by_cases h0 : bs.getD 0 0 = 93
  · exact refDecode_tail ks bs w hk hkb hl hb h0
  · exact refDecode_head ks bs w hl h0
end Go.Proofs.YtoipafnlcchmbaaGreatDoor
