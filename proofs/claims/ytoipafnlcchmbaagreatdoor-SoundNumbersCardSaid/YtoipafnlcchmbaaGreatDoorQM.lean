/- Decode's reading of a frame (made by wip/tools/gen_r5.py). Decode: behind the mark. The frame that is read at a place of a stream (made by wip/tools/gen_r2.py). -/
import Derived.Test.YtoipafnlcchmbaaGreatDoorQH
import Derived.Deep.MidRow
import Derived.Test.YtoipafnlcchmbaaGreatDoorQJ
namespace Go.Proofs.YtoipafnlcchmbaaGreatDoor
open Go.RowKit

theorem cells23 {W : World} {h : Nat} {x1 x2 x3 x4 x5 : Int} {cs : List Value} {sa : Array Value} (hS : Blk W h 98 sa)
    (hs : Hid ((sa[1]? = some (.int .u8 x1) ∧ sa[2]? = some (.int .u8 x2) ∧ sa[3]? = some (.int .u8 x3) ∧ sa[4]? = some (.int .u8 x4) ∧ sa[5]? = some (.int .u8 x5)) ∧ ∀ i v, cs[i]? = some v → sa[6 + i]? = some v)) :
    (W.cell? ⟨h, 1, none⟩ = some (.int .u8 x1) ∧ W.cell? ⟨h, 2, none⟩ = some (.int .u8 x2) ∧ W.cell? ⟨h, 3, none⟩ = some (.int .u8 x3) ∧ W.cell? ⟨h, 4, none⟩ = some (.int .u8 x4) ∧ W.cell? ⟨h, 5, none⟩ = some (.int .u8 x5)) ∧ W.rangeAt h 6 cs := by
  obtain ⟨⟨a1, a2, a3, a4, a5⟩, c⟩ := hs.out
  exact ⟨⟨(hS.cell 1).trans a1, (hS.cell 2).trans a2, (hS.cell 3).trans a3, (hS.cell 4).trans a4, (hS.cell 5).trans a5⟩, fun i v hv => (hS.cell (6 + i)).trans (c i v hv)⟩
theorem fold18 (x1 x2 x3 x5 p0 p1 p2 p3 p4 p5 p6 p7 p8 p9 p10 p11 p12 p13 p14 p15 p16 p17 : Int) : List.foldl (fun (cs : Array Value) (x : Value × Nat) => cs.setIfInBounds (4 + x.snd) x.fst) #[.int .i64 x1, .int .i64 x2, .int .i64 x3, .int .i64 x5, .int .u8 0, .int .u8 0, .int .u8 0, .int .u8 0, .int .u8 0, .int .u8 0, .int .u8 0, .int .u8 0, .int .u8 0, .int .u8 0, .int .u8 0, .int .u8 0, .int .u8 0, .int .u8 0, .int .u8 0, .int .u8 0, .int .u8 0, .int .u8 0] (List.zipIdx [Value.int .u8 p0, Value.int .u8 p1, Value.int .u8 p2, Value.int .u8 p3, Value.int .u8 p4, Value.int .u8 p5, Value.int .u8 p6, Value.int .u8 p7, Value.int .u8 p8, Value.int .u8 p9, Value.int .u8 p10, Value.int .u8 p11, Value.int .u8 p12, Value.int .u8 p13, Value.int .u8 p14, Value.int .u8 p15, Value.int .u8 p16, Value.int .u8 p17]) = (.int .i64 x1 :: .int .i64 x2 :: .int .i64 x3 :: .int .i64 x5 :: [Value.int .u8 p0, Value.int .u8 p1, Value.int .u8 p2, Value.int .u8 p3, Value.int .u8 p4, Value.int .u8 p5, Value.int .u8 p6, Value.int .u8 p7, Value.int .u8 p8, Value.int .u8 p9, Value.int .u8 p10, Value.int .u8 p11, Value.int .u8 p12, Value.int .u8 p13, Value.int .u8 p14, Value.int .u8 p15, Value.int .u8 p16, Value.int .u8 p17] : List Value).toArray := by kernel_rfl

set_option maxHeartbeats 4000000 in
set_option maxRecDepth 100000 in
theorem Decode_r5 (h : Nat) (x1 x2 x3 x4 x5 p0 p1 p2 p3 p4 p5 p6 p7 p8 p9 p10 p11 p12 p13 p14 p15 p16 p17 : Int) (cs : List Value) (sa : Array Value) (hw1 : 0 ≤ x1 ∧ x1 ≤ 255) (hw2 : 0 ≤ x2 ∧ x2 ≤ 255) (hw3 : 0 ≤ x3 ∧ x3 ≤ 255) (hw4 : 0 ≤ x4 ∧ x4 ≤ 255) (hw5 : 0 ≤ x5 ∧ x5 ≤ 255)
    (HCS : Hid (cs = [.int .u8 p0, .int .u8 p1, .int .u8 p2, .int .u8 p3, .int .u8 p4, .int .u8 p5, .int .u8 p6, .int .u8 p7, .int .u8 p8, .int .u8 p9, .int .u8 p10, .int .u8 p11, .int .u8 p12, .int .u8 p13, .int .u8 p14, .int .u8 p15, .int .u8 p16, .int .u8 p17])) (W : World) (BS : Hid (Blk W h 98 sa)) (hs23 : Hid ((sa[1]? = some (.int .u8 x1) ∧ sa[2]? = some (.int .u8 x2) ∧ sa[3]? = some (.int .u8 x3) ∧ sa[4]? = some (.int .u8 x4) ∧ sa[5]? = some (.int .u8 x5)) ∧ ∀ i v, cs[i]? = some v → sa[6 + i]? = some v))
    (u0 u1 u2 u4 u5 u6 u7 u8 u9 u10 u11 u12 u13 u14 u15 u16 u17 u18 u19 u20 u21 u22 u23 u24 u25 u26 u27 u28 u29 u30 u31 u32 u33 u34 u35 u36 u37 u38 u39 u40 u41 u42 u43 u44 u45 u46 u47 : Value) (Q : Exit → Act → World → Prop) (hQ : ∀ c (a : Act) (d : Option Tmp) (v : Value) w, Q (.panic c) (a.put d v) w → Q (.panic c) a w)
    (hQn : ∀ (v20 v21 v22 v23 v24 v25 v26 v27 v28 v29 v30 v31 v32 v33 v34 v35 v36 v37 v38 v39 v40 : Value) (W' : World), Blk W' W.heap.size 101 #[.int .i64 x1, .int .i64 x2, .int .i64 (x3 + x4 * 256), .int .i64 x5, .int .u8 p0, .int .u8 p1, .int .u8 p2, .int .u8 p3, .int .u8 p4, .int .u8 p5, .int .u8 p6, .int .u8 p7, .int .u8 p8, .int .u8 p9, .int .u8 p10, .int .u8 p11, .int .u8 p12, .int .u8 p13, .int .u8 p14, .int .u8 p15, .int .u8 p16, .int .u8 p17] → Below W.heap.size W W' → Q .normal { tmps := #[u0, u1, u2, .pointer (some ⟨h, 0, none⟩), u4, u5, .pointer (some ⟨W.heap.size, 0, none⟩), u7, u8, u9, u10, u11, u12, u13, u14, u15, u16, u17, u18, u19, v20, v21, v22, v23, v24, v25, v26, v27, v28, v29, v30, v31, v32, v33, v34, v35, v36, v37, v38, v39, v40, u41, u42, u43, u44, u45, u46, u47], defers := [] } W') :
    (Code.region 5 #[{ dst := some 20, op := Op.indexAddr 98 (Operand.tmp 3) (Operand.const (Value.int IntKind.i64 1)), type := 0, pos := "packets.go:86", after := #[], guard := none }, { dst := some 21, op := Op.load 5 (Operand.tmp 20), type := 5, pos := "packets.go:86", after := #[{ on := 0, ground := Ground.data }], guard := none }, { dst := some 22, op := Op.convert 5 3 (Operand.tmp 21), type := 3, pos := "packets.go:86", after := #[{ on := 1, ground := Ground.data }], guard := none }, { dst := some 23, op := Op.indexAddr 98 (Operand.tmp 3) (Operand.const (Value.int IntKind.i64 2)), type := 0, pos := "packets.go:86", after := #[], guard := none }, { dst := some 24, op := Op.load 5 (Operand.tmp 23), type := 5, pos := "packets.go:86", after := #[{ on := 3, ground := Ground.data }], guard := none }, { dst := some 25, op := Op.convert 5 3 (Operand.tmp 24), type := 3, pos := "packets.go:86", after := #[{ on := 4, ground := Ground.data }], guard := none }, { dst := some 26, op := Op.indexAddr 98 (Operand.tmp 3) (Operand.const (Value.int IntKind.i64 3)), type := 0, pos := "packets.go:86", after := #[], guard := none }, { dst := some 27, op := Op.load 5 (Operand.tmp 26), type := 5, pos := "packets.go:86", after := #[{ on := 6, ground := Ground.data }], guard := none }, { dst := some 28, op := Op.convert 5 3 (Operand.tmp 27), type := 3, pos := "packets.go:86", after := #[{ on := 7, ground := Ground.data }], guard := none }, { dst := some 29, op := Op.indexAddr 98 (Operand.tmp 3) (Operand.const (Value.int IntKind.i64 4)), type := 0, pos := "packets.go:86", after := #[], guard := none }, { dst := some 30, op := Op.load 5 (Operand.tmp 29), type := 5, pos := "packets.go:86", after := #[{ on := 9, ground := Ground.data }], guard := none }, { dst := some 31, op := Op.convert 5 3 (Operand.tmp 30), type := 3, pos := "packets.go:86", after := #[{ on := 10, ground := Ground.data }], guard := none }, { dst := some 32, op := Op.binOp BinOp.shl 3 (Operand.tmp 31) (Operand.const (Value.int IntKind.u64 8)) 218, type := 3, pos := "packets.go:86", after := #[{ on := 11, ground := Ground.data }], guard := none }, { dst := some 33, op := Op.binOp BinOp.add 3 (Operand.tmp 28) (Operand.tmp 32) 3, type := 3, pos := "packets.go:86", after := #[{ on := 8, ground := Ground.data }, { on := 12, ground := Ground.data }], guard := none }, { dst := some 34, op := Op.indexAddr 98 (Operand.tmp 3) (Operand.const (Value.int IntKind.i64 5)), type := 0, pos := "packets.go:86", after := #[], guard := none }, { dst := some 35, op := Op.load 5 (Operand.tmp 34), type := 5, pos := "packets.go:86", after := #[{ on := 14, ground := Ground.data }], guard := none }, { dst := some 36, op := Op.convert 5 3 (Operand.tmp 35), type := 3, pos := "packets.go:86", after := #[{ on := 15, ground := Ground.data }], guard := none }, { dst := some 37, op := Op.slice 98 (Operand.tmp 3) (some (Operand.const (Value.int IntKind.i64 6))) (some (Operand.const (Value.int IntKind.i64 24))) none, type := 106, pos := "packets.go:86", after := #[], guard := none }, { dst := some 38, op := Op.sliceToArrayPointer 95 (Operand.tmp 37), type := 0, pos := "packets.go:86", after := #[{ on := 17, ground := Ground.data }], guard := none }, { dst := some 39, op := Op.load 95 (Operand.tmp 38), type := 95, pos := "packets.go:86", after := #[{ on := 18, ground := Ground.data }], guard := none }, { dst := some 40, op := Op.build 101 #[(0, Operand.tmp 22), (1, Operand.tmp 25), (2, Operand.tmp 33), (3, Operand.tmp 36), (4, Operand.tmp 39)], type := 101, pos := "packets.go:86", after := #[{ on := 2, ground := Ground.data }, { on := 5, ground := Ground.data }, { on := 13, ground := Ground.data }, { on := 16, ground := Ground.data }, { on := 19, ground := Ground.data }], guard := none }, { dst := some 6, op := Op.alloc 101, type := 0, pos := "packets.go:86", after := #[], guard := none }, { dst := none, op := Op.store 101 (Operand.tmp 6) (Operand.tmp 40), type := 0, pos := "packets.go:86", after := #[{ on := 21, ground := Ground.data }, { on := 20, ground := Ground.data }, { on := 0, ground := Ground.phase }, { on := 1, ground := Ground.phase }, { on := 2, ground := Ground.phase }, { on := 3, ground := Ground.phase }, { on := 4, ground := Ground.phase }, { on := 5, ground := Ground.phase }, { on := 6, ground := Ground.phase }, { on := 7, ground := Ground.phase }, { on := 8, ground := Ground.phase }, { on := 9, ground := Ground.phase }, { on := 10, ground := Ground.phase }, { on := 11, ground := Ground.phase }, { on := 12, ground := Ground.phase }, { on := 13, ground := Ground.phase }, { on := 14, ground := Ground.phase }, { on := 15, ground := Ground.phase }, { on := 16, ground := Ground.phase }, { on := 17, ground := Ground.phase }, { on := 18, ground := Ground.phase }, { on := 19, ground := Ground.phase }, { on := 20, ground := Ground.phase }, { on := 21, ground := Ground.phase }], guard := none }] true).wp Tryz.prog Q { tmps := #[u0, u1, u2, .pointer (some ⟨h, 0, none⟩), u4, u5, u6, u7, u8, u9, u10, u11, u12, u13, u14, u15, u16, u17, u18, u19, u20, u21, u22, u23, u24, u25, u26, u27, u28, u29, u30, u31, u32, u33, u34, u35, u36, u37, u38, u39, u40, u41, u42, u43, u44, u45, u46, u47], defers := [] } W := by
  have hat18 : ∀ w', (Instr.arrayAt 95 (.slice (some ⟨h, 6, none⟩) 18 26)).run Tryz.prog w' = .ok (.pointer (some ⟨h, 6, none⟩)) w' := fun w' => run_arrayAt w' 95 5 18 _ 18 26 Tryz.underlying95 (Nat.le_refl _)
  have hfold : List.foldl (fun cs x => cs.setIfInBounds (4 + x.snd) x.fst) #[.int .i64 (IntKind.i64.wrap x1), .int .i64 (IntKind.i64.wrap x2), .int .i64 (IntKind.i64.wrap (IntKind.i64.wrap x3 + IntKind.i64.wrap (IntKind.i64.wrap x4 * 256))), .int .i64 (IntKind.i64.wrap x5), .int .u8 0, .int .u8 0, .int .u8 0, .int .u8 0, .int .u8 0, .int .u8 0, .int .u8 0, .int .u8 0, .int .u8 0, .int .u8 0, .int .u8 0, .int .u8 0, .int .u8 0, .int .u8 0, .int .u8 0, .int .u8 0, .int .u8 0, .int .u8 0] cs.zipIdx = #[.int .i64 x1, .int .i64 x2, .int .i64 (x3 + x4 * 256), .int .i64 x5, .int .u8 p0, .int .u8 p1, .int .u8 p2, .int .u8 p3, .int .u8 p4, .int .u8 p5, .int .u8 p6, .int .u8 p7, .int .u8 p8, .int .u8 p9, .int .u8 p10, .int .u8 p11, .int .u8 p12, .int .u8 p13, .int .u8 p14, .int .u8 p15, .int .u8 p16, .int .u8 p17] := by
    rw [IntWalk.i64_in x1 (by omega), IntWalk.i64_in x2 (by omega), IntWalk.i64_in x3 (by omega), IntWalk.i64_in x4 (by omega), IntWalk.i64_in (x4 * 256) (by omega), IntWalk.i64_in (x3 + x4 * 256) (by omega), IntWalk.i64_in x5 (by omega), HCS.out]
    exact fold18 x1 x2 (x3 + x4 * 256) x5 p0 p1 p2 p3 p4 p5 p6 p7 p8 p9 p10 p11 p12 p13 p14 p15 p16 p17
  have hu18 := Tryz.underlying95
  have hi18 : (Tryz.prog.info? 95).map (·.size) = some cs.length := by rw [HCS.out]; kernel_rfl
  have hl18 : cs.length = 18 := by rw [HCS.out]; rfl
  have HW : Hid (Hid ((0 ≤ x1 ∧ x1 ≤ 255) ∧ (0 ≤ x2 ∧ x2 ≤ 255))) := ⟨hw1, hw2⟩
  clear hw1 hw2 hw3 hw4 hw5 HW
  refine wp_region_held_drew (S := (fun W => (W.cell? ⟨h, 1, none⟩ = some (.int .u8 x1) ∧ W.cell? ⟨h, 2, none⟩ = some (.int .u8 x2) ∧ W.cell? ⟨h, 3, none⟩ = some (.int .u8 x3) ∧ W.cell? ⟨h, 4, none⟩ = some (.int .u8 x4) ∧ W.cell? ⟨h, 5, none⟩ = some (.int .u8 x5)) ∧ W.rangeAt h 6 cs)) (by kernel_rfl) (cells23 BS.out.drew hs23) (fun hHeld => ?_)
  refine wpAnyH_take (i := 0) (oi := { dst := some 20, op := Op.indexAddr 98 (Operand.tmp 3) (Operand.const (Value.int IntKind.i64 1)), type := 0, pos := "packets.go:86", after := #[], guard := none }) (v := ?v0) rfl (by kernel_rfl) (by kernel_rfl) (by kernel_rfl) (fun c a w h => hQ c a _ _ w h) (Or.inl ⟨by rfl, ?y0⟩) hHeld ?_
  case y0 => (intro w hSw; (try dsimp only at hSw); go_simp; try (with_reducible rfl))
  try simp only [Act.put, List.setIfInBounds_toArray, List.set_cons_zero, List.set_cons_succ]
  refine wpAnyH_take (i := 1) (oi := { dst := some 21, op := Op.load 5 (Operand.tmp 20), type := 5, pos := "packets.go:86", after := #[{ on := 0, ground := Ground.data }], guard := none }) (v := ?v1) rfl (by kernel_rfl) (by kernel_rfl) (by kernel_rfl) (fun c a w h => hQ c a _ _ w h) (Or.inl ⟨by rfl, ?y1⟩) hHeld ?_
  case y1 => (intro w hSw; (try dsimp only at hSw); go_simp; try (with_reducible rfl))
  try simp only [Act.put, List.setIfInBounds_toArray, List.set_cons_zero, List.set_cons_succ]
  refine wpAnyH_take (i := 2) (oi := { dst := some 22, op := Op.convert 5 3 (Operand.tmp 21), type := 3, pos := "packets.go:86", after := #[{ on := 1, ground := Ground.data }], guard := none }) (v := ?v2) rfl (by kernel_rfl) (by kernel_rfl) (by kernel_rfl) (fun c a w h => hQ c a _ _ w h) (Or.inl ⟨by rfl, ?y2⟩) hHeld ?_
  case y2 => (intro w hSw; (try dsimp only at hSw); go_simp; try (with_reducible rfl))
  try simp only [Act.put, List.setIfInBounds_toArray, List.set_cons_zero, List.set_cons_succ]
  refine wpAnyH_take (i := 3) (oi := { dst := some 23, op := Op.indexAddr 98 (Operand.tmp 3) (Operand.const (Value.int IntKind.i64 2)), type := 0, pos := "packets.go:86", after := #[], guard := none }) (v := ?v3) rfl (by kernel_rfl) (by kernel_rfl) (by kernel_rfl) (fun c a w h => hQ c a _ _ w h) (Or.inl ⟨by rfl, ?y3⟩) hHeld ?_
  case y3 => (intro w hSw; (try dsimp only at hSw); go_simp; try (with_reducible rfl))
  try simp only [Act.put, List.setIfInBounds_toArray, List.set_cons_zero, List.set_cons_succ]
  refine wpAnyH_take (i := 4) (oi := { dst := some 24, op := Op.load 5 (Operand.tmp 23), type := 5, pos := "packets.go:86", after := #[{ on := 3, ground := Ground.data }], guard := none }) (v := ?v4) rfl (by kernel_rfl) (by kernel_rfl) (by kernel_rfl) (fun c a w h => hQ c a _ _ w h) (Or.inl ⟨by rfl, ?y4⟩) hHeld ?_
  case y4 => (intro w hSw; (try dsimp only at hSw); go_simp; try (with_reducible rfl))
  try simp only [Act.put, List.setIfInBounds_toArray, List.set_cons_zero, List.set_cons_succ]
  refine wpAnyH_take (i := 5) (oi := { dst := some 25, op := Op.convert 5 3 (Operand.tmp 24), type := 3, pos := "packets.go:86", after := #[{ on := 4, ground := Ground.data }], guard := none }) (v := ?v5) rfl (by kernel_rfl) (by kernel_rfl) (by kernel_rfl) (fun c a w h => hQ c a _ _ w h) (Or.inl ⟨by rfl, ?y5⟩) hHeld ?_
  case y5 => (intro w hSw; (try dsimp only at hSw); go_simp; try (with_reducible rfl))
  try simp only [Act.put, List.setIfInBounds_toArray, List.set_cons_zero, List.set_cons_succ]
  refine wpAnyH_take (i := 6) (oi := { dst := some 26, op := Op.indexAddr 98 (Operand.tmp 3) (Operand.const (Value.int IntKind.i64 3)), type := 0, pos := "packets.go:86", after := #[], guard := none }) (v := ?v6) rfl (by kernel_rfl) (by kernel_rfl) (by kernel_rfl) (fun c a w h => hQ c a _ _ w h) (Or.inl ⟨by rfl, ?y6⟩) hHeld ?_
  case y6 => (intro w hSw; (try dsimp only at hSw); go_simp; try (with_reducible rfl))
  try simp only [Act.put, List.setIfInBounds_toArray, List.set_cons_zero, List.set_cons_succ]
  refine wpAnyH_take (i := 7) (oi := { dst := some 27, op := Op.load 5 (Operand.tmp 26), type := 5, pos := "packets.go:86", after := #[{ on := 6, ground := Ground.data }], guard := none }) (v := ?v7) rfl (by kernel_rfl) (by kernel_rfl) (by kernel_rfl) (fun c a w h => hQ c a _ _ w h) (Or.inl ⟨by rfl, ?y7⟩) hHeld ?_
  case y7 => (intro w hSw; (try dsimp only at hSw); go_simp; try (with_reducible rfl))
  try simp only [Act.put, List.setIfInBounds_toArray, List.set_cons_zero, List.set_cons_succ]
  refine wpAnyH_take (i := 8) (oi := { dst := some 28, op := Op.convert 5 3 (Operand.tmp 27), type := 3, pos := "packets.go:86", after := #[{ on := 7, ground := Ground.data }], guard := none }) (v := ?v8) rfl (by kernel_rfl) (by kernel_rfl) (by kernel_rfl) (fun c a w h => hQ c a _ _ w h) (Or.inl ⟨by rfl, ?y8⟩) hHeld ?_
  case y8 => (intro w hSw; (try dsimp only at hSw); go_simp; try (with_reducible rfl))
  try simp only [Act.put, List.setIfInBounds_toArray, List.set_cons_zero, List.set_cons_succ]
  refine wpAnyH_take (i := 9) (oi := { dst := some 29, op := Op.indexAddr 98 (Operand.tmp 3) (Operand.const (Value.int IntKind.i64 4)), type := 0, pos := "packets.go:86", after := #[], guard := none }) (v := ?v9) rfl (by kernel_rfl) (by kernel_rfl) (by kernel_rfl) (fun c a w h => hQ c a _ _ w h) (Or.inl ⟨by rfl, ?y9⟩) hHeld ?_
  case y9 => (intro w hSw; (try dsimp only at hSw); go_simp; try (with_reducible rfl))
  try simp only [Act.put, List.setIfInBounds_toArray, List.set_cons_zero, List.set_cons_succ]
  refine wpAnyH_take (i := 10) (oi := { dst := some 30, op := Op.load 5 (Operand.tmp 29), type := 5, pos := "packets.go:86", after := #[{ on := 9, ground := Ground.data }], guard := none }) (v := ?v10) rfl (by kernel_rfl) (by kernel_rfl) (by kernel_rfl) (fun c a w h => hQ c a _ _ w h) (Or.inl ⟨by rfl, ?y10⟩) hHeld ?_
  case y10 => (intro w hSw; (try dsimp only at hSw); go_simp; try (with_reducible rfl))
  try simp only [Act.put, List.setIfInBounds_toArray, List.set_cons_zero, List.set_cons_succ]
  refine wpAnyH_take (i := 11) (oi := { dst := some 31, op := Op.convert 5 3 (Operand.tmp 30), type := 3, pos := "packets.go:86", after := #[{ on := 10, ground := Ground.data }], guard := none }) (v := ?v11) rfl (by kernel_rfl) (by kernel_rfl) (by kernel_rfl) (fun c a w h => hQ c a _ _ w h) (Or.inl ⟨by rfl, ?y11⟩) hHeld ?_
  case y11 => (intro w hSw; (try dsimp only at hSw); go_simp; try (with_reducible rfl))
  try simp only [Act.put, List.setIfInBounds_toArray, List.set_cons_zero, List.set_cons_succ]
  refine wpAnyH_take (i := 12) (oi := { dst := some 32, op := Op.binOp BinOp.shl 3 (Operand.tmp 31) (Operand.const (Value.int IntKind.u64 8)) 218, type := 3, pos := "packets.go:86", after := #[{ on := 11, ground := Ground.data }], guard := none }) (v := ?v12) rfl (by kernel_rfl) (by kernel_rfl) (by kernel_rfl) (fun c a w h => hQ c a _ _ w h) (Or.inl ⟨by rfl, ?y12⟩) hHeld ?_
  case y12 => (intro w hSw; (try dsimp only at hSw); go_simp; try (with_reducible rfl))
  try simp only [Act.put, List.setIfInBounds_toArray, List.set_cons_zero, List.set_cons_succ]
  refine wpAnyH_take (i := 13) (oi := { dst := some 33, op := Op.binOp BinOp.add 3 (Operand.tmp 28) (Operand.tmp 32) 3, type := 3, pos := "packets.go:86", after := #[{ on := 8, ground := Ground.data }, { on := 12, ground := Ground.data }], guard := none }) (v := ?v13) rfl (by kernel_rfl) (by kernel_rfl) (by kernel_rfl) (fun c a w h => hQ c a _ _ w h) (Or.inl ⟨by rfl, ?y13⟩) hHeld ?_
  case y13 => (intro w hSw; (try dsimp only at hSw); go_simp; try (with_reducible rfl))
  try simp only [Act.put, List.setIfInBounds_toArray, List.set_cons_zero, List.set_cons_succ]
  refine wpAnyH_take (i := 14) (oi := { dst := some 34, op := Op.indexAddr 98 (Operand.tmp 3) (Operand.const (Value.int IntKind.i64 5)), type := 0, pos := "packets.go:86", after := #[], guard := none }) (v := ?v14) rfl (by kernel_rfl) (by kernel_rfl) (by kernel_rfl) (fun c a w h => hQ c a _ _ w h) (Or.inl ⟨by rfl, ?y14⟩) hHeld ?_
  case y14 => (intro w hSw; (try dsimp only at hSw); go_simp; try (with_reducible rfl))
  try simp only [Act.put, List.setIfInBounds_toArray, List.set_cons_zero, List.set_cons_succ]
  refine wpAnyH_take (i := 15) (oi := { dst := some 35, op := Op.load 5 (Operand.tmp 34), type := 5, pos := "packets.go:86", after := #[{ on := 14, ground := Ground.data }], guard := none }) (v := ?v15) rfl (by kernel_rfl) (by kernel_rfl) (by kernel_rfl) (fun c a w h => hQ c a _ _ w h) (Or.inl ⟨by rfl, ?y15⟩) hHeld ?_
  case y15 => (intro w hSw; (try dsimp only at hSw); go_simp; try (with_reducible rfl))
  try simp only [Act.put, List.setIfInBounds_toArray, List.set_cons_zero, List.set_cons_succ]
  refine wpAnyH_take (i := 16) (oi := { dst := some 36, op := Op.convert 5 3 (Operand.tmp 35), type := 3, pos := "packets.go:86", after := #[{ on := 15, ground := Ground.data }], guard := none }) (v := ?v16) rfl (by kernel_rfl) (by kernel_rfl) (by kernel_rfl) (fun c a w h => hQ c a _ _ w h) (Or.inl ⟨by rfl, ?y16⟩) hHeld ?_
  case y16 => (intro w hSw; (try dsimp only at hSw); go_simp; try (with_reducible rfl))
  try simp only [Act.put, List.setIfInBounds_toArray, List.set_cons_zero, List.set_cons_succ]
  refine wpAnyH_take (i := 17) (oi := { dst := some 37, op := Op.slice 98 (Operand.tmp 3) (some (Operand.const (Value.int IntKind.i64 6))) (some (Operand.const (Value.int IntKind.i64 24))) none, type := 106, pos := "packets.go:86", after := #[], guard := none }) (v := ?v17) rfl (by kernel_rfl) (by kernel_rfl) (by kernel_rfl) (fun c a w h => hQ c a _ _ w h) (Or.inl ⟨by rfl, ?y17⟩) hHeld ?_
  case y17 => (intro w hSw; (try dsimp only at hSw); go_simp; try (with_reducible rfl))
  try simp only [Act.put, List.setIfInBounds_toArray, List.set_cons_zero, List.set_cons_succ]
  refine wpAnyH_take (i := 18) (oi := { dst := some 38, op := Op.sliceToArrayPointer 95 (Operand.tmp 37), type := 0, pos := "packets.go:86", after := #[{ on := 17, ground := Ground.data }], guard := none }) (v := ?v18) rfl (by kernel_rfl) (by kernel_rfl) (by kernel_rfl) (fun c a w h => hQ c a _ _ w h) (Or.inl ⟨by rfl, ?y18⟩) hHeld ?_
  case y18 => (intro w hSw; (try dsimp only at hSw); go_simp; try (with_reducible rfl))
  try simp only [Act.put, List.setIfInBounds_toArray, List.set_cons_zero, List.set_cons_succ]
  refine wpAnyH_take (i := 19) (oi := { dst := some 39, op := Op.load 95 (Operand.tmp 38), type := 95, pos := "packets.go:86", after := #[{ on := 18, ground := Ground.data }], guard := none }) (v := .agg cs.toArray) rfl (by kernel_rfl) (by kernel_rfl) (by kernel_rfl) (fun c a w h => hQ c a _ _ w h) (yieldsIf_load_mid (by rfl) _ _ rfl h 6 rfl cs _ (fun W hW => hW.2) hu18 rfl hi18) hHeld ?_
  try simp only [Act.put, List.setIfInBounds_toArray, List.set_cons_zero, List.set_cons_succ]
  refine wpAnyH_take (i := 20) (oi := { dst := some 40, op := Op.build 101 #[(0, Operand.tmp 22), (1, Operand.tmp 25), (2, Operand.tmp 33), (3, Operand.tmp 36), (4, Operand.tmp 39)], type := 101, pos := "packets.go:86", after := #[{ on := 2, ground := Ground.data }, { on := 5, ground := Ground.data }, { on := 13, ground := Ground.data }, { on := 16, ground := Ground.data }, { on := 19, ground := Ground.data }], guard := none }) (v := .agg #[.int .i64 x1, .int .i64 x2, .int .i64 (x3 + x4 * 256), .int .i64 x5, .int .u8 p0, .int .u8 p1, .int .u8 p2, .int .u8 p3, .int .u8 p4, .int .u8 p5, .int .u8 p6, .int .u8 p7, .int .u8 p8, .int .u8 p9, .int .u8 p10, .int .u8 p11, .int .u8 p12, .int .u8 p13, .int .u8 p14, .int .u8 p15, .int .u8 p16, .int .u8 p17]) rfl (by kernel_rfl) (by kernel_rfl) (by kernel_rfl) (fun c a w h => hQ c a _ _ w h) (Or.inl ⟨by rfl, ?y20⟩) hHeld ?_
  case y20 => (intro w hSw; (try dsimp only at hSw); go_simp; try (with_reducible rfl))
  try simp only [Act.put, List.setIfInBounds_toArray, List.set_cons_zero, List.set_cons_succ]
  refine wpAnyH_ready (rs := [21]) (by kernel_rfl) (by simp) ?_
  refine AllReadyH.cons (o := { dst := some 6, op := Op.alloc 101, type := 0, pos := "packets.go:86", after := #[], guard := none }) rfl (fun K hK => ?_) AllReadyH.nil
  clear hfold
  go_simp
  refine hK.out _ _ ?_ (fun hHeld2 => ?_)
  · exact cells23 (BS.out.drew.alloc _) hs23
  clear hK K
  try simp only [Act.put, List.setIfInBounds_toArray, List.set_cons_zero, List.set_cons_succ]
  refine wpAnyH_ready (rs := [22]) (by kernel_rfl) (by simp) ?_
  refine AllReadyH.cons (o := { dst := none, op := Op.store 101 (Operand.tmp 6) (Operand.tmp 40), type := 0, pos := "packets.go:86", after := #[{ on := 21, ground := Ground.data }, { on := 20, ground := Ground.data }, { on := 0, ground := Ground.phase }, { on := 1, ground := Ground.phase }, { on := 2, ground := Ground.phase }, { on := 3, ground := Ground.phase }, { on := 4, ground := Ground.phase }, { on := 5, ground := Ground.phase }, { on := 6, ground := Ground.phase }, { on := 7, ground := Ground.phase }, { on := 8, ground := Ground.phase }, { on := 9, ground := Ground.phase }, { on := 10, ground := Ground.phase }, { on := 11, ground := Ground.phase }, { on := 12, ground := Ground.phase }, { on := 13, ground := Ground.phase }, { on := 14, ground := Ground.phase }, { on := 15, ground := Ground.phase }, { on := 16, ground := Ground.phase }, { on := 17, ground := Ground.phase }, { on := 18, ground := Ground.phase }, { on := 19, ground := Ground.phase }, { on := 20, ground := Ground.phase }, { on := 21, ground := Ground.phase }], guard := none }) rfl (fun K hK => ?_) AllReadyH.nil
  rw [if_pos (by rfl)]
  have hlt : h < W.heap.size := lt_of_block BS.out
  refine wp_store_row 101 _ _ rfl W.heap.size #[.int .i64 x1, .int .i64 x2, .int .i64 (x3 + x4 * 256), .int .i64 x5, .int .u8 p0, .int .u8 p1, .int .u8 p2, .int .u8 p3, .int .u8 p4, .int .u8 p5, .int .u8 p6, .int .u8 p7, .int .u8 p8, .int .u8 p9, .int .u8 p10, .int .u8 p11, .int .u8 p12, .int .u8 p13, .int .u8 p14, .int .u8 p15, .int .u8 p16, .int .u8 p17] rfl rfl 101 #[.int .i64 0, .int .i64 0, .int .i64 0, .int .i64 0, .int .u8 0, .int .u8 0, .int .u8 0, .int .u8 0, .int .u8 0, .int .u8 0, .int .u8 0, .int .u8 0, .int .u8 0, .int .u8 0, .int .u8 0, .int .u8 0, .int .u8 0, .int .u8 0, .int .u8 0, .int .u8 0, .int .u8 0, .int .u8 0] (Blk.new W.drew _ _) (by kernel_rfl) rfl (by simp [Value.oneCell']) ?_
  refine hK.out _ _ ?_ (fun _ => ?_)
  · exact cells23 ((BS.out.drew.alloc _).setRow_far (by omega) _) hs23
  refine wpAnyH_done (by kernel_rfl) ?_ _
  try simp only [Act.put]
  refine hQn _ _ _ _ _ _ _ _ _ _ _ _ _ _ _ _ _ _ _ _ _ _ ?_ ?_
  · exact (Blk.new W.drew _ _).setRow _
  · exact ((Below.refl _ W).drew.alloc (Nat.le_refl _) _).setRow' (Nat.le_refl _) _
end Go.Proofs.YtoipafnlcchmbaaGreatDoor
namespace Go.Proofs.YtoipafnlcchmbaaGreatDoor
open Go.RowKit

theorem getD_drop (l : List Int) (n i : Nat) : (l.drop n).getD i 0 = l.getD (n + i) 0 := by simp [List.getD_eq_getElem?_getD]
theorem eight (l : List Int) (h : l.length = 8) : ∃ k0 k1 k2 k3 k4 k5 k6 k7, l = [k0, k1, k2, k3, k4, k5, k6, k7] := by
  match l, h with
  | [k0, k1, k2, k3, k4, k5, k6, k7], _ => exact ⟨_, _, _, _, _, _, _, _, rfl⟩

theorem eighteen (l : List Int) (h : l.length = 18) : ∃ p0 p1 p2 p3 p4 p5 p6 p7 p8 p9 p10 p11 p12 p13 p14 p15 p16 p17, l = [p0, p1, p2, p3, p4, p5, p6, p7, p8, p9, p10, p11, p12, p13, p14, p15, p16, p17] := by
  match l, h with
  | [p0, p1, p2, p3, p4, p5, p6, p7, p8, p9, p10, p11, p12, p13, p14, p15, p16, p17], _ => exact ⟨_, _, _, _, _, _, _, _, _, _, _, _, _, _, _, _, _, _, rfl⟩
theorem keys16 {W : World} {g h : Nat} {k0 k1 k2 k3 k4 k5 k6 k7 s0 s1 s2 s3 s4 s5 s6 s7 : Int} {sa : Array Value} (hK : Blk W g 94 #[.int .u8 k0, .int .u8 k1, .int .u8 k2, .int .u8 k3, .int .u8 k4, .int .u8 k5, .int .u8 k6, .int .u8 k7]) (hS : Blk W h 98 sa)
    (hs : Hid (sa[24 + 0]? = some (.int .u8 s0) ∧ sa[24 + 1]? = some (.int .u8 s1) ∧ sa[24 + 2]? = some (.int .u8 s2) ∧ sa[24 + 3]? = some (.int .u8 s3) ∧ sa[24 + 4]? = some (.int .u8 s4) ∧ sa[24 + 5]? = some (.int .u8 s5) ∧ sa[24 + 6]? = some (.int .u8 s6) ∧ sa[24 + 7]? = some (.int .u8 s7))) :
    W.cell? ⟨g, 0, none⟩ = some (.int .u8 k0) ∧ W.cell? ⟨g, 1, none⟩ = some (.int .u8 k1) ∧ W.cell? ⟨g, 2, none⟩ = some (.int .u8 k2) ∧ W.cell? ⟨g, 3, none⟩ = some (.int .u8 k3) ∧ W.cell? ⟨g, 4, none⟩ = some (.int .u8 k4) ∧ W.cell? ⟨g, 5, none⟩ = some (.int .u8 k5) ∧ W.cell? ⟨g, 6, none⟩ = some (.int .u8 k6) ∧ W.cell? ⟨g, 7, none⟩ = some (.int .u8 k7) ∧ W.cell? ⟨h, 24 + 0, none⟩ = some (.int .u8 s0) ∧ W.cell? ⟨h, 24 + 1, none⟩ = some (.int .u8 s1) ∧ W.cell? ⟨h, 24 + 2, none⟩ = some (.int .u8 s2) ∧ W.cell? ⟨h, 24 + 3, none⟩ = some (.int .u8 s3) ∧ W.cell? ⟨h, 24 + 4, none⟩ = some (.int .u8 s4) ∧ W.cell? ⟨h, 24 + 5, none⟩ = some (.int .u8 s5) ∧ W.cell? ⟨h, 24 + 6, none⟩ = some (.int .u8 s6) ∧ W.cell? ⟨h, 24 + 7, none⟩ = some (.int .u8 s7) := by
  obtain ⟨a0, a1, a2, a3, a4, a5, a6, a7⟩ := hs.out
  exact ⟨(hK.cell 0).trans rfl, (hK.cell 1).trans rfl, (hK.cell 2).trans rfl, (hK.cell 3).trans rfl, (hK.cell 4).trans rfl, (hK.cell 5).trans rfl, (hK.cell 6).trans rfl, (hK.cell 7).trans rfl, (hS.cell (24 + 0)).trans a0, (hS.cell (24 + 1)).trans a1, (hS.cell (24 + 2)).trans a2, (hS.cell (24 + 3)).trans a3, (hS.cell (24 + 4)).trans a4, (hS.cell (24 + 5)).trans a5, (hS.cell (24 + 6)).trans a6, (hS.cell (24 + 7)).trans a7⟩

set_option maxHeartbeats 8000000 in
set_option maxRecDepth 100000 in
theorem Decode_any (ks bs : List Int) (w : World) (hk : ks.length = 8) (hkb : AllB ks) (hl : bs.length = 32) (hb : AllB bs) :
    Calls Tryz.prog 68 #[.agg (bytesA ks), .agg (bytesA bs)] w fun e w' => e = .returned (.tuple #[.agg (decodeA ks bs), .int .i64 (decodeE ks bs)]) ∧ Below w.heap.size w w' := by
  by_cases h0 : bs.getD 0 0 = 93
  case neg => exact Decode_head ks bs w hl h0
  obtain ⟨ka, hka⟩ : ∃ ka, ka = bytesA ks := ⟨_, rfl⟩
  obtain ⟨sa, hsa⟩ : ∃ sa, sa = bytesA bs := ⟨_, rfl⟩
  rw [← hka, ← hsa]
  have HKA := Lib.hid hka
  have HSA := Lib.hid hsa
  clear hka hsa
  go_enter Tryz.func68, Tryz.ntmps68
  go_upto_region 1 with fail
  obtain ⟨W0, hW0⟩ : ∃ W0, W0 = ((w.alloc (.cells ka 94)).alloc (.cells sa 98)).alloc (.cells #[.int .i64 0, .int .i64 0, .int .i64 0, .int .i64 0, .int .u8 0, .int .u8 0, .int .u8 0, .int .u8 0, .int .u8 0, .int .u8 0, .int .u8 0, .int .u8 0, .int .u8 0, .int .u8 0, .int .u8 0, .int .u8 0, .int .u8 0, .int .u8 0, .int .u8 0, .int .u8 0, .int .u8 0, .int .u8 0] 101) := ⟨_, rfl⟩
  rw [← hW0]
  have B0 : Hid (Blk W0 w.heap.size 94 ka) := by rw [hW0]; exact ((Blk.new w _ _).alloc _).alloc _
  have B1 : Hid (Blk W0 (w.heap.size + 1) 98 sa) := by rw [hW0]; have := (Blk.new (w.alloc (.cells ka 94)) 98 sa).alloc (.cells #[.int .i64 0, .int .i64 0, .int .i64 0, .int .i64 0, .int .u8 0, .int .u8 0, .int .u8 0, .int .u8 0, .int .u8 0, .int .u8 0, .int .u8 0, .int .u8 0, .int .u8 0, .int .u8 0, .int .u8 0, .int .u8 0, .int .u8 0, .int .u8 0, .int .u8 0, .int .u8 0, .int .u8 0, .int .u8 0] 101); rw [size_alloc1] at this; exact this
  have B2 : Hid (Blk W0 (w.heap.size + 1 + 1) 101 #[.int .i64 0, .int .i64 0, .int .i64 0, .int .i64 0, .int .u8 0, .int .u8 0, .int .u8 0, .int .u8 0, .int .u8 0, .int .u8 0, .int .u8 0, .int .u8 0, .int .u8 0, .int .u8 0, .int .u8 0, .int .u8 0, .int .u8 0, .int .u8 0, .int .u8 0, .int .u8 0, .int .u8 0, .int .u8 0]) := by rw [hW0]; have := Blk.new ((w.alloc (.cells ka 94)).alloc (.cells sa 98)) 101 #[.int .i64 0, .int .i64 0, .int .i64 0, .int .i64 0, .int .u8 0, .int .u8 0, .int .u8 0, .int .u8 0, .int .u8 0, .int .u8 0, .int .u8 0, .int .u8 0, .int .u8 0, .int .u8 0, .int .u8 0, .int .u8 0, .int .u8 0, .int .u8 0, .int .u8 0, .int .u8 0, .int .u8 0, .int .u8 0]; rw [size_alloc1, size_alloc1] at this; exact this
  have hB : Hid (Below w.heap.size w W0) := by rw [hW0]; exact (((Below.refl _ w).alloc (Nat.le_refl _) _).alloc (by rw [size_alloc1]; omega) _).alloc (by rw [size_alloc1, size_alloc1]; omega) _
  clear hW0
  have c0 : W0.cell? ⟨w.heap.size + 1, 0, none⟩ = some (.int .u8 93) := by rw [B1.out.cell 0, HSA.out, bytesA_at bs 0 (by omega), h0]
  have H0 := Lib.hid h0
  obtain ⟨k0, k1, k2, k3, k4, k5, k6, k7, hks⟩ := eight ks hk
  obtain ⟨s0, s1, s2, s3, s4, s5, s6, s7, hs⟩ := eight (bs.drop 24) (by simp [hl])
  have EK : Blk W0 w.heap.size 94 #[.int .u8 k0, .int .u8 k1, .int .u8 k2, .int .u8 k3, .int .u8 k4, .int .u8 k5, .int .u8 k6, .int .u8 k7] := by
    have := B0.out
    rw [HKA.out, hks] at this
    exact this
  have y0 : W0.cell? ⟨w.heap.size + 1, 24, none⟩ = some (.int .u8 s0) := by rw [B1.out.cell 24, HSA.out, bytesA_at bs 24 (by omega), ← getD_drop bs 24 0, hs]; rfl
  have y1 : W0.cell? ⟨w.heap.size + 1, 25, none⟩ = some (.int .u8 s1) := by rw [B1.out.cell 25, HSA.out, bytesA_at bs 25 (by omega), ← getD_drop bs 24 1, hs]; rfl
  have y2 : W0.cell? ⟨w.heap.size + 1, 26, none⟩ = some (.int .u8 s2) := by rw [B1.out.cell 26, HSA.out, bytesA_at bs 26 (by omega), ← getD_drop bs 24 2, hs]; rfl
  have y3 : W0.cell? ⟨w.heap.size + 1, 27, none⟩ = some (.int .u8 s3) := by rw [B1.out.cell 27, HSA.out, bytesA_at bs 27 (by omega), ← getD_drop bs 24 3, hs]; rfl
  have y4 : W0.cell? ⟨w.heap.size + 1, 28, none⟩ = some (.int .u8 s4) := by rw [B1.out.cell 28, HSA.out, bytesA_at bs 28 (by omega), ← getD_drop bs 24 4, hs]; rfl
  have y5 : W0.cell? ⟨w.heap.size + 1, 29, none⟩ = some (.int .u8 s5) := by rw [B1.out.cell 29, HSA.out, bytesA_at bs 29 (by omega), ← getD_drop bs 24 5, hs]; rfl
  have y6 : W0.cell? ⟨w.heap.size + 1, 30, none⟩ = some (.int .u8 s6) := by rw [B1.out.cell 30, HSA.out, bytesA_at bs 30 (by omega), ← getD_drop bs 24 6, hs]; rfl
  have y7 : W0.cell? ⟨w.heap.size + 1, 31, none⟩ = some (.int .u8 s7) := by rw [B1.out.cell 31, HSA.out, bytesA_at bs 31 (by omega), ← getD_drop bs 24 7, hs]; rfl
  have xc0 := EK.cell 0; have xf0 := EK.frozen 0; have xc1 := EK.cell 1; have xf1 := EK.frozen 1; have xc2 := EK.cell 2; have xf2 := EK.frozen 2; have xc3 := EK.cell 3; have xf3 := EK.frozen 3; have xc4 := EK.cell 4; have xf4 := EK.frozen 4; have xc5 := EK.cell 5; have xf5 := EK.frozen 5; have xc6 := EK.cell 6; have xf6 := EK.frozen 6; have xc7 := EK.cell 7; have xf7 := EK.frozen 7
  simp only [List.getElem?_toArray, List.getElem?_cons_zero, List.getElem?_cons_succ] at xc0 xc1 xc2 xc3 xc4 xc5 xc6 xc7
  clear EK
  clear xf0 xf1 xf2 xf3 xf4 xf5 xf6 xf7
  have HK8 : Hid (Key8 k0 k1 k2 k3 k4 k5 k6 k7) := fun i hi => by
    have := hkb i (by omega)
    rw [hks] at this
    exact this
  have htl : (bs.take 24).length = 24 := by simp [hl]
  have HBA : Hid (BytesAt W0.drew (some ⟨w.heap.size + 1, 0, none⟩) 24 (bs.take 24)) := ⟨htl, fun i hi => by
      have := hb i (by omega)
      have e : (bs.take 24).getD i 0 = bs.getD i 0 := by simp [List.getD_eq_getElem?_getD, hi]
      rw [e]; exact this, fun _ => ⟨w.heap.size + 1, 0, rfl, fun i hi => by
      rw [Nat.zero_add, B1.out.drew.cell i, HSA.out, bytesA_at _ i (by omega)]
      simp [List.getD_eq_getElem?_getD, hi]⟩⟩
  have HKS := Lib.hid hks
  have HS := Lib.hid hs
  clear hks hs h0 htl
  go_upto_region 3 with fail
  have hat : ∀ w', (Instr.arrayAt 94 (.slice (some ⟨w.heap.size + 1, 24, none⟩) 8 8)).run Tryz.prog w' = .ok (.pointer (some ⟨w.heap.size + 1, 24, none⟩)) w' := fun w' => run_arrayAt w' 94 5 8 _ 8 8 Tryz.underlying94 (Nat.le_refl _)
  obtain ⟨q, hq⟩ : ∃ q, q = decide (bs.drop 24 = sealL ks (bs.take 24)) := ⟨_, rfl⟩
  have hnq : ∀ w', (binOp .neq 94 (.agg #[.int .u8 s0, .int .u8 s1, .int .u8 s2, .int .u8 s3, .int .u8 s4, .int .u8 s5, .int .u8 s6, .int .u8 s7]) (.agg #[.int .u8 (sealAt 0 k0 (bs.take 24)), .int .u8 (sealAt 1 k1 (bs.take 24)), .int .u8 (sealAt 2 k2 (bs.take 24)), .int .u8 (sealAt 3 k3 (bs.take 24)), .int .u8 (sealAt 4 k4 (bs.take 24)), .int .u8 (sealAt 5 k5 (bs.take 24)), .int .u8 (sealAt 6 k6 (bs.take 24)), .int .u8 (sealAt 7 k7 (bs.take 24))])).run Tryz.prog w' = .ok (.bool (!q)) w' := by
    intro w'
    have h := run_neq_key w' [s0, s1, s2, s3, s4, s5, s6, s7] (sealL [k0, k1, k2, k3, k4, k5, k6, k7] (bs.take 24)) rfl (sealL_len _ _)
    have e : eqB (List.range 8) (fun i => [s0, s1, s2, s3, s4, s5, s6, s7].getD i 0) (fun i => (sealL [k0, k1, k2, k3, k4, k5, k6, k7] (bs.take 24)).getD i 0) = q := by
      rw [hq, HS.out, HKS.out]
      cases hd : eqB (List.range 8) (fun i => [s0, s1, s2, s3, s4, s5, s6, s7].getD i 0) (fun i => (sealL [k0, k1, k2, k3, k4, k5, k6, k7] (bs.take 24)).getD i 0)
      · refine (decide_eq_false fun he => ?_).symm
        rw [(eqB_iff 8 _ _ rfl (sealL_len _ _)).2 he] at hd
        cases hd
      · exact (decide_eq_true ((eqB_iff 8 _ _ rfl (sealL_len _ _)).1 hd)).symm
    rw [e] at h
    exact h
  have hs24 : Hid (sa[24 + 0]? = some (.int .u8 s0) ∧ sa[24 + 1]? = some (.int .u8 s1) ∧ sa[24 + 2]? = some (.int .u8 s2) ∧ sa[24 + 3]? = some (.int .u8 s3) ∧ sa[24 + 4]? = some (.int .u8 s4) ∧ sa[24 + 5]? = some (.int .u8 s5) ∧ sa[24 + 6]? = some (.int .u8 s6) ∧ sa[24 + 7]? = some (.int .u8 s7)) := by
    refine ⟨?_, ?_, ?_, ?_, ?_, ?_, ?_, ?_⟩ <;> rw [← B1.out.cell] <;> assumption
  have HQ := Lib.hid hq
  have EK : Hid (Blk W0 w.heap.size 94 #[.int .u8 k0, .int .u8 k1, .int .u8 k2, .int .u8 k3, .int .u8 k4, .int .u8 k5, .int .u8 k6, .int .u8 k7]) := by
    have := B0.out
    rw [HKA.out, HKS.out] at this
    exact this
  clear hq c0 xc0 y0 xc1 y1 xc2 y2 xc3 y3 xc4 y4 xc5 y5 xc6 y6 xc7 y7
  go_region_held3 (fun W => W.cell? ⟨w.heap.size, 0, none⟩ = some (.int .u8 k0) ∧ W.cell? ⟨w.heap.size, 1, none⟩ = some (.int .u8 k1) ∧ W.cell? ⟨w.heap.size, 2, none⟩ = some (.int .u8 k2) ∧ W.cell? ⟨w.heap.size, 3, none⟩ = some (.int .u8 k3) ∧ W.cell? ⟨w.heap.size, 4, none⟩ = some (.int .u8 k4) ∧ W.cell? ⟨w.heap.size, 5, none⟩ = some (.int .u8 k5) ∧ W.cell? ⟨w.heap.size, 6, none⟩ = some (.int .u8 k6) ∧ W.cell? ⟨w.heap.size, 7, none⟩ = some (.int .u8 k7) ∧ W.cell? ⟨w.heap.size + 1, 24 + 0, none⟩ = some (.int .u8 s0) ∧ W.cell? ⟨w.heap.size + 1, 24 + 1, none⟩ = some (.int .u8 s1) ∧ W.cell? ⟨w.heap.size + 1, 24 + 2, none⟩ = some (.int .u8 s2) ∧ W.cell? ⟨w.heap.size + 1, 24 + 3, none⟩ = some (.int .u8 s3) ∧ W.cell? ⟨w.heap.size + 1, 24 + 4, none⟩ = some (.int .u8 s4) ∧ W.cell? ⟨w.heap.size + 1, 24 + 5, none⟩ = some (.int .u8 s5) ∧ W.cell? ⟨w.heap.size + 1, 24 + 6, none⟩ = some (.int .u8 s6) ∧ W.cell? ⟨w.heap.size + 1, 24 + 7, none⟩ = some (.int .u8 s7))
    (first | with_reducible exact keys16 EK.out.drew B1.out.drew hs24 | with_reducible exact keys16 BK.out BS.out hs24)
    (first | (go_at_call 138; refine (seal_any k0 k1 k2 k3 k4 k5 k6 k7 (some ⟨w.heap.size + 1, 0, none⟩) 24 32 (bs.take 24) _ (by decide) HK8.out HBA.out).mono ?_; rintro e w4 ⟨rfl, hb4⟩; have BK := Lib.hid (EK.out.drew.below hb4); have BS := Lib.hid (B1.out.drew.below hb4); have BP := Lib.hid (B2.out.drew.below hb4); have G4 := Lib.hid hb4; clear hb4))
  all_goals
    have HBW : Hid (Below w.heap.size w w4) := hB.out.drew.trans (G4.out.mono hB.out.drew.size)
    clear hat hnq EK B0 B1 B2 hB HBA HK8 G4 BK hs24
    obtain ⟨W4, hW4⟩ : ∃ W4 : World, W4 = w4 := ⟨_, rfl⟩
    rw [← hW4] at BS BP HBW ⊢
    clear hW4
    have iz : Hid ((Tryz.prog.info? 101).map (·.size) = some (#[.int .i64 0, .int .i64 0, .int .i64 0, .int .i64 0, .int .u8 0, .int .u8 0, .int .u8 0, .int .u8 0, .int .u8 0, .int .u8 0, .int .u8 0, .int .u8 0, .int .u8 0, .int .u8 0, .int .u8 0, .int .u8 0, .int .u8 0, .int .u8 0, .int .u8 0, .int .u8 0, .int .u8 0, .int .u8 0] : Array Value).size) := by show _ = _; kernel_rfl
    have zo : Hid ((#[.int .i64 0, .int .i64 0, .int .i64 0, .int .i64 0, .int .u8 0, .int .u8 0, .int .u8 0, .int .u8 0, .int .u8 0, .int .u8 0, .int .u8 0, .int .u8 0, .int .u8 0, .int .u8 0, .int .u8 0, .int .u8 0, .int .u8 0, .int .u8 0, .int .u8 0, .int .u8 0, .int .u8 0, .int .u8 0] : Array Value).all (·.oneCell') = true) := by show _ = _; simp [Value.oneCell']
    cases q
    · have h1 : (!false) = true := rfl
      have hE : decodeE ks bs = 27 := by
        unfold decodeE
        rw [if_pos H0.out, if_neg (of_decide_eq_false HQ.out.symm)]
      have hA : decodeA ks bs = pkNone := by unfold decodeA; rw [hE]; rfl
      have HE := Lib.hid hE
      have HA := Lib.hid hA
      clear hE hA
      go_wp2_with (refine wpList_store_row rfl 101 _ _ rfl (w.heap.size + 1 + 1) #[.int .i64 0, .int .i64 0, .int .i64 0, .int .i64 0, .int .u8 0, .int .u8 0, .int .u8 0, .int .u8 0, .int .u8 0, .int .u8 0, .int .u8 0, .int .u8 0, .int .u8 0, .int .u8 0, .int .u8 0, .int .u8 0, .int .u8 0, .int .u8 0, .int .u8 0, .int .u8 0, .int .u8 0, .int .u8 0] rfl rfl 101 _ BP.out iz.out rfl zo.out ?_)
      generalize hWf : World.setRow _ _ _ = Wf
      have D : Blk Wf (w.heap.size + 1 + 1) 101 #[.int .i64 0, .int .i64 0, .int .i64 0, .int .i64 0, .int .u8 0, .int .u8 0, .int .u8 0, .int .u8 0, .int .u8 0, .int .u8 0, .int .u8 0, .int .u8 0, .int .u8 0, .int .u8 0, .int .u8 0, .int .u8 0, .int .u8 0, .int .u8 0, .int .u8 0, .int .u8 0, .int .u8 0, .int .u8 0] := by rw [← hWf]; exact BP.out.setRow _
      have hlv : (loadVar 101 ⟨w.heap.size + 1 + 1, 0, none⟩).run Tryz.prog Wf = .ok (.agg #[.int .i64 0, .int .i64 0, .int .i64 0, .int .i64 0, .int .u8 0, .int .u8 0, .int .u8 0, .int .u8 0, .int .u8 0, .int .u8 0, .int .u8 0, .int .u8 0, .int .u8 0, .int .u8 0, .int .u8 0, .int .u8 0, .int .u8 0, .int .u8 0, .int .u8 0, .int .u8 0, .int .u8 0, .int .u8 0]) Wf := run_loadVar_row Wf _ 101 101 _ (0, 0) _ D Tryz.underlying101 rfl iz.out
      have hBf : Below w.heap.size w Wf := by rw [← hWf]; exact HBW.out.setRow' (by omega) _
      exact bodyPost_ret (v := .tuple #[.agg #[.int .i64 0, .int .i64 0, .int .i64 0, .int .i64 0, .int .u8 0, .int .u8 0, .int .u8 0, .int .u8 0, .int .u8 0, .int .u8 0, .int .u8 0, .int .u8 0, .int .u8 0, .int .u8 0, .int .u8 0, .int .u8 0, .int .u8 0, .int .u8 0, .int .u8 0, .int .u8 0, .int .u8 0, .int .u8 0], .int .i64 27]) (by simp [results, Tryz.results68, asAddr, hlv]) rfl ⟨ret_agg2 HA.out.symm HE.out.symm, hBf⟩
    · have h1 : (!true) = false := rfl
      have hE : decodeE ks bs = (readP bs).err := by
        unfold decodeE
        rw [if_pos H0.out, if_pos (of_decide_eq_true HQ.out.symm)]
      have HE := Lib.hid hE
      clear hE
      go_upto_region 5 with fail
      obtain ⟨p0, p1, p2, p3, p4, p5, p6, p7, p8, p9, p10, p11, p12, p13, p14, p15, p16, p17, hps⟩ := eighteen ((bs.drop 6).take 18) (by simp [hl])
      obtain ⟨⟨x1, x2, x3, x4, x5⟩, hx⟩ : ∃ X : Int × Int × Int × Int × Int, X = (bs.getD 1 0, bs.getD 2 0, bs.getD 3 0, bs.getD 4 0, bs.getD 5 0) := ⟨_, rfl⟩
      simp only [Prod.mk.injEq] at hx
      obtain ⟨cs, hcs⟩ : ∃ cs : List Value, cs = [.int .u8 p0, .int .u8 p1, .int .u8 p2, .int .u8 p3, .int .u8 p4, .int .u8 p5, .int .u8 p6, .int .u8 p7, .int .u8 p8, .int .u8 p9, .int .u8 p10, .int .u8 p11, .int .u8 p12, .int .u8 p13, .int .u8 p14, .int .u8 p15, .int .u8 p16, .int .u8 p17] := ⟨_, rfl⟩
      have hs23 : Hid ((sa[1]? = some (.int .u8 x1) ∧ sa[2]? = some (.int .u8 x2) ∧ sa[3]? = some (.int .u8 x3) ∧ sa[4]? = some (.int .u8 x4) ∧ sa[5]? = some (.int .u8 x5)) ∧ ∀ i v, cs[i]? = some v → sa[6 + i]? = some v) := by
        obtain ⟨y1, y2, y3, y4, y5⟩ := hx
        subst y1 y2 y3 y4 y5
        refine ⟨?_, fun i v hv => ?_⟩
        · rw [HSA.out]
          exact ⟨bytesA_at bs 1 (by omega), bytesA_at bs 2 (by omega), bytesA_at bs 3 (by omega), bytesA_at bs 4 (by omega), bytesA_at bs 5 (by omega)⟩
        · have e : cs = ([p0, p1, p2, p3, p4, p5, p6, p7, p8, p9, p10, p11, p12, p13, p14, p15, p16, p17] : List Int).map (Value.int .u8) := hcs
          rw [e, ← hps] at hv
          have hi : i < 18 := by have := (List.getElem?_eq_some_iff.1 hv).1; simpa [hl] using this
          rw [HSA.out, bytesA_at bs (6 + i) (by omega), ← hv]
          have h6 : 6 + i < bs.length := by omega
          simp [List.getD_eq_getElem?_getD, hi, List.getElem?_eq_getElem h6]
      have HCS := Lib.hid hcs
      have hw1 := hb 1 (by omega)
      have hw2 := hb 2 (by omega)
      have hw3 := hb 3 (by omega)
      have hw4 := hb 4 (by omega)
      have hw5 := hb 5 (by omega)
      rw [← hx.1] at hw1
      rw [← hx.2.1] at hw2
      rw [← hx.2.2.1] at hw3
      rw [← hx.2.2.2.1] at hw4
      rw [← hx.2.2.2.2] at hw5
      have hrc : (readP bs).cells = #[.int .i64 x1, .int .i64 x2, .int .i64 (x3 + x4 * 256), .int .i64 x5, .int .u8 p0, .int .u8 p1, .int .u8 p2, .int .u8 p3, .int .u8 p4, .int .u8 p5, .int .u8 p6, .int .u8 p7, .int .u8 p8, .int .u8 p9, .int .u8 p10, .int .u8 p11, .int .u8 p12, .int .u8 p13, .int .u8 p14, .int .u8 p15, .int .u8 p16, .int .u8 p17] := by
        unfold readP Pk.cells pkA
        simp only
        rw [hps, ← hx.1, ← hx.2.1, ← hx.2.2.1, ← hx.2.2.2.1, ← hx.2.2.2.2]
        rfl
      have HRC := Lib.hid hrc
      refine Decode_r5 (w.heap.size + 1) x1 x2 x3 x4 x5 p0 p1 p2 p3 p4 p5 p6 p7 p8 p9 p10 p11 p12 p13 p14 p15 p16 p17 cs sa hw1 hw2 hw3 hw4 hw5 HCS W4 BS hs23 _ _ _ _ _ _ _ _ _ _ _ _ _ _ _ _ _ _ _ _ _ _ _ _ _ _ _ _ _ _ _ _ _ _ _ _ _ _ _ _ _ _ _ _ _ _ _ _ (fun _ _ d _ _ h => by cases d <;> exact h) ?_
      intro v20 v21 v22 v23 v24 v25 v26 v27 v28 v29 v30 v31 v32 v33 v34 v35 v36 v37 v38 v39 v40 W5 hbl hb5
      rw [← HRC.out] at hbl
      have HBL := Lib.hid hbl
      have BP5 : Hid (Blk W5 (w.heap.size + 1 + 1) 101 #[.int .i64 0, .int .i64 0, .int .i64 0, .int .i64 0, .int .u8 0, .int .u8 0, .int .u8 0, .int .u8 0, .int .u8 0, .int .u8 0, .int .u8 0, .int .u8 0, .int .u8 0, .int .u8 0, .int .u8 0, .int .u8 0, .int .u8 0, .int .u8 0, .int .u8 0, .int .u8 0, .int .u8 0, .int .u8 0]) := BP.out.below hb5
      have HB5 : Hid (Below w.heap.size w W5) := HBW.out.trans (hb5.mono HBW.out.size)
      obtain ⟨g, hg⟩ : ∃ g, g = W4.heap.size := ⟨_, rfl⟩
      rw [← hg] at HBL ⊢
      obtain ⟨ra, hra⟩ : ∃ ra, ra = (readP bs).cells := ⟨_, rfl⟩
      rw [← hra] at HBL
      have HRA := Lib.hid hra
      have rps : Hid ((readP bs).ps.length = 18) := by show _ = _; simp [readP, hl]
      have ip : Hid ((Tryz.prog.info? 101).map (·.size) = some ra.size) := by show _ = _; rw [HRA.out, Pk.size rps.out]; kernel_rfl
      clear hps hx hcs hw1 hw2 hw3 hw4 hw5 hrc hbl hb5 hg hra HCS hs23 HRC BS BP HBW h1
      obtain ⟨er, her⟩ : ∃ er, er = (readP bs).err := ⟨_, rfl⟩
      have HER := Lib.hid her
      clear her
      go_wp2_with (refine wpList_load_row rfl 101 _ rfl g rfl 101 ra (0, 0) _ HBL.out Tryz.underlying101 rfl ip.out ?_)
      refine (packetCheck_pk (readP bs) ra _ HRA.out rps.out).mono ?_
      rintro e w6 ⟨rfl, hb6⟩
      rw [← HER.out]
      have HBL6 : Hid (Blk w6 g 101 ra) := HBL.out.below hb6
      have BP6 : Hid (Blk w6 (w.heap.size + 1 + 1) 101 #[.int .i64 0, .int .i64 0, .int .i64 0, .int .i64 0, .int .u8 0, .int .u8 0, .int .u8 0, .int .u8 0, .int .u8 0, .int .u8 0, .int .u8 0, .int .u8 0, .int .u8 0, .int .u8 0, .int .u8 0, .int .u8 0, .int .u8 0, .int .u8 0, .int .u8 0, .int .u8 0, .int .u8 0, .int .u8 0]) := BP5.out.below hb6
      have HB6 : Hid (Below w.heap.size w w6) := HB5.out.trans (hb6.mono HB5.out.size)
      clear hb6 HBL BP5 HB5
      by_cases h : er = 0
      · have h1 : (er != 0) = false := by simp [h]
        have hE0 : Hid (decodeE ks bs = 0) := by show _ = _; rw [HE.out, ← HER.out, h]
        have hA : Hid (decodeA ks bs = ra) := by show _ = _; unfold decodeA; rw [if_pos hE0.out, HRA.out]
        have oc : Hid (ra.all (·.oneCell') = true) := by show _ = _; rw [HRA.out]; exact pkA_one _ _ _ _ _
        have os : Hid ((#[.int .i64 0, .int .i64 0, .int .i64 0, .int .i64 0, .int .u8 0, .int .u8 0, .int .u8 0, .int .u8 0, .int .u8 0, .int .u8 0, .int .u8 0, .int .u8 0, .int .u8 0, .int .u8 0, .int .u8 0, .int .u8 0, .int .u8 0, .int .u8 0, .int .u8 0, .int .u8 0, .int .u8 0, .int .u8 0] : Array Value).size = ra.size) := by show _ = _; rw [HRA.out, Pk.size rps.out]; rfl
        clear h
        go_wp2_with (first
          | (refine wpList_load_row rfl 101 _ rfl g rfl 101 ra (0, 0) _ HBL6.out Tryz.underlying101 rfl ip.out ?_)
          | (refine wpList_store_row rfl 101 _ _ rfl (w.heap.size + 1 + 1) ra rfl rfl 101 _ BP6.out ip.out os.out oc.out ?_))
        generalize hWf : World.setRow _ _ _ = Wf
        have D : Blk Wf (w.heap.size + 1 + 1) 101 ra := by rw [← hWf]; exact BP6.out.setRow _
        have hlv : (loadVar 101 ⟨w.heap.size + 1 + 1, 0, none⟩).run Tryz.prog Wf = .ok (.agg ra) Wf := run_loadVar_row Wf _ 101 101 _ (0, 0) _ D Tryz.underlying101 rfl ip.out
        have hBf : Below w.heap.size w Wf := by rw [← hWf]; exact HB6.out.setRow' (by omega) _
        exact bodyPost_ret (v := .tuple #[.agg ra, .int .i64 0]) (by simp [results, Tryz.results68, asAddr, hlv]) rfl ⟨ret_agg2 hA.out.symm hE0.out.symm, hBf⟩
      · have h1 : (er != 0) = true := by simp [h]
        have hE0 : Hid (decodeE ks bs = er) := by show _ = _; rw [HE.out, ← HER.out]
        have hA : Hid (decodeA ks bs = pkNone) := by show _ = _; unfold decodeA; rw [hE0.out, if_neg h]
        clear h
        go_wp2_with (refine wpList_store_row rfl 101 _ _ rfl (w.heap.size + 1 + 1) #[.int .i64 0, .int .i64 0, .int .i64 0, .int .i64 0, .int .u8 0, .int .u8 0, .int .u8 0, .int .u8 0, .int .u8 0, .int .u8 0, .int .u8 0, .int .u8 0, .int .u8 0, .int .u8 0, .int .u8 0, .int .u8 0, .int .u8 0, .int .u8 0, .int .u8 0, .int .u8 0, .int .u8 0, .int .u8 0] rfl rfl 101 _ BP6.out iz.out rfl zo.out ?_)
        generalize hWf : World.setRow _ _ _ = Wf
        have D : Blk Wf (w.heap.size + 1 + 1) 101 #[.int .i64 0, .int .i64 0, .int .i64 0, .int .i64 0, .int .u8 0, .int .u8 0, .int .u8 0, .int .u8 0, .int .u8 0, .int .u8 0, .int .u8 0, .int .u8 0, .int .u8 0, .int .u8 0, .int .u8 0, .int .u8 0, .int .u8 0, .int .u8 0, .int .u8 0, .int .u8 0, .int .u8 0, .int .u8 0] := by rw [← hWf]; exact BP6.out.setRow _
        have hlv : (loadVar 101 ⟨w.heap.size + 1 + 1, 0, none⟩).run Tryz.prog Wf = .ok (.agg #[.int .i64 0, .int .i64 0, .int .i64 0, .int .i64 0, .int .u8 0, .int .u8 0, .int .u8 0, .int .u8 0, .int .u8 0, .int .u8 0, .int .u8 0, .int .u8 0, .int .u8 0, .int .u8 0, .int .u8 0, .int .u8 0, .int .u8 0, .int .u8 0, .int .u8 0, .int .u8 0, .int .u8 0, .int .u8 0]) Wf := run_loadVar_row Wf _ 101 101 _ (0, 0) _ D Tryz.underlying101 rfl iz.out
        have hBf : Below w.heap.size w Wf := by rw [← hWf]; exact HB6.out.setRow' (by omega) _
        exact bodyPost_ret (v := .tuple #[.agg #[.int .i64 0, .int .i64 0, .int .i64 0, .int .i64 0, .int .u8 0, .int .u8 0, .int .u8 0, .int .u8 0, .int .u8 0, .int .u8 0, .int .u8 0, .int .u8 0, .int .u8 0, .int .u8 0, .int .u8 0, .int .u8 0, .int .u8 0, .int .u8 0, .int .u8 0, .int .u8 0, .int .u8 0, .int .u8 0], .int .i64 er]) (by simp [results, Tryz.results68, asAddr, hlv]) rfl ⟨ret_agg2 hA.out.symm hE0.out.symm, hBf⟩
end Go.Proofs.YtoipafnlcchmbaaGreatDoor
namespace Go.Proofs.YtoipafnlcchmbaaGreatDoor
open Go.RowKit

theorem rangeAt_keep {W W' : World} {b o : Nat} {cs : List Value} (h : W.rangeAt b o cs) (hb : Below W.heap.size W W') : W'.rangeAt b o cs := fun j v hv =>
  (hb.cell (p := ⟨b, o + j, none⟩) (World.block_lt_of_cell? _ _ (h j v hv))).trans (h j v hv)
def FrS (kb sb g off i n c : Nat) (ks bs : List Int) (W : World) : Prop := W.rangeAt kb 0 (ks.map (Value.int .u8)) ∧ W.cell? ⟨sb, 0, none⟩ = some (.slice (some ⟨g, off, none⟩) n c) ∧ W.rangeAt g (off + i) (bs.map (Value.int .u8))
theorem FrS.keep {kb sb g off i n c : Nat} {ks bs : List Int} {W W' : World} (h : FrS kb sb g off i n c ks bs W) (hb : Below W.heap.size W W') : FrS kb sb g off i n c ks bs W' :=
  ⟨rangeAt_keep h.1 hb, (hb.cell (p := ⟨sb, 0, none⟩) (World.block_lt_of_cell? _ _ h.2.1)).trans h.2.1, rangeAt_keep h.2.2 hb⟩
theorem bytesel : Tryz.prog.elem 106 = 5 := by kernel_rfl
theorem bytesun : Tryz.prog.underlying 106 = some (.slice (Tryz.prog.elem 106)) := by kernel_rfl
theorem bytesz (w : World) : (Go.sizeOf 5).run Tryz.prog w = .ok 1 w := by kernel_rfl
theorem slice_32 (g off n c i : Nat) (hi : i + 32 ≤ n) (hc : n ≤ c) (w : World) : (Instr.slice 106 (.slice (some ⟨g, off, none⟩) n c) (some (.int .i64 (i : Int))) (some (.int .i64 ((i : Int) + 32))) none).run Tryz.prog w = .ok (.slice (some ⟨g, off + i, none⟩) 32 (c - i)) w := by
  rw [run_slice_lh w _ _ _ _ bytesun .i64 .i64 _ _ (by omega) (by omega) (by omega), bytesel, bytesz]
  have hne : c ≠ i := by omega
  have e1 : ((i : Int) + 32).toNat = i + 32 := by omega
  rw [e1]
  simp only [Result.andThen, sliced, Int.toNat_natCast, if_neg hne, Option.map_some, Addr.add, Nat.mul_one, Nat.add_sub_cancel_left]
  by_cases h0 : i = 0
  · subst h0; simp
  · rw [if_neg (by omega)]
theorem decodeA_size (ks bs : List Int) (hl : bs.length = 32) : (decodeA ks bs).size = 22 := by
  unfold decodeA
  split
  · exact Pk.size (by simp [readP, hl])
  · rfl
theorem decodeA_one (ks bs : List Int) : (decodeA ks bs).all (·.oneCell') = true := by
  unfold decodeA
  split
  · exact pkA_one _ _ _ _ _
  · exact pkA_one _ _ _ _ _

set_option maxHeartbeats 4000000 in
set_option maxRecDepth 100000 in
theorem frame_r2 (kb sb g off i n c : Nat) (ks bs : List Int) (hk : ks.length = 8) (hkb : AllB ks) (hl : bs.length = 32) (hb : AllB bs) (hi : i + 32 ≤ n) (hc : n ≤ c) (hn : n ≤ 140737488351232) (W : World) (HS : FrS kb sb g off i n c ks bs W)
    (u0 u3 u5 u6 u7 u8 u9 u10 u11 u12 u13 u14 u15 u16 u17 u18 u19 u20 u21 u22 u23 u24 u25 u26 u27 u28 u29 u30 u31 u32 u33 u34 u35 : Value) (Q : Exit → Act → World → Prop) (hQ : ∀ c (a : Act) (d : Option Tmp) (v : Value) w, Q (.panic c) (a.put d v) w → Q (.panic c) a w)
    (hQn : ∀ (v12 v13 v14 v15 v16 v17 v18 v19 v20 v21 v22 v23 : Value) (W' : World) (nb : Nat), Blk W' nb 101 (decodeA ks bs) → W.heap.size ≤ nb → Below W.heap.size W W' → Q .normal { tmps := #[u0, .pointer (some ⟨sb, 0, none⟩), .pointer (some ⟨kb, 0, none⟩), u3, .int .i64 (i : Int), .pointer (some ⟨nb, 0, none⟩), .int .i64 (decodeE ks bs), u7, u8, u9, u10, u11, v12, v13, v14, v15, v16, v17, v18, v19, v20, v21, v22, v23, u24, u25, u26, u27, u28, u29, u30, u31, u32, u33, u34, u35], defers := [] } W') :
    (Code.region 2 #[{ dst := some 13, op := Op.load 94 (Operand.tmp 2), type := 94, pos := "packets.go:103", after := #[], guard := none }, { dst := some 14, op := Op.load 106 (Operand.tmp 1), type := 106, pos := "packets.go:103", after := #[], guard := none }, { dst := some 15, op := Op.move (Operand.tmp 4), type := 3, pos := "packets.go:103", after := #[], guard := none }, { dst := some 16, op := Op.move (Operand.tmp 4), type := 3, pos := "packets.go:103", after := #[], guard := none }, { dst := some 17, op := Op.binOp BinOp.add 3 (Operand.tmp 16) (Operand.const (Value.int IntKind.i64 32)) 3, type := 3, pos := "packets.go:103", after := #[{ on := 3, ground := Ground.data }], guard := none }, { dst := some 18, op := Op.slice 106 (Operand.tmp 14) (some (Operand.tmp 15)) (some (Operand.tmp 17)) none, type := 106, pos := "packets.go:103", after := #[{ on := 1, ground := Ground.data }, { on := 2, ground := Ground.data }, { on := 4, ground := Ground.data }], guard := none }, { dst := some 19, op := Op.sliceToArrayPointer 98 (Operand.tmp 18), type := 0, pos := "packets.go:103", after := #[{ on := 5, ground := Ground.data }], guard := none }, { dst := some 20, op := Op.load 98 (Operand.tmp 19), type := 98, pos := "packets.go:103", after := #[{ on := 6, ground := Ground.data }], guard := none }, { dst := some 21, op := Op.call { callee := Callee.value (Operand.func 68), args := #[Operand.tmp 13, Operand.tmp 20], argTypes := #[94, 98] }, type := 102, pos := "packets.go:103", after := #[{ on := 0, ground := Ground.data }, { on := 7, ground := Ground.data }], guard := none }, { dst := some 12, op := Op.move (Operand.tmp 21), type := 102, pos := "packets.go:103", after := #[{ on := 8, ground := Ground.data }], guard := none }, { dst := some 22, op := Op.extract (Operand.tmp 12) 0, type := 101, pos := "packets.go:103", after := #[{ on := 9, ground := Ground.data }], guard := none }, { dst := some 23, op := Op.extract (Operand.tmp 12) 1, type := 27, pos := "packets.go:103", after := #[{ on := 9, ground := Ground.data }, { on := 13, ground := Ground.gcOnly Departure.lateStores }], guard := none }, { dst := some 5, op := Op.alloc 101, type := 0, pos := "packets.go:103", after := #[], guard := none }, { dst := none, op := Op.store 101 (Operand.tmp 5) (Operand.tmp 22), type := 0, pos := "packets.go:103", after := #[{ on := 12, ground := Ground.data }, { on := 10, ground := Ground.data }, { on := 8, ground := Ground.chain }, { on := 0, ground := Ground.phase }, { on := 1, ground := Ground.phase }, { on := 2, ground := Ground.phase }, { on := 3, ground := Ground.phase }, { on := 4, ground := Ground.phase }, { on := 5, ground := Ground.phase }, { on := 6, ground := Ground.phase }, { on := 7, ground := Ground.phase }, { on := 8, ground := Ground.phase }, { on := 9, ground := Ground.phase }, { on := 10, ground := Ground.phase }, { on := 11, ground := Ground.textOnly Departure.lateStores }, { on := 12, ground := Ground.phase }], guard := none }, { dst := some 6, op := Op.assign (Operand.tmp 23), type := 27, pos := "packets.go:103", after := #[{ on := 11, ground := Ground.data }, { on := 13, ground := Ground.chain }, { on := 0, ground := Ground.phase }, { on := 1, ground := Ground.phase }, { on := 2, ground := Ground.phase }, { on := 3, ground := Ground.phase }, { on := 4, ground := Ground.phase }, { on := 5, ground := Ground.phase }, { on := 6, ground := Ground.phase }, { on := 7, ground := Ground.phase }, { on := 8, ground := Ground.phase }, { on := 9, ground := Ground.phase }, { on := 10, ground := Ground.phase }, { on := 11, ground := Ground.phase }, { on := 12, ground := Ground.phase }, { on := 13, ground := Ground.phase }], guard := none }] true).wp Tryz.prog Q { tmps := #[u0, .pointer (some ⟨sb, 0, none⟩), .pointer (some ⟨kb, 0, none⟩), u3, .int .i64 (i : Int), u5, u6, u7, u8, u9, u10, u11, u12, u13, u14, u15, u16, u17, u18, u19, u20, u21, u22, u23, u24, u25, u26, u27, u28, u29, u30, u31, u32, u33, u34, u35], defers := [] } W := by
  have hs1 := slice_32 g off n c i hi hc
  have hat : ∀ w', (Instr.arrayAt 98 (.slice (some ⟨g, off + i, none⟩) 32 (c - i))).run Tryz.prog w' = .ok (.pointer (some ⟨g, off + i, none⟩)) w' := fun w' => run_arrayAt w' 98 5 32 _ 32 (c - i) Tryz.underlying98 (Nat.le_refl _)
  have wx : IntKind.i64.wrap ((i : Int) + 32) = (i : Int) + 32 := IntWalk.i64_in _ (by omega)
  have hu8 := Tryz.underlying94
  have hu32 := Tryz.underlying98
  have hi8 : (Tryz.prog.info? 94).map (·.size) = some (ks.map (Value.int .u8)).length := by rw [List.length_map, hk]; kernel_rfl
  have hi32 : (Tryz.prog.info? 98).map (·.size) = some (bs.map (Value.int .u8)).length := by rw [List.length_map, hl]; kernel_rfl
  obtain ⟨da, hda⟩ : ∃ da, da = decodeA ks bs := ⟨_, rfl⟩
  obtain ⟨de, hde⟩ : ∃ de, de = decodeE ks bs := ⟨_, rfl⟩
  have hsz : Hid (da.size = 22) := by show _ = _; rw [hda]; exact decodeA_size ks bs hl
  have hon : Hid (da.all (·.oneCell') = true) := by show _ = _; rw [hda]; exact decodeA_one ks bs
  have ip : Hid ((Tryz.prog.info? 101).map (·.size) = some da.size) := by show _ = _; rw [hsz.out]; kernel_rfl
  have HD : Hid (∀ W, Calls Tryz.prog 68 #[.agg (bytesA ks), .agg (bytesA bs)] W fun e w' => e = .returned (.tuple #[.agg da, .int .i64 de]) ∧ Below W.heap.size W w') := fun W => by rw [hda, hde]; exact Decode_any ks bs W hk hkb hl hb
  rw [← hda, ← hde] at hQn
  have HQN := Lib.hid hQn
  have HSS := Lib.hid HS
  have hSd : FrS kb sb g off i n c ks bs W.drew := HS.keep (Below.refl _ W).drew
  clear hQn hda hde HS hk hkb hl hb
  refine wp_region_held_drew (S := FrS kb sb g off i n c ks bs) (by kernel_rfl) hSd (fun hHeld => ?_)
  refine wpAnyH_take (i := 0) (oi := { dst := some 13, op := Op.load 94 (Operand.tmp 2), type := 94, pos := "packets.go:103", after := #[], guard := none }) (v := .agg (bytesA ks)) rfl (by kernel_rfl) (by kernel_rfl) (by kernel_rfl) (fun c a w h => hQ c a _ _ w h) (yieldsIf_load_mid (by rfl) _ _ rfl kb 0 rfl (ks.map (Value.int .u8)) _ (fun W hW => hW.1) hu8 rfl hi8) hHeld ?_
  try simp only [Act.put, List.setIfInBounds_toArray, List.set_cons_zero, List.set_cons_succ]
  refine wpAnyH_take (i := 1) (oi := { dst := some 14, op := Op.load 106 (Operand.tmp 1), type := 106, pos := "packets.go:103", after := #[], guard := none }) (v := ?v1) rfl (by kernel_rfl) (by kernel_rfl) (by kernel_rfl) (fun c a w h => hQ c a _ _ w h) (Or.inl ⟨by rfl, ?y1⟩) hHeld ?_
  case y1 => (intro w hSw; (try dsimp only at hSw); have hSx := hSw.2.1; clear hSw; go_simp; try (with_reducible rfl))
  try simp only [Act.put, List.setIfInBounds_toArray, List.set_cons_zero, List.set_cons_succ]
  refine wpAnyH_take (i := 2) (oi := { dst := some 15, op := Op.move (Operand.tmp 4), type := 3, pos := "packets.go:103", after := #[], guard := none }) (v := ?v2) rfl (by kernel_rfl) (by kernel_rfl) (by kernel_rfl) (fun c a w h => hQ c a _ _ w h) (Or.inl ⟨by rfl, ?y2⟩) hHeld ?_
  case y2 => (intro w hSw; (try dsimp only at hSw); have hSx := hSw.2.1; clear hSw; go_simp; try (with_reducible rfl))
  try simp only [Act.put, List.setIfInBounds_toArray, List.set_cons_zero, List.set_cons_succ]
  refine wpAnyH_take (i := 3) (oi := { dst := some 16, op := Op.move (Operand.tmp 4), type := 3, pos := "packets.go:103", after := #[], guard := none }) (v := ?v3) rfl (by kernel_rfl) (by kernel_rfl) (by kernel_rfl) (fun c a w h => hQ c a _ _ w h) (Or.inl ⟨by rfl, ?y3⟩) hHeld ?_
  case y3 => (intro w hSw; (try dsimp only at hSw); have hSx := hSw.2.1; clear hSw; go_simp; try (with_reducible rfl))
  try simp only [Act.put, List.setIfInBounds_toArray, List.set_cons_zero, List.set_cons_succ]
  refine wpAnyH_take (i := 4) (oi := { dst := some 17, op := Op.binOp BinOp.add 3 (Operand.tmp 16) (Operand.const (Value.int IntKind.i64 32)) 3, type := 3, pos := "packets.go:103", after := #[{ on := 3, ground := Ground.data }], guard := none }) (v := ?v4) rfl (by kernel_rfl) (by kernel_rfl) (by kernel_rfl) (fun c a w h => hQ c a _ _ w h) (Or.inl ⟨by rfl, ?y4⟩) hHeld ?_
  case y4 => (intro w hSw; (try dsimp only at hSw); have hSx := hSw.2.1; clear hSw; go_simp; try (with_reducible rfl))
  try simp only [Act.put, List.setIfInBounds_toArray, List.set_cons_zero, List.set_cons_succ]
  refine wpAnyH_take (i := 5) (oi := { dst := some 18, op := Op.slice 106 (Operand.tmp 14) (some (Operand.tmp 15)) (some (Operand.tmp 17)) none, type := 106, pos := "packets.go:103", after := #[{ on := 1, ground := Ground.data }, { on := 2, ground := Ground.data }, { on := 4, ground := Ground.data }], guard := none }) (v := ?v5) rfl (by kernel_rfl) (by kernel_rfl) (by kernel_rfl) (fun c a w h => hQ c a _ _ w h) (Or.inl ⟨by rfl, ?y5⟩) hHeld ?_
  case y5 => (intro w hSw; (try dsimp only at hSw); have hSx := hSw.2.1; clear hSw; go_simp; try (with_reducible rfl))
  try simp only [Act.put, List.setIfInBounds_toArray, List.set_cons_zero, List.set_cons_succ]
  refine wpAnyH_take (i := 6) (oi := { dst := some 19, op := Op.sliceToArrayPointer 98 (Operand.tmp 18), type := 0, pos := "packets.go:103", after := #[{ on := 5, ground := Ground.data }], guard := none }) (v := ?v6) rfl (by kernel_rfl) (by kernel_rfl) (by kernel_rfl) (fun c a w h => hQ c a _ _ w h) (Or.inl ⟨by rfl, ?y6⟩) hHeld ?_
  case y6 => (intro w hSw; (try dsimp only at hSw); have hSx := hSw.2.1; clear hSw; go_simp; try (with_reducible rfl))
  try simp only [Act.put, List.setIfInBounds_toArray, List.set_cons_zero, List.set_cons_succ]
  refine wpAnyH_take (i := 7) (oi := { dst := some 20, op := Op.load 98 (Operand.tmp 19), type := 98, pos := "packets.go:103", after := #[{ on := 6, ground := Ground.data }], guard := none }) (v := .agg (bytesA bs)) rfl (by kernel_rfl) (by kernel_rfl) (by kernel_rfl) (fun c a w h => hQ c a _ _ w h) (yieldsIf_load_mid (by rfl) _ _ rfl g (off + i) rfl (bs.map (Value.int .u8)) _ (fun W hW => hW.2.2) hu32 rfl hi32) hHeld ?_
  try simp only [Act.put, List.setIfInBounds_toArray, List.set_cons_zero, List.set_cons_succ]
  clear hs1 hat hu8 hu32 hi8 hi32 wx
  refine wpAnyH_ready (rs := [8, 12]) (by kernel_rfl) (by simp) ?_
  refine AllReadyH.cons (o := { dst := some 21, op := Op.call { callee := Callee.value (Operand.func 68), args := #[Operand.tmp 13, Operand.tmp 20], argTypes := #[94, 98] }, type := 102, pos := "packets.go:103", after := #[{ on := 0, ground := Ground.data }, { on := 7, ground := Ground.data }], guard := none }) rfl (fun K hK => ?sA) (AllReadyH.cons (o := { dst := some 5, op := Op.alloc 101, type := 0, pos := "packets.go:103", after := #[], guard := none }) rfl (fun K hK => ?sB) AllReadyH.nil)
  case sA =>
    go_simp
    refine (HD.out _).mono ?_
    rintro e w4 ⟨rfl, hb4⟩
    try dsimp only
    refine hK.out _ _ (hHeld.keep hb4) (fun hHeld2 => ?_)
    have HB4 : Hid (Below W.heap.size W w4) := (Below.refl _ W).drew.trans hb4
    clear hK K hb4
    try simp only [Act.put, List.setIfInBounds_toArray, List.set_cons_zero, List.set_cons_succ]
    refine wpAnyH_take (i := 9) (oi := { dst := some 12, op := Op.move (Operand.tmp 21), type := 102, pos := "packets.go:103", after := #[{ on := 8, ground := Ground.data }], guard := none }) (v := ?v9a) rfl (by kernel_rfl) (by kernel_rfl) (by kernel_rfl) (fun c a w h => hQ c a _ _ w h) (Or.inl ⟨by rfl, ?y9a⟩) hHeld2 ?_
    case y9a => (intro w hSw; (try dsimp only at hSw); have hSx := hSw.2.1; clear hSw; go_simp; try (with_reducible rfl))
    try simp only [Act.put, List.setIfInBounds_toArray, List.set_cons_zero, List.set_cons_succ]
    refine wpAnyH_take (i := 10) (oi := { dst := some 22, op := Op.extract (Operand.tmp 12) 0, type := 101, pos := "packets.go:103", after := #[{ on := 9, ground := Ground.data }], guard := none }) (v := ?v10a) rfl (by kernel_rfl) (by kernel_rfl) (by kernel_rfl) (fun c a w h => hQ c a _ _ w h) (Or.inl ⟨by rfl, ?y10a⟩) hHeld2 ?_
    case y10a => (intro w hSw; (try dsimp only at hSw); have hSx := hSw.2.1; clear hSw; go_simp; try (with_reducible rfl))
    try simp only [Act.put, List.setIfInBounds_toArray, List.set_cons_zero, List.set_cons_succ]
    refine wpAnyH_take (i := 11) (oi := { dst := some 23, op := Op.extract (Operand.tmp 12) 1, type := 27, pos := "packets.go:103", after := #[{ on := 9, ground := Ground.data }, { on := 13, ground := Ground.gcOnly Departure.lateStores }], guard := none }) (v := ?v11a) rfl (by kernel_rfl) (by kernel_rfl) (by kernel_rfl) (fun c a w h => hQ c a _ _ w h) (Or.inl ⟨by rfl, ?y11a⟩) hHeld2 ?_
    case y11a => (intro w hSw; (try dsimp only at hSw); have hSx := hSw.2.1; clear hSw; go_simp; try (with_reducible rfl))
    try simp only [Act.put, List.setIfInBounds_toArray, List.set_cons_zero, List.set_cons_succ]
    refine wpAnyH_ready (rs := [12]) (by kernel_rfl) (by simp) ?_
    refine AllReadyH.cons (o := { dst := some 5, op := Op.alloc 101, type := 0, pos := "packets.go:103", after := #[], guard := none }) rfl (fun K hK => ?_) AllReadyH.nil
    go_simp
    refine hK.out _ _ (hHeld2.keep ((Below.refl _ w4).alloc (Nat.le_refl _) _)) (fun hHeld3 => ?_)
    clear hK K
    try simp only [Act.put, List.setIfInBounds_toArray, List.set_cons_zero, List.set_cons_succ]
    refine wpAnyH_ready (rs := [13]) (by kernel_rfl) (by simp) ?_
    refine AllReadyH.cons (o := { dst := none, op := Op.store 101 (Operand.tmp 5) (Operand.tmp 22), type := 0, pos := "packets.go:103", after := #[{ on := 12, ground := Ground.data }, { on := 10, ground := Ground.data }, { on := 8, ground := Ground.chain }, { on := 0, ground := Ground.phase }, { on := 1, ground := Ground.phase }, { on := 2, ground := Ground.phase }, { on := 3, ground := Ground.phase }, { on := 4, ground := Ground.phase }, { on := 5, ground := Ground.phase }, { on := 6, ground := Ground.phase }, { on := 7, ground := Ground.phase }, { on := 8, ground := Ground.phase }, { on := 9, ground := Ground.phase }, { on := 10, ground := Ground.phase }, { on := 11, ground := Ground.textOnly Departure.lateStores }, { on := 12, ground := Ground.phase }], guard := none }) rfl (fun K hK => ?_) AllReadyH.nil
    rw [if_pos (by rfl)]
    refine wp_store_row 101 _ _ rfl w4.heap.size da rfl rfl 101 #[.int .i64 0, .int .i64 0, .int .i64 0, .int .i64 0, .int .u8 0, .int .u8 0, .int .u8 0, .int .u8 0, .int .u8 0, .int .u8 0, .int .u8 0, .int .u8 0, .int .u8 0, .int .u8 0, .int .u8 0, .int .u8 0, .int .u8 0, .int .u8 0, .int .u8 0, .int .u8 0, .int .u8 0, .int .u8 0] (Blk.new w4 _ _) ip.out (by rw [hsz.out]; rfl) hon.out ?_
    have hbw := ((Below.refl w4.heap.size w4).alloc (Nat.le_refl _) (.cells #[.int .i64 0, .int .i64 0, .int .i64 0, .int .i64 0, .int .u8 0, .int .u8 0, .int .u8 0, .int .u8 0, .int .u8 0, .int .u8 0, .int .u8 0, .int .u8 0, .int .u8 0, .int .u8 0, .int .u8 0, .int .u8 0, .int .u8 0, .int .u8 0, .int .u8 0, .int .u8 0, .int .u8 0, .int .u8 0] 101)).setRow' (Nat.le_refl _) da
    refine hK.out _ _ (hHeld2.keep hbw) (fun hHeld4 => ?_)
    try simp only [Act.put]
    refine wpAnyH_take (i := 14) (oi := { dst := some 6, op := Op.assign (Operand.tmp 23), type := 27, pos := "packets.go:103", after := #[{ on := 11, ground := Ground.data }, { on := 13, ground := Ground.chain }, { on := 0, ground := Ground.phase }, { on := 1, ground := Ground.phase }, { on := 2, ground := Ground.phase }, { on := 3, ground := Ground.phase }, { on := 4, ground := Ground.phase }, { on := 5, ground := Ground.phase }, { on := 6, ground := Ground.phase }, { on := 7, ground := Ground.phase }, { on := 8, ground := Ground.phase }, { on := 9, ground := Ground.phase }, { on := 10, ground := Ground.phase }, { on := 11, ground := Ground.phase }, { on := 12, ground := Ground.phase }, { on := 13, ground := Ground.phase }], guard := none }) (v := ?v14a) rfl (by kernel_rfl) (by kernel_rfl) (by kernel_rfl) (fun c a w h => hQ c a _ _ w h) (Or.inl ⟨by rfl, ?y14a⟩) hHeld4 ?_
    case y14a => (intro w hSw; (try dsimp only at hSw); have hSx := hSw.2.1; clear hSw; go_simp; try (with_reducible rfl))
    try simp only [Act.put, List.setIfInBounds_toArray, List.set_cons_zero, List.set_cons_succ]
    refine wpAnyH_done (by kernel_rfl) ?_ _
    refine HQN.out _ _ _ _ _ _ _ _ _ _ _ _ _ w4.heap.size ?_ HB4.out.size (HB4.out.trans (hbw.mono HB4.out.size))
    exact (Blk.new w4 _ _).setRow _
  case sB =>
    go_simp
    refine hK.out _ _ (hHeld.keep ((Below.refl _ W.drew).alloc (Nat.le_refl _) _)) (fun hHeld2 => ?_)
    clear hK K
    try simp only [Act.put, List.setIfInBounds_toArray, List.set_cons_zero, List.set_cons_succ]
    refine wpAnyH_ready (rs := [8]) (by kernel_rfl) (by simp) ?_
    refine AllReadyH.cons (o := { dst := some 21, op := Op.call { callee := Callee.value (Operand.func 68), args := #[Operand.tmp 13, Operand.tmp 20], argTypes := #[94, 98] }, type := 102, pos := "packets.go:103", after := #[{ on := 0, ground := Ground.data }, { on := 7, ground := Ground.data }], guard := none }) rfl (fun K hK => ?_) AllReadyH.nil
    go_simp
    refine (HD.out _).mono ?_
    rintro e w4 ⟨rfl, hb4⟩
    try dsimp only
    refine hK.out _ _ (hHeld2.keep hb4) (fun hHeld3 => ?_)
    have BN : Hid (Blk w4 W.heap.size 101 #[.int .i64 0, .int .i64 0, .int .i64 0, .int .i64 0, .int .u8 0, .int .u8 0, .int .u8 0, .int .u8 0, .int .u8 0, .int .u8 0, .int .u8 0, .int .u8 0, .int .u8 0, .int .u8 0, .int .u8 0, .int .u8 0, .int .u8 0, .int .u8 0, .int .u8 0, .int .u8 0, .int .u8 0, .int .u8 0]) := (Blk.new W.drew _ _).below hb4
    have HB4 : Hid (Below W.heap.size W w4) := ((Below.refl _ W).drew.alloc (Nat.le_refl _) _).trans (hb4.mono (by simp))
    clear hK K hb4
    try simp only [Act.put, List.setIfInBounds_toArray, List.set_cons_zero, List.set_cons_succ]
    refine wpAnyH_take (i := 9) (oi := { dst := some 12, op := Op.move (Operand.tmp 21), type := 102, pos := "packets.go:103", after := #[{ on := 8, ground := Ground.data }], guard := none }) (v := ?v9b) rfl (by kernel_rfl) (by kernel_rfl) (by kernel_rfl) (fun c a w h => hQ c a _ _ w h) (Or.inl ⟨by rfl, ?y9b⟩) hHeld3 ?_
    case y9b => (intro w hSw; (try dsimp only at hSw); have hSx := hSw.2.1; clear hSw; go_simp; try (with_reducible rfl))
    try simp only [Act.put, List.setIfInBounds_toArray, List.set_cons_zero, List.set_cons_succ]
    refine wpAnyH_take (i := 10) (oi := { dst := some 22, op := Op.extract (Operand.tmp 12) 0, type := 101, pos := "packets.go:103", after := #[{ on := 9, ground := Ground.data }], guard := none }) (v := ?v10b) rfl (by kernel_rfl) (by kernel_rfl) (by kernel_rfl) (fun c a w h => hQ c a _ _ w h) (Or.inl ⟨by rfl, ?y10b⟩) hHeld3 ?_
    case y10b => (intro w hSw; (try dsimp only at hSw); have hSx := hSw.2.1; clear hSw; go_simp; try (with_reducible rfl))
    try simp only [Act.put, List.setIfInBounds_toArray, List.set_cons_zero, List.set_cons_succ]
    refine wpAnyH_take (i := 11) (oi := { dst := some 23, op := Op.extract (Operand.tmp 12) 1, type := 27, pos := "packets.go:103", after := #[{ on := 9, ground := Ground.data }, { on := 13, ground := Ground.gcOnly Departure.lateStores }], guard := none }) (v := ?v11b) rfl (by kernel_rfl) (by kernel_rfl) (by kernel_rfl) (fun c a w h => hQ c a _ _ w h) (Or.inl ⟨by rfl, ?y11b⟩) hHeld3 ?_
    case y11b => (intro w hSw; (try dsimp only at hSw); have hSx := hSw.2.1; clear hSw; go_simp; try (with_reducible rfl))
    try simp only [Act.put, List.setIfInBounds_toArray, List.set_cons_zero, List.set_cons_succ]
    refine wpAnyH_ready (rs := [13]) (by kernel_rfl) (by simp) ?_
    refine AllReadyH.cons (o := { dst := none, op := Op.store 101 (Operand.tmp 5) (Operand.tmp 22), type := 0, pos := "packets.go:103", after := #[{ on := 12, ground := Ground.data }, { on := 10, ground := Ground.data }, { on := 8, ground := Ground.chain }, { on := 0, ground := Ground.phase }, { on := 1, ground := Ground.phase }, { on := 2, ground := Ground.phase }, { on := 3, ground := Ground.phase }, { on := 4, ground := Ground.phase }, { on := 5, ground := Ground.phase }, { on := 6, ground := Ground.phase }, { on := 7, ground := Ground.phase }, { on := 8, ground := Ground.phase }, { on := 9, ground := Ground.phase }, { on := 10, ground := Ground.phase }, { on := 11, ground := Ground.textOnly Departure.lateStores }, { on := 12, ground := Ground.phase }], guard := none }) rfl (fun K hK => ?_) AllReadyH.nil
    rw [if_pos (by rfl)]
    refine wp_store_row 101 _ _ rfl W.heap.size da rfl rfl 101 #[.int .i64 0, .int .i64 0, .int .i64 0, .int .i64 0, .int .u8 0, .int .u8 0, .int .u8 0, .int .u8 0, .int .u8 0, .int .u8 0, .int .u8 0, .int .u8 0, .int .u8 0, .int .u8 0, .int .u8 0, .int .u8 0, .int .u8 0, .int .u8 0, .int .u8 0, .int .u8 0, .int .u8 0, .int .u8 0] BN.out ip.out (by rw [hsz.out]; rfl) hon.out ?_
    have hbw := HB4.out.setRow' (Nat.le_refl _) da
    refine hK.out _ _ (HSS.out.keep hbw) (fun hHeld4 => ?_)
    try simp only [Act.put]
    refine wpAnyH_take (i := 14) (oi := { dst := some 6, op := Op.assign (Operand.tmp 23), type := 27, pos := "packets.go:103", after := #[{ on := 11, ground := Ground.data }, { on := 13, ground := Ground.chain }, { on := 0, ground := Ground.phase }, { on := 1, ground := Ground.phase }, { on := 2, ground := Ground.phase }, { on := 3, ground := Ground.phase }, { on := 4, ground := Ground.phase }, { on := 5, ground := Ground.phase }, { on := 6, ground := Ground.phase }, { on := 7, ground := Ground.phase }, { on := 8, ground := Ground.phase }, { on := 9, ground := Ground.phase }, { on := 10, ground := Ground.phase }, { on := 11, ground := Ground.phase }, { on := 12, ground := Ground.phase }, { on := 13, ground := Ground.phase }], guard := none }) (v := ?v14b) rfl (by kernel_rfl) (by kernel_rfl) (by kernel_rfl) (fun c a w h => hQ c a _ _ w h) (Or.inl ⟨by rfl, ?y14b⟩) hHeld4 ?_
    case y14b => (intro w hSw; (try dsimp only at hSw); have hSx := hSw.2.1; clear hSw; go_simp; try (with_reducible rfl))
    try simp only [Act.put, List.setIfInBounds_toArray, List.set_cons_zero, List.set_cons_succ]
    refine wpAnyH_done (by kernel_rfl) ?_ _
    refine HQN.out _ _ _ _ _ _ _ _ _ _ _ _ _ W.heap.size ?_ (Nat.le_refl _) hbw
    exact BN.out.setRow _
end Go.Proofs.YtoipafnlcchmbaaGreatDoor
