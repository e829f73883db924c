/- The check of a packed stream. Four bytes as a number. The numbers of the parts of four bytes. -/
import Derived.Test.YtoipafnlcchmbaaGreatDoorQK
import Derived.Test.YtoipafnlcchmbaaGreatDoorQH
import Derived.Laws.BytesArg
namespace Go.Proofs.YtoipafnlcchmbaaGreatDoor
open Go.RowKit

theorem packL_len (fs : List Nat) : (packL fs).length = 14 + fs.length * 4 := by
  unfold packL
  rw [List.length_append, packHead_len fs _ (Nat.le_refl _), sealL_len]; omega
theorem packL_front (fs : List Nat) (i : Nat) (h : i < 6) : (packL fs).getD i 0 = ([83, 78, 68, 49, (fs.length : Int) / 256, (fs.length : Int) % 256] : List Int).getD i 0 := by
  unfold packL packHead
  rw [List.getD_eq_getElem?_getD, List.getD_eq_getElem?_getD, List.getElem?_append_left (by simp; omega), List.getElem?_append_left (by simpa using h)]
theorem packL_tail (fs : List Nat) (i : Nat) : (packL fs).getD (6 + fs.length * 4 + i) 0 = (sealL [0, 0, 0, 0, 0, 0, 0, 0] (packHead fs fs.length)).getD i 0 := by
  unfold packL
  have h := packHead_len fs fs.length (Nat.le_refl _)
  rw [List.getD_eq_getElem?_getD, List.getElem?_append_right (by rw [h]; omega), h, show 6 + fs.length * 4 + i - (6 + fs.length * 4) = i by omega, List.getD_eq_getElem?_getD]
theorem packL_part (fs : List Nat) (i : Nat) (h : i < 6 + fs.length * 4) : (packL fs).getD i 0 = (packHead fs fs.length).getD i 0 := by
  unfold packL
  rw [List.getD_eq_getElem?_getD, List.getElem?_append_left (by rw [packHead_len fs _ (Nat.le_refl _)]; exact h), List.getD_eq_getElem?_getD]
theorem key0 : Key8 0 0 0 0 0 0 0 0 := by
  intro i hi
  match i, hi with
  | 0, _ => exact ⟨by decide, by decide⟩
  | 1, _ => exact ⟨by decide, by decide⟩
  | 2, _ => exact ⟨by decide, by decide⟩
  | 3, _ => exact ⟨by decide, by decide⟩
  | 4, _ => exact ⟨by decide, by decide⟩
  | 5, _ => exact ⟨by decide, by decide⟩
  | 6, _ => exact ⟨by decide, by decide⟩
  | 7, _ => exact ⟨by decide, by decide⟩

theorem tail8 {W : World} {g T : Nat} {f : Nat → Int} (h : ∀ i, i < 8 → W.cell? ⟨g, T + i, none⟩ = some (.int .u8 (f i))) : W.cell? ⟨g, T, none⟩ = some (.int .u8 (f 0)) ∧ W.cell? ⟨g, T + 1, none⟩ = some (.int .u8 (f 1)) ∧ W.cell? ⟨g, T + 2, none⟩ = some (.int .u8 (f 2)) ∧ W.cell? ⟨g, T + 3, none⟩ = some (.int .u8 (f 3)) ∧ W.cell? ⟨g, T + 4, none⟩ = some (.int .u8 (f 4)) ∧ W.cell? ⟨g, T + 5, none⟩ = some (.int .u8 (f 5)) ∧ W.cell? ⟨g, T + 6, none⟩ = some (.int .u8 (f 6)) ∧ W.cell? ⟨g, T + 7, none⟩ = some (.int .u8 (f 7)) :=
  ⟨h 0 (by omega), h 1 (by omega), h 2 (by omega), h 3 (by omega), h 4 (by omega), h 5 (by omega), h 6 (by omega), h 7 (by omega)⟩

theorem bytes_elem : Tryz.prog.elem 106 = 5 := by kernel_rfl
theorem bytes_under : Tryz.prog.underlying 106 = some (.slice (Tryz.prog.elem 106)) := by kernel_rfl
theorem byte_size (w : World) : (Go.sizeOf 5).run Tryz.prog w = .ok 1 w := by kernel_rfl
theorem slice_from (g N c T : Nat) (h : T ≤ N) (hlt : T < c) (w : World) : (Instr.slice 106 (.slice (some ⟨g, 0, none⟩) N c) (some (.int .i64 (T : Int))) none none).run Tryz.prog w = .ok (.slice (some ⟨g, T, none⟩) (N - T) (c - T)) w := by
  rw [run_slice_l w _ _ _ _ bytes_under .i64 _ (by omega) (by omega), bytes_elem, byte_size]
  have hne : c ≠ T := by omega
  simp [Result.andThen, sliced, Addr.add, hne]
  omega
theorem slice_to (g N c T : Nat) (h : T ≤ c) (hlt : 0 < c) (w : World) : (Instr.slice 106 (.slice (some ⟨g, 0, none⟩) N c) none (some (.int .i64 (T : Int))) none).run Tryz.prog w = .ok (.slice (some ⟨g, 0, none⟩) T c) w := by
  rw [run_slice_h w _ _ _ _ bytes_under .i64 _ (by omega) (by omega), bytes_elem, byte_size]
  have hne : c ≠ 0 := by omega
  simp [Result.andThen, sliced, Addr.add, hne]

set_option maxHeartbeats 4000000 in
set_option maxRecDepth 100000 in
theorem checkStream_pack (g c M T N : Nat) (fs : List Nat) (w : World) (hm : fs.length = M) (hM : M ≤ 4096) (hT : T = 6 + M * 4) (hN : N = T + 8) (hc : N ≤ c) (hb : ∀ b ∈ fs, b < 4294967296) (hz : BytesAt w (some ⟨g, 0, none⟩) N (packL fs)) :
    Calls Tryz.prog 148 #[.slice (some ⟨g, 0, none⟩) N c] w fun e w' => e = .returned (.int .i64 0) ∧ Below w.heap.size w w' := by
  have HZ := Lib.hid hz
  have hT2 : T ≤ N := by omega
  have hd1 : decide ((400000 : Int) < (N : Int)) = false := by simp; omega
  have hd2 : decide ((N : Int) < 14) = false := by simp; omega
  have hN6 : 6 ≤ N := by omega
  have HN := Lib.hid hN
  have HT := Lib.hid hT
  have HC : Hid (∀ i, i < N → w.cell? ⟨g, i, none⟩ = some (.int .u8 ((packL fs).getD i 0))) := by
    obtain ⟨b, off, he, hcc⟩ := hz.2.2 (by omega)
    simp only [Option.some.injEq, Addr.mk.injEq, and_true] at he
    obtain ⟨rfl, rfl⟩ := he
    intro i hi
    have := hcc i hi
    rwa [Nat.zero_add] at this
  obtain ⟨H, hH⟩ : ∃ H, H = packHead fs M := ⟨_, rfl⟩
  have HL : Hid (H.length = T) := by show _ = _; rw [hH, packHead_len fs M (by omega), hT]
  have HTL : Hid (∀ i, i < 8 → w.cell? ⟨g, T + i, none⟩ = some (.int .u8 (sealAt i 0 H))) := by
    intro i hi
    rw [HC.out (T + i) (by omega), hT, ← hm, packL_tail fs i, hH, ← hm]
    congr 2
    have hi' : i < (sealL [0, 0, 0, 0, 0, 0, 0, 0] (packHead fs fs.length)).length := by rw [sealL_len]; exact hi
    simp only [sealL, List.getD_eq_getElem?_getD, List.getElem?_map, List.getElem?_range hi, Option.map_some, Option.getD_some]
    match i, hi with
    | 0, _ => rfl
    | 1, _ => rfl
    | 2, _ => rfl
    | 3, _ => rfl
    | 4, _ => rfl
    | 5, _ => rfl
    | 6, _ => rfl
    | 7, _ => rfl
  have HALL : AllB H := by rw [hH, ← hm]; exact packHead_all fs hb (by omega)
  have HBA : Hid (BytesAt w.drew.drew (some ⟨g, 0, none⟩) T H) := by
    refine ⟨HL.out, fun i hi => HALL i (by rw [HL.out]; exact hi), fun _ => ⟨g, 0, rfl, fun i hi => ?_⟩⟩
    have := HC.out i (by omega)
    rw [packL_part fs i (by omega), hm, ← hH] at this
    rw [Nat.zero_add]
    exact this
  clear hz HALL
  have HBB := Lib.hid hb
  have HM := Lib.hid hm
  clear hb
  have c4 : w.cell? ⟨g, 4, none⟩ = some (.int .u8 ((M : Int) / 256)) := by rw [HC.out 4 (by omega), packL_front fs 4 (by omega), hm]; rfl
  have c5 : w.cell? ⟨g, 5, none⟩ = some (.int .u8 ((M : Int) % 256)) := by rw [HC.out 5 (by omega), packL_front fs 5 (by omega), hm]; rfl
  have k1 : ∀ cap, (convert 106 9 (.slice (some ⟨g, 0, none⟩) 4 cap)).run Tryz.prog w = .ok (.string (strOfNums [83, 78, 68, 49])) w := fun cap =>
    run_convert_bytes_arg w 106 5 Tryz.underlying106 Tryz.underlying5 g 0 4 cap [83, 78, 68, 49] rfl (fun i hi => by
      rw [Nat.zero_add, HC.out i (by omega), packL_front fs i (by omega), hm]
      match i, hi with
      | 0, _ => rfl
      | 1, _ => rfl
      | 2, _ => rfl
      | 3, _ => rfl) 9 Tryz.underlying9
  have es : strOfNums [83, 78, 68, 49] = ⟨#[83, 78, 68, 49]⟩ := rfl
  rw [es] at k1
  clear es hm hT hH hN
  go_enter Tryz.func148, Tryz.ntmps148
  go_upto_region 7 with fail
  go_region
  have hd3 : ((N : Int) != 6 + 4 * ((M : Int) / 256 * 256 + (M : Int) % 256) + 8) = false := by have := HT.out; have := HN.out; simp; omega
  have hT3 : T ≤ 400000 := by have := HT.out; omega
  have hN8 : (N : Int) - 8 = (T : Int) := by have := HN.out; omega
  have hN7 : N - T = 8 := by have := HN.out; omega
  go_upto_region 11 with fail
  have hat : ∀ w' cap, (Instr.arrayAt 94 (.slice (some ⟨g, T, none⟩) 8 cap)).run Tryz.prog w' = .ok (.pointer (some ⟨g, T, none⟩)) w' := fun w' cap => run_arrayAt w' 94 5 8 _ 8 cap Tryz.underlying94 (Nat.le_refl _)
  have hnq : ∀ w', (binOp .neq 94 (.agg #[.int .u8 (sealAt 0 0 H), .int .u8 (sealAt 1 0 H), .int .u8 (sealAt 2 0 H), .int .u8 (sealAt 3 0 H), .int .u8 (sealAt 4 0 H), .int .u8 (sealAt 5 0 H), .int .u8 (sealAt 6 0 H), .int .u8 (sealAt 7 0 H)]) (.agg #[.int .u8 (sealAt 0 0 H), .int .u8 (sealAt 1 0 H), .int .u8 (sealAt 2 0 H), .int .u8 (sealAt 3 0 H), .int .u8 (sealAt 4 0 H), .int .u8 (sealAt 5 0 H), .int .u8 (sealAt 6 0 H), .int .u8 (sealAt 7 0 H)])).run Tryz.prog w' = .ok (.bool false) w' := by
    intro w'
    have h := run_neq_key w' [sealAt 0 0 H, sealAt 1 0 H, sealAt 2 0 H, sealAt 3 0 H, sealAt 4 0 H, sealAt 5 0 H, sealAt 6 0 H, sealAt 7 0 H] [sealAt 0 0 H, sealAt 1 0 H, sealAt 2 0 H, sealAt 3 0 H, sealAt 4 0 H, sealAt 5 0 H, sealAt 6 0 H, sealAt 7 0 H] rfl rfl
    rw [(eqB_iff 8 _ _ rfl rfl).2 rfl] at h
    exact h
  clear c4 c5 k1
  have hs1 := slice_from g N c T (by omega) (by omega)
  rw [hN7] at hs1
  have hs2 := slice_to g N c T (by omega) (by omega)
  have HT1 : Hid (∀ i, i < 8 → w.drew.drew.cell? ⟨g, T + i, none⟩ = some (.int .u8 (sealAt i 0 H))) := HTL.out
  go_region_held3 (fun W => W.cell? ⟨g, T, none⟩ = some (.int .u8 (sealAt 0 0 H)) ∧ W.cell? ⟨g, T + 1, none⟩ = some (.int .u8 (sealAt 1 0 H)) ∧ W.cell? ⟨g, T + 2, none⟩ = some (.int .u8 (sealAt 2 0 H)) ∧ W.cell? ⟨g, T + 3, none⟩ = some (.int .u8 (sealAt 3 0 H)) ∧ W.cell? ⟨g, T + 4, none⟩ = some (.int .u8 (sealAt 4 0 H)) ∧ W.cell? ⟨g, T + 5, none⟩ = some (.int .u8 (sealAt 5 0 H)) ∧ W.cell? ⟨g, T + 6, none⟩ = some (.int .u8 (sealAt 6 0 H)) ∧ W.cell? ⟨g, T + 7, none⟩ = some (.int .u8 (sealAt 7 0 H)))
    (first | with_reducible exact tail8 HT1.out | with_reducible exact tail8 BT.out)
    (first | (go_at_call 138; refine (seal_any 0 0 0 0 0 0 0 0 (some ⟨g, 0, none⟩) T c H _ (by omega) key0 HBA.out).mono ?_; rintro e w4 ⟨rfl, hb4⟩; have BT : Hid (∀ i, i < 8 → w4.cell? ⟨g, T + i, none⟩ = some (.int .u8 (sealAt i 0 H))) := (fun i hi => (hb4.cell (p := ⟨g, T + i, none⟩) (World.block_lt_of_cell? _ _ (HT1.out i hi))).trans (HT1.out i hi)); have G4 := Lib.hid hb4; clear hb4))
  all_goals
    have HW : Hid (Below w.heap.size w w4) := (Below.refl w.heap.size w).drew.drew.trans G4.out
    clear G4 BT hnq hat hs1 hs2
    go_wp2
    go_ret
    exact ⟨rfl, HW.out⟩
end Go.Proofs.YtoipafnlcchmbaaGreatDoor
namespace Go.Proofs.YtoipafnlcchmbaaGreatDoor
open Go.RowKit

def topOf (x : Int) : Nat → Int
  | 0 => 0
  | 1 => x / 16777216
  | 2 => x / 65536
  | 3 => x / 256
  | _ => x

set_option maxHeartbeats 1000000 in
set_option maxRecDepth 100000 in
theorem numberOf_of (g off c x : Nat) (w : World) (hx : x < 4294967296) (hc : ∀ j, j < 4 → w.cell? ⟨g, off + j, none⟩ = some (.int .u8 ((b4 (x : Int)).getD j 0))) :
    Calls Tryz.prog 152 #[.slice (some ⟨g, off, none⟩) 4 c] w fun e w' => e = .returned (.float .f32 x) ∧ w' = w := by
  have HC := Lib.hid hc
  clear hc
  have HX := Lib.hid hx
  clear hx
  go_enter Tryz.func152, Tryz.ntmps152
  go_wp2
  go_loop [3, 4, 5] (fun v _ i => ∃ k : Nat, k ≤ 4 ∧ i = .int .i64 k ∧ v = .int .u32 (topOf (x : Int) k)) (fun _ _ i => 4 - (intOf i).toNat)
  case atStart => exact ⟨0, Nat.zero_le _, rfl, rfl⟩
  case round =>
    obtain ⟨k, hk, rfl, rfl⟩ := hrel
    by_cases hlt : k < 4
    · have h0 := HC.out k hlt
      obtain ⟨y, hy⟩ : ∃ y, y = (b4 (x : Int)).getD k 0 := ⟨_, rfl⟩
      obtain ⟨t, ht⟩ : ∃ t, t = topOf (x : Int) k := ⟨_, rfl⟩
      have e : t * 256 + y = topOf (x : Int) (k + 1) ∧ 0 ≤ y ∧ y ≤ 255 ∧ 0 ≤ t ∧ t < 16777216 := by
        have := HX.out
        rw [hy, ht]
        match k, hlt with
        | 0, _ => show (0 : Int) * 256 + (x : Int) / 16777216 = (x : Int) / 16777216 ∧ _; simp [b4, topOf]; omega
        | 1, _ => show (x : Int) / 16777216 * 256 + (x : Int) / 65536 % 256 = (x : Int) / 65536 ∧ 0 ≤ (x : Int) / 65536 % 256 ∧ (x : Int) / 65536 % 256 ≤ 255 ∧ 0 ≤ (x : Int) / 16777216 ∧ (x : Int) / 16777216 < 16777216; omega
        | 2, _ => show (x : Int) / 65536 * 256 + (x : Int) / 256 % 256 = (x : Int) / 256 ∧ 0 ≤ (x : Int) / 256 % 256 ∧ (x : Int) / 256 % 256 ≤ 255 ∧ 0 ≤ (x : Int) / 65536 ∧ (x : Int) / 65536 < 16777216; omega
        | 3, _ => show (x : Int) / 256 * 256 + (x : Int) % 256 = (x : Int) ∧ 0 ≤ (x : Int) % 256 ∧ (x : Int) % 256 ≤ 255 ∧ 0 ≤ (x : Int) / 256 ∧ (x : Int) / 256 < 16777216; omega
      obtain ⟨e, y0, y1, t0, t1⟩ := e
      rw [← hy] at h0
      rw [← ht]
      have E := Lib.hid e
      clear hy ht e
      go_wp2
      go_round
      case rel => exact ⟨k + 1, by omega, by go_num, by rw [← E.out]⟩
      case measure => simp [intOf]; omega
    · obtain rfl : k = 4 := by omega
      have e : topOf (x : Int) 4 = (x : Int) := rfl
      rw [e]
      go_wp2
      go_ret
      exact ⟨by simp, rfl⟩
end Go.Proofs.YtoipafnlcchmbaaGreatDoor
namespace Go.Proofs.YtoipafnlcchmbaaGreatDoor
open Go.RowKit

/-- A slice of floats that the call made. -/
def OwnF (w : World) (base : Nat) (v : Value) (fs : List Nat) : Prop := w.ownsRow base 37 1 v fs.length (fs.map (Value.float .f32))
theorem infoF : (Tryz.prog.info? 37).map (fun i => (i.zero, i.size, i.bytes)) = some (some (.float .f32 0), 1, 4) := by kernel_rfl
def chV (g off i : Nat) : Value := .slice (some ⟨g, off + i * 4, none⟩) 4 4
/-- A slice whose elements are the parts of four bytes each of the block g, from off on. -/
def ChAt (w : World) (A : Option Addr) (n g off : Nat) : Prop := 0 < n → ∃ b o, A = some ⟨b, o, none⟩ ∧ ∀ i, i < n → w.cell? ⟨b, o + i, none⟩ = some (chV g off i)
theorem ChAt.keep {w w' : World} {A : Option Addr} {n g off : Nat} (h : ChAt w A n g off) (hb : Below w.heap.size w w') : ChAt w' A n g off := by
  intro hn
  obtain ⟨b, o, rfl, hc⟩ := h hn
  exact ⟨b, o, rfl, fun i hi => (hb.cell (p := ⟨b, o + i, none⟩) (World.block_lt_of_cell? _ _ (hc i hi))).trans (hc i hi)⟩
theorem cells_one_new (w : World) (t : TypeId) (a : Value) : ∀ j u, [a][j]? = some u → (w.alloc (.cells #[a] t)).cell? ((⟨w.heap.size, 0, none⟩ : Addr).add j) = some u := by
  intro j u hu
  have hadd : (⟨w.heap.size, 0, none⟩ : Addr).add j = ⟨w.heap.size, j, none⟩ := by unfold Addr.add; split <;> simp_all
  rw [hadd, (Blk.new w t #[a]).cell j]
  simpa using hu
theorem enters_numberOf (args : Array Value) (W : World) : (callFunc 152 args).run Tryz.prog W = .ok (.enter 152 args) W := by kernel_rfl
theorem take_snocN (fs : List Nat) (k : Nat) (h : k < fs.length) : fs.take (k + 1) = fs.take k ++ [fs.getD k 0] := by
  rw [List.take_add_one, List.getD_eq_getElem?_getD, List.getElem?_eq_getElem h]; rfl

set_option maxHeartbeats 2000000 in
set_option maxRecDepth 100000 in
theorem mapped_numbers (A : Option Addr) (n c g off : Nat) (fs : List Nat) (w : World) (hn : n ≤ 4096) (hl : fs.length = n) (hx : ∀ i, i < n → fs.getD i 0 < 4294967296) (hz : ChAt w A n g off)
    (hm : ∀ i, i < n → ∀ j, j < 4 → w.cell? ⟨g, off + i * 4 + j, none⟩ = some (.int .u8 ((b4 (fs.getD i 0 : Nat)).getD j 0))) :
    Calls Tryz.prog 150 #[.slice A n c, .func (.func 152) #[] #[]] w fun e w' => ∃ v, e = .returned v ∧ OwnF w' w.heap.size v fs ∧ Below w.heap.size w w' := by
  obtain ⟨i0, hi, hz0, hz1, hz2⟩ := info_parts infoF
  have HZ := Lib.hid hz
  have HV := Lib.hid hx
  have HM := Lib.hid hm
  have HL := Lib.hid hl
  clear hz hx hm hl
  go_enter Tryz.func150, Tryz.ntmps150
  go_wp2_with (at_make; refine wpList_make_own _ rfl _ _ 38 rfl w.heap.size 37 i0 (.float .f32 0) 1 Tryz.underlying38 hi hz0 hz1 _ _ _ n rfl rfl rfl (by rw [hz2]; omega) (by unfold maxLen; omega) (by simp) ?_; intro w1 hown hg1)
  have hO : OwnF w1 w.heap.size (.slice (some ⟨w.heap.size, 0, none⟩) 0 n) (fs.take 0) := hown
  have hB1 : Below w.heap.size w w1 := Below.grown (Below.refl _ _) hg1 (Nat.le_refl _) (fun k hk => by cases hk)
  clear hown hg1
  go_loopw [5, 7, 13] (fun v _ i wr => ∃ k : Nat, k ≤ n ∧ i = .int .i64 k ∧ OwnF wr w.heap.size v (fs.take k) ∧ Below w.heap.size w wr) (fun _ _ i _ => n - (intOf i).toNat)
  case atStart => exact ⟨0, Nat.zero_le _, rfl, hO, hB1⟩
  case round =>
    clear hO hB1
    obtain ⟨k, hk, rfl, hown, hb⟩ := hrel
    have HB := Lib.hid hb
    have HO := Lib.hid hown
    by_cases hlt : k < n
    · obtain ⟨b, o, rfl, hcc⟩ := (HZ.out.keep hb) (by omega)
      have HT := Lib.hid (take_snocN fs k (by rw [HL.out]; exact hlt))
      have hvk := HV.out k hlt
      have hmk : ∀ j, j < 4 → wr.cell? ⟨g, off + k * 4 + j, none⟩ = some (.int .u8 ((b4 (fs.getD k 0 : Nat)).getD j 0)) := fun j hj => (hb.cell (p := ⟨g, off + k * 4 + j, none⟩) (World.block_lt_of_cell? _ _ (HM.out k hlt j hj))).trans (HM.out k hlt j hj)
      obtain ⟨x, hx⟩ : ∃ x, x = fs.getD k 0 := ⟨_, rfl⟩
      have h0 := hcc k hlt
      unfold chV at h0
      rw [← hx] at hvk hmk HT
      have HVK := Lib.hid hvk
      have HMK := Lib.hid hmk
      have hO3 : wr.ownsRow w.heap.size 37 1 u5 k ((fs.take k).map (Value.float .f32)) := by
        have := hown
        unfold OwnF at this
        rwa [List.length_take, HL.out, Nat.min_eq_left hk] at this
      have sz3 := hb.size
      clear hcc hx hb hown hvk hmk
      go_wp2_with fail
      refine (numberOf_of g (off + k * 4) 4 x _ HVK.out HMK.out).mono ?_
      rintro e w2 ⟨rfl, rfl⟩
      go_wp2_with (at_builtin; refine wpList_append_own _ rfl _ _ 38 rfl w.heap.size 37 i0 (.float .f32 0) 1 4 Tryz.underlying38 hi hz0 hz1 hz2 rfl (by decide) _ _ _ rfl (World.ownsRow.alloc hO3 _) ⟨w2.heap.size, 0, none⟩ 1 1 [.float .f32 x] rfl rfl (cells_one_new _ _ _) (by simp [Value.oneCell']) (by unfold maxLen; omega) (by omega) (by simp; omega) ?_; intro v' w3 hown' hgrow _)
      have R : OwnF w3 w.heap.size v' (fs.take (k + 1)) := by
        unfold OwnF
        rw [HT.out, List.length_append, List.length_take, HL.out, Nat.min_eq_left (by omega), List.map_append]
        exact hown'
      have B3 : Below w.heap.size w w3 := Below.grown (HB.out.alloc HB.out.size _) hgrow (by simp; omega) (fun j hj => (hO3.lt j hj).1)
      clear hown' hgrow hO3
      go_wp2
      go_roundw
      case rel => exact ⟨k + 1, by omega, by go_num, R, B3⟩
      case measure => simp [intOf]; omega
    · clear hb hown
      go_wp2
      go_ret
      refine ⟨_, rfl, ?_, HB.out⟩
      have := HO.out
      rwa [List.take_of_length_le (by rw [HL.out]; omega)] at this
end Go.Proofs.YtoipafnlcchmbaaGreatDoor
