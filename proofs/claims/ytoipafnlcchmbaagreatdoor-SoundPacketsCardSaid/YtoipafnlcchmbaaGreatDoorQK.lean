/- Equality of spans, of samples. The bytes of samples. The stream of samples. The stream of samples: Pack. -/
import Derived.Test.YtoipafnlcchmbaaGreatDoorQJ
import Derived.Test.YtoipafnlcchmbaaGreatDoorQD
import Derived.BigQuiet
import Derived.Test.YtoipafnlcchmbaaGreatDoorQF
import Derived.Test.YtoipafnlcchmbaaGreatDoorQH
import Derived.Lib.SlBytesConst
import Derived.ArgAppend
namespace Go.Proofs.YtoipafnlcchmbaaGreatDoor
open Go.RowKit

theorem neq_span (a b c d : Int) (w : World) : (binOp .neq 184 (.agg #[.int .i64 a, .int .i64 b]) (.agg #[.int .i64 c, .int .i64 d])).run Tryz.prog w = .ok (.bool (!(a == c && b == d))) w := by
  rw [run_neq_struct]
  obtain ⟨i, hi⟩ : ∃ i, Tryz.prog.info? 3 = some i := Option.isSome_iff_exists.1 (by kernel_rfl)
  cases h1 : (a == c) <;> cases h2 : (b == d) <;> simp_all [go_sem]
theorem pair_ext {xs ys : List (Int × Int)} (hl : xs.length = ys.length) (h : ∀ i, i < xs.length → xs.getD i (0, 0) = ys.getD i (0, 0)) : xs = ys := by
  apply List.ext_getElem hl
  intro i h1 h2
  have := h i h1
  simpa [List.getD_eq_getElem?_getD, List.getElem?_eq_getElem h1, List.getElem?_eq_getElem h2] using this

set_option maxHeartbeats 1000000 in
theorem sameSpans_any (A B : Option Addr) (n m c d : Nat) (xs ys : List (Int × Int)) (w : World) (hn : n ≤ 140737488351232) (hm : m ≤ 140737488351232) (hA : HeardAt w A n xs) (hB : HeardAt w B m ys) :
    Calls Tryz.prog 85 #[.slice A n c, .slice B m d] w fun e w' => e = .returned (.bool (decide (xs = ys))) ∧ ∃ q, w' = w.drewN q := by
  obtain ⟨ha, hca⟩ := hA
  obtain ⟨hb, hcb⟩ := hB
  have HA := Lib.hid ha
  have HB := Lib.hid hb
  have HCA := Lib.hid hca
  have HCB := Lib.hid hcb
  clear ha hb hca hcb
  by_cases hnm : n = m
  · subst hnm
    go_enter Tryz.func85, Tryz.ntmps85
    go_wp2
    go_loopw [5] (fun i wr => ∃ k : Nat, k ≤ n ∧ i = .int .i64 k ∧ Hid (∀ i, i < k → xs.getD i (0, 0) = ys.getD i (0, 0)) ∧ ∃ q, wr = w.drewN q) (fun i _ => n - (intOf i).toNat)
    case atStart => exact ⟨0, Nat.zero_le _, rfl, fun i hi => by omega, 0, rfl⟩
    case round =>
      obtain ⟨k, hk, rfl, hz, q, rfl⟩ := hrel
      by_cases hlt : k < n
      · obtain ⟨b, off, rfl, hcc⟩ := HCA.out (by omega)
        obtain ⟨b2, off2, rfl, hcc2⟩ := HCB.out (by omega)
        obtain ⟨⟨x, x2⟩, hx⟩ : ∃ x, x = xs.getD k (0, 0) := ⟨_, rfl⟩
        obtain ⟨⟨y, y2⟩, hy⟩ : ∃ y, y = ys.getD k (0, 0) := ⟨_, rfl⟩
        have h0 := (hcc k hlt).1
        have h1 := (hcc k hlt).2
        have h0' := (hcc2 k hlt).1
        have h1' := (hcc2 k hlt).2
        rw [← hx] at h0 h1
        rw [← hy] at h0' h1'
        have HX := Lib.hid hx
        have HY := Lib.hid hy
        clear hx hy hcc hcc2
        have hlt' : (k : Int) < (n : Int) := by omega
        have hq := neq_span x x2 y y2
        by_cases he : (x, x2) = (y, y2)
        · have hz1 : (!(x == y && x2 == y2)) = false := by simp at he; simp [he]
          rw [hz1] at hq
          have HE := Lib.hid he
          clear he hz1
          go_wp2
          go_quiet (fail)
          go_wp2
          go_roundw
          case rel =>
            refine ⟨k + 1, by omega, by go_num, fun i hi => ?_, _, rfl⟩
            by_cases hik : i < k
            · exact hz.out i hik
            · obtain rfl : i = k := by omega
              rw [← HX.out, ← HY.out]; exact HE.out
          case measure => simp [intOf]; omega
        · have hz1 : (!(x == y && x2 == y2)) = true := by
            simp only [Prod.mk.injEq, not_and] at he
            by_cases hxy : x = y
            · simp [hxy, he hxy]
            · simp [hxy]
          rw [hz1] at hq
          have HE := Lib.hid he
          clear he hz1
          go_wp2
          go_quiet (fail)
          go_wp2
          go_ret
          exact ⟨ret_bool (decide_eq_false (fun h => HE.out (by rw [HX.out, HY.out, h]))).symm, _, World.drewN_drewN _ _ _⟩
      · go_wp2
        go_ret
        exact ⟨ret_bool (decide_eq_true (pair_ext (HA.out.trans HB.out.symm) (fun i hi => hz.out i (by rw [HA.out] at hi; omega)))).symm, q, rfl⟩
  · have hne : ((n : Int) != (m : Int)) = true := by simp; omega
    go_enter Tryz.func85, Tryz.ntmps85
    go_wp2
    go_ret
    exact ⟨ret_bool (decide_eq_false (fun h => hnm (by rw [← HA.out, ← HB.out, h]))).symm, 0, rfl⟩

set_option maxHeartbeats 1000000 in
theorem sameSamples_eq (A B : Option Addr) (n c d : Nat) (xs : List Nat) (w : World) (hn : n ≤ 140737488351232) (hA : FlAt w A n xs) (hB : FlAt w B n xs) (hself : ∀ i, i < n → (FloatKind.f32.format.order (xs.getD i 0) (xs.getD i 0) != some .eq) = false) :
    Calls Tryz.prog 91 #[.slice A n c, .slice B n d] w fun e w' => e = .returned (.bool true) ∧ ∃ q, w' = w.drewN q := by
  have HCA := Lib.hid hA.2
  have HCB := Lib.hid hB.2
  have HS := Lib.hid hself
  clear hA hB hself
  go_enter Tryz.func91, Tryz.ntmps91
  go_wp2
  go_loopw [5] (fun i wr => ∃ k : Nat, k ≤ n ∧ i = .int .i64 k ∧ ∃ q, wr = w.drewN q) (fun i _ => n - (intOf i).toNat)
  case atStart => exact ⟨0, Nat.zero_le _, rfl, 0, rfl⟩
  case round =>
    obtain ⟨k, hk, rfl, q, rfl⟩ := hrel
    by_cases hlt : k < n
    · obtain ⟨b, off, rfl, hcc⟩ := HCA.out (by omega)
      obtain ⟨b2, off2, rfl, hcc2⟩ := HCB.out (by omega)
      have hs := HS.out k hlt
      obtain ⟨x, hx⟩ : ∃ x, x = xs.getD k 0 := ⟨_, rfl⟩
      have h0 := hcc k hlt
      have h0' := hcc2 k hlt
      rw [← hx] at h0 h0' hs
      clear hx hcc hcc2
      have hlt' : (k : Int) < (n : Int) := by omega
      go_wp2
      go_quiet (fail)
      go_wp2
      go_roundw
      case rel => exact ⟨k + 1, by omega, by go_num, _, rfl⟩
      case measure => simp [intOf]; omega
    · go_wp2
      go_ret
      exact ⟨rfl, q, rfl⟩

theorem notMinusZero_of (b : Nat) (w : World) (h : ((b : Int) == 2147483648) = false) :
    Calls Tryz.prog 153 #[.float .f32 b] w fun e w' => e = .returned (.int .i64 0) ∧ w = w' := by
  go_enter Tryz.func153, Tryz.ntmps153
  go_wp2
  go_ret
  exact ⟨rfl, rfl⟩

end Go.Proofs.YtoipafnlcchmbaaGreatDoor
namespace Go.Proofs.YtoipafnlcchmbaaGreatDoor
open Go.RowKit

def b4 (x : Int) : List Int := [x / 16777216, x / 65536 % 256, x / 256 % 256, x % 256]
theorem b4_len (x : Int) : (b4 x).length = 4 := rfl

set_option maxHeartbeats 1000000 in
set_option maxRecDepth 100000 in
theorem bytesOf_of (b : Nat) (w : World) (hb : b < 4294967296) (hm : ((b : Int) == 2147483648) = false) :
    Calls Tryz.prog 147 #[.float .f32 b] w fun e w' => e = .returned (.agg #[.int .u8 ((b : Int) / 16777216), .int .u8 ((b : Int) / 65536 % 256), .int .u8 ((b : Int) / 256 % 256), .int .u8 ((b : Int) % 256)]) ∧ Below w.heap.size w w' := by
  obtain ⟨x, hx⟩ : ∃ x : Int, x = (b : Int) := ⟨_, rfl⟩
  rw [← hx] at hm ⊢
  have h0 : 0 ≤ x := by omega
  have h1 : x < 4294967296 := by omega
  have hcb : ∀ w', (callFunc 176 #[.float .f32 b]).run Tryz.prog w' = .ok (.value (.int .u32 x)) w' := fun w' => by rw [hx]; exact call_f32bits b w'
  clear hx hb
  go_enter Tryz.func147, Tryz.ntmps147
  go_wp2
  exact bodyPost_ret (v := .agg #[.int .u8 (x / 16777216), .int .u8 (x / 65536 % 256), .int .u8 (x / 256 % 256), .int .u8 (x % 256)]) (by simp [results, Tryz.results147, go_sem]) rfl ⟨rfl, (Below.refl _ _).alloc (Nat.le_refl _) _⟩

theorem cells_four_new (w : World) (t : TypeId) (a b c d : Value) : ∀ j u, [a, b, c, d][j]? = some u → (w.alloc (.cells #[a, b, c, d] t)).cell? ((⟨w.heap.size, 0, none⟩ : Addr).add j) = some u := by
  intro j u hu
  have hadd : (⟨w.heap.size, 0, none⟩ : Addr).add j = ⟨w.heap.size, j, none⟩ := by unfold Addr.add; split <;> simp_all
  rw [hadd, (Blk.new w t #[a, b, c, d]).cell j]
  simpa using hu
theorem enters_bytesOf (args : Array Value) (W : World) : (callFunc 147 args).run Tryz.prog W = .ok (.enter 147 args) W := by kernel_rfl
theorem info4 : (Tryz.prog.info? 230).map (fun i => (i.zero, i.size, i.bytes)) = some (some (.agg #[.int .u8 0, .int .u8 0, .int .u8 0, .int .u8 0]), 4, 4) := by kernel_rfl
def flat4 (fs : List Nat) : List Int := fs.flatMap fun b : Nat => b4 (b : Int)
theorem flat4_len (fs : List Nat) : (flat4 fs).length = fs.length * 4 := by
  induction fs with
  | nil => rfl
  | cons b l ih => simp only [flat4, List.flatMap_cons, List.length_append, List.length_cons] at ih ⊢; rw [ih, b4_len]; omega
theorem flat4_snoc (fs : List Nat) (k : Nat) (h : k < fs.length) : flat4 (fs.take (k + 1)) = flat4 (fs.take k) ++ b4 (fs.getD k 0 : Nat) := by
  unfold flat4
  rw [List.take_succ_eq_append_getElem h, List.flatMap_append]
  simp [List.getD_eq_getElem?_getD, List.getElem?_eq_getElem h]
/-- A slice of rows of four bytes that the call made. -/
def Own4 (w : World) (base : Nat) (v : Value) (fs : List Nat) : Prop := w.ownsRow base 230 4 v fs.length ((flat4 fs).map (Value.int .u8))

set_option maxHeartbeats 2000000 in
set_option maxRecDepth 100000 in
theorem mapped_bytes (A : Option Addr) (n c : Nat) (fs : List Nat) (w : World) (hn : n ≤ 4096) (hz : FlAt w A n fs) (hv : ∀ i, i < n → fs.getD i 0 < 4294967296 ∧ ((fs.getD i 0 : Int) == 2147483648) = false) :
    Calls Tryz.prog 146 #[.slice A n c, .func (.func 147) #[] #[]] w fun e w' => ∃ v, e = .returned v ∧ Own4 w' w.heap.size v fs ∧ Below w.heap.size w w' := by
  obtain ⟨i0, hi, hz0, hz1, hz2⟩ := info_parts info4
  have HZ := Lib.hid hz
  have HV := Lib.hid hv
  clear hz hv
  go_enter Tryz.func146, Tryz.ntmps146
  go_wp2_with (at_make; refine wpList_make_own _ rfl _ _ 228 rfl w.heap.size 230 i0 (.agg #[.int .u8 0, .int .u8 0, .int .u8 0, .int .u8 0]) 4 Tryz.underlying228 hi hz0 hz1 _ _ _ n rfl rfl rfl (by rw [hz2]; omega) (by unfold maxLen; omega) (by simp) ?_; intro w1 hown hg1)
  have hO : Own4 w1 w.heap.size (.slice (some ⟨w.heap.size, 0, none⟩) 0 n) (fs.take 0) := hown
  have hB1 : Below w.heap.size w w1 := Below.grown (Below.refl _ _) hg1 (Nat.le_refl _) (fun k hk => by cases hk)
  clear hown hg1
  go_loopw [5, 7, 13] (fun v _ i wr => ∃ k : Nat, k ≤ n ∧ i = .int .i64 k ∧ Own4 wr w.heap.size v (fs.take k) ∧ Below w.heap.size w wr) (fun _ _ i _ => n - (intOf i).toNat)
  case atStart => exact ⟨0, Nat.zero_le _, rfl, hO, hB1⟩
  case round =>
    clear hO hB1
    obtain ⟨k, hk, rfl, hown, hb⟩ := hrel
    have HB := Lib.hid hb
    have HO := Lib.hid hown
    by_cases hlt : k < n
    · obtain ⟨b, off, rfl, hcc⟩ := (HZ.out.keep hb).2 (by omega)
      have HT := Lib.hid (flat4_snoc fs k (by rw [HZ.out.1]; exact hlt))
      have hvk := HV.out k hlt
      obtain ⟨x, hx⟩ : ∃ x, x = fs.getD k 0 := ⟨_, rfl⟩
      have h0 := hcc k hlt
      rw [← hx] at h0 hvk HT
      have HVK := Lib.hid hvk
      clear hcc hx hb hown hvk
      go_wp2_with fail
      refine (bytesOf_of x _ HVK.out.1 HVK.out.2).mono ?_
      rintro e w2 ⟨rfl, hb2⟩
      have hO3 : w2.ownsRow w.heap.size 230 4 u5 k ((flat4 (fs.take k)).map (Value.int .u8)) := by
        have := World.ownsRow.kept HO.out (row := none) ⟨hb2.os, hb2.tape, hb2.output, hb2.size, fun k hk _ => hb2.block k hk⟩ (Classical.em _)
        rwa [List.length_take, HZ.out.1, Nat.min_eq_left hk] at this
      have sz2 := hb2.size
      have sz3 := HB.out.size
      have HB2 : Hid (Below w.heap.size w w2) := HB.out.trans (hb2.mono HB.out.size)
      clear hb2
      obtain ⟨y0, hy0⟩ : ∃ y0 : Int, y0 = (x : Int) / 16777216 := ⟨_, rfl⟩
      obtain ⟨y1, hy1⟩ : ∃ y1 : Int, y1 = (x : Int) / 65536 % 256 := ⟨_, rfl⟩
      obtain ⟨y2, hy2⟩ : ∃ y2 : Int, y2 = (x : Int) / 256 % 256 := ⟨_, rfl⟩
      obtain ⟨y3, hy3⟩ : ∃ y3 : Int, y3 = (x : Int) % 256 := ⟨_, rfl⟩
      have HB4 : Hid (b4 (x : Int) = [y0, y1, y2, y3]) := by show _ = _; rw [hy0, hy1, hy2, hy3]; rfl
      rw [← hy0, ← hy1, ← hy2, ← hy3]
      clear hy0 hy1 hy2 hy3
      go_wp2_with (at_builtin; refine wpList_append_own _ rfl _ _ 228 rfl w.heap.size 230 i0 (.agg #[.int .u8 0, .int .u8 0, .int .u8 0, .int .u8 0]) 4 4 Tryz.underlying228 hi hz0 hz1 hz2 rfl (by decide) _ _ _ rfl (World.ownsRow.alloc hO3 _) ⟨w2.heap.size, 0, none⟩ 1 1 [.int .u8 y0, .int .u8 y1, .int .u8 y2, .int .u8 y3] rfl rfl (cells_four_new _ _ _ _ _ _) (by simp [Value.oneCell']) (by unfold maxLen; omega) (by omega) (by simp; omega) ?_; intro v' w3 hown' hgrow _)
      have R : Own4 w3 w.heap.size v' (fs.take (k + 1)) := by
        unfold Own4
        rw [HT.out, HB4.out, List.length_take, HZ.out.1, Nat.min_eq_left (by omega), List.map_append]
        exact hown'
      have B3 : Below w.heap.size w w3 := Below.grown (HB2.out.alloc HB2.out.size _) hgrow (by simp; omega) (fun j hj => (hO3.lt j hj).1)
      clear hown' hgrow hO3
      go_wp2
      go_roundw
      case rel => exact ⟨k + 1, by omega, by go_num, R, B3⟩
      case measure => simp [intOf]; omega
    · clear hb hown
      go_wp2
      go_ret
      refine ⟨_, rfl, ?_, HB.out⟩
      have := HO.out
      rwa [List.take_of_length_le (by rw [HZ.out.1]; omega)] at this
end Go.Proofs.YtoipafnlcchmbaaGreatDoor
namespace Go.Proofs.YtoipafnlcchmbaaGreatDoor
open Go.RowKit

theorem infoB : (Tryz.prog.info? 5).map (fun i => (i.zero, i.size, i.bytes)) = some (some (.int .u8 0), 1, 1) := by kernel_rfl
/-- A slice of bytes that the call made. -/
def OwnB (w : World) (base : Nat) (v : Value) (bs : List Int) : Prop := w.ownsRow base 5 1 v bs.length (bs.map (Value.int .u8))
theorem OwnB.alloc {w : World} {base : Nat} {v : Value} {zs : List Int} (h : OwnB w base v zs) (o : Obj) : OwnB (w.alloc o) base v zs := World.ownsRow.alloc h o
theorem OwnB.below {w w' : World} {base : Nat} {v : Value} {zs : List Int} (h : OwnB w base v zs) (hb : Below w.heap.size w w') : OwnB w' base v zs :=
  World.ownsRow.kept h (row := none) ⟨hb.os, hb.tape, hb.output, hb.size, fun k hk _ => hb.block k hk⟩ (Classical.em _)
theorem OwnB.form {w : World} {base : Nat} {v : Value} {zs : List Int} (h : OwnB w base v zs) :
    (v = .slice none 0 0 ∧ zs = []) ∨ ∃ g cap, v = .slice (some ⟨g, 0, none⟩) zs.length cap ∧ base ≤ g ∧ g < w.heap.size ∧ zs.length ≤ cap ∧
      (∀ i, i < zs.length → w.cell? ⟨g, i, none⟩ = some (.int .u8 (zs.getD i 0))) ∧ (∀ i, w.frozen? ⟨g, i, none⟩ = false) := by
  have h0 := h
  rcases h.2 with ⟨hv, hn⟩ | ⟨g, cap, cur, hv, hb, hg, hnc, hm, hs, ht⟩
  · exact .inl ⟨hv, List.eq_nil_of_length_eq_zero hn⟩
  · subst hv
    refine .inr ⟨g, cap, rfl, hb, lt_of_block hg, hnc, fun i hi => ?_, fun i => World.ownsRow.frozenAt h0 i⟩
    rw [World.ownsRow.cellAt h0 i (by omega)]
    simp [List.getElem?_eq_getElem hi]
theorem OwnB.at_ {w : World} {base : Nat} {A : Option Addr} {n c : Nat} {zs : List Int} (h : OwnB w base (.slice A n c) zs) (hb : AllB zs) : BytesAt w A n zs := by
  rcases h.form with ⟨hv, rfl⟩ | ⟨g, cap, hv, _, _, _, hc, _⟩
  · simp only [Value.slice.injEq] at hv
    obtain ⟨rfl, rfl, rfl⟩ := hv
    exact ⟨rfl, fun i hi => by omega, fun h => by omega⟩
  · simp only [Value.slice.injEq] at hv
    obtain ⟨rfl, rfl, rfl⟩ := hv
    exact ⟨rfl, fun i hi => hb i hi, fun _ => ⟨g, 0, rfl, fun i hi => by rw [Nat.zero_add]; exact hc i hi⟩⟩

theorem flat4_at (fs : List Nat) (i j : Nat) (hi : i < fs.length) (hj : j < 4) : (flat4 fs)[i * 4 + j]? = some ((b4 (fs.getD i 0 : Nat)).getD j 0) := by
  induction fs generalizing i with
  | nil => simp at hi
  | cons b l ih =>
    have e : flat4 (b :: l) = b4 (b : Int) ++ flat4 l := by simp [flat4]
    rw [e]
    cases i with
    | zero =>
      rw [Nat.zero_mul, Nat.zero_add, List.getElem?_append_left (by rw [b4_len]; exact hj)]
      simp [List.getD_eq_getElem?_getD, List.getElem?_eq_getElem (show j < (b4 (b : Int)).length by rw [b4_len]; exact hj)]
    | succ i =>
      rw [List.getElem?_append_right (by rw [b4_len]; omega), b4_len, show (i + 1) * 4 + j - 4 = i * 4 + j by omega, ih i (by simpa using hi)]
      simp
theorem Own4.form {w : World} {base : Nat} {v : Value} {fs : List Nat} (h : Own4 w base v fs) :
    ∃ A cap, v = .slice A fs.length cap ∧ (0 < fs.length → ∃ g, A = some ⟨g, 0, none⟩ ∧ g < w.heap.size ∧ ∀ i, i < fs.length → ∀ j, j < 4 → w.cell? ⟨g, i * 4 + j, none⟩ = some (.int .u8 ((b4 (fs.getD i 0 : Nat)).getD j 0))) := by
  have h0 := h
  rcases h.2 with ⟨hv, hn⟩ | ⟨g, cap, cur, hv, hb, hg, hnc, hm, hs, ht⟩
  · exact ⟨none, 0, by rw [hn]; exact hv, fun h => by omega⟩
  · subst hv
    refine ⟨_, _, rfl, fun _ => ⟨g, rfl, lt_of_block hg, fun i hi j hj => ?_⟩⟩
    rw [World.ownsRow.cellAt h0 (i * 4 + j) (by omega), List.getElem?_map, flat4_at fs i j hi hj]
    rfl

def packHead (fs : List Nat) (k : Nat) : List Int := [83, 78, 68, 49, (fs.length : Int) / 256, (fs.length : Int) % 256] ++ flat4 (fs.take k)
def packL (fs : List Nat) : List Int := packHead fs fs.length ++ sealL [0, 0, 0, 0, 0, 0, 0, 0] (packHead fs fs.length)
theorem packHead_len (fs : List Nat) (k : Nat) (h : k ≤ fs.length) : (packHead fs k).length = 6 + k * 4 := by
  unfold packHead
  rw [List.length_append, flat4_len, List.length_take, Nat.min_eq_left h]; simp
theorem b4_all (x : Int) (h0 : 0 ≤ x) (h1 : x < 4294967296) : AllB (b4 x) := by
  intro i hi
  rw [b4_len] at hi
  match i, hi with
  | 0, _ => exact ⟨show 0 ≤ x / 16777216 by omega, show x / 16777216 ≤ 255 by omega⟩
  | 1, _ => exact ⟨show 0 ≤ x / 65536 % 256 by omega, show x / 65536 % 256 ≤ 255 by omega⟩
  | 2, _ => exact ⟨show 0 ≤ x / 256 % 256 by omega, show x / 256 % 256 ≤ 255 by omega⟩
  | 3, _ => exact ⟨show 0 ≤ x % 256 by omega, show x % 256 ≤ 255 by omega⟩
theorem AllB.append {a b : List Int} (ha : AllB a) (hb : AllB b) : AllB (a ++ b) := by
  intro i hi
  rw [List.length_append] at hi
  rw [List.getD_eq_getElem?_getD]
  by_cases h : i < a.length
  · rw [List.getElem?_append_left h, ← List.getD_eq_getElem?_getD]; exact ha i h
  · rw [List.getElem?_append_right (by omega), ← List.getD_eq_getElem?_getD]; exact hb _ (by omega)
theorem flat4_all (fs : List Nat) (h : ∀ b ∈ fs, b < 4294967296) : AllB (flat4 fs) := by
  induction fs with
  | nil => intro i hi; simp [flat4] at hi
  | cons b l ih =>
    have e : flat4 (b :: l) = b4 (b : Int) ++ flat4 l := by simp [flat4]
    rw [e]
    exact (b4_all b (by omega) (by have := h b (by simp); omega)).append (ih fun c hc => h c (by simp [hc]))
theorem packHead_all (fs : List Nat) (h : ∀ b ∈ fs, b < 4294967296) (hn : fs.length ≤ 4096) : AllB (packHead fs fs.length) := by
  unfold packHead
  refine AllB.append (fun i hi => ?_) (flat4_all _ (by rw [List.take_length]; exact h))
  match i, hi with
  | 0, _ => exact ⟨show (0 : Int) ≤ 83 by decide, show (83 : Int) ≤ 255 by decide⟩
  | 1, _ => exact ⟨show (0 : Int) ≤ 78 by decide, show (78 : Int) ≤ 255 by decide⟩
  | 2, _ => exact ⟨show (0 : Int) ≤ 68 by decide, show (68 : Int) ≤ 255 by decide⟩
  | 3, _ => exact ⟨show (0 : Int) ≤ 49 by decide, show (49 : Int) ≤ 255 by decide⟩
  | 4, _ => exact ⟨show 0 ≤ (fs.length : Int) / 256 by omega, show (fs.length : Int) / 256 ≤ 255 by omega⟩
  | 5, _ => exact ⟨show 0 ≤ (fs.length : Int) % 256 by omega, show (fs.length : Int) % 256 ≤ 255 by omega⟩
end Go.Proofs.YtoipafnlcchmbaaGreatDoor
namespace Go.Proofs.YtoipafnlcchmbaaGreatDoor
open Go.RowKit

theorem marked_cells (w : World) (t : TypeId) (C : Array Value) (fz : Nat × Nat) (o : Obj) (l : List Value) (hl : l = C.toList) : ∀ j u, l[j]? = some u → ((w.alloc (.cells C t fz)).alloc o).cell? ⟨w.heap.size, 0 + j, none⟩ = some u := by
  intro j u hu
  have hg : ((w.alloc (.cells C t fz)).alloc o).heap[w.heap.size]? = some (.cells C t fz) := (Below.heap_alloc _ o w.heap.size (by simp)).trans (heap_alloc_new w _)
  rw [Nat.zero_add, cell_of_row _ _ j C t fz hg]
  subst hl
  simpa using hu
theorem ownsRow_mono {w : World} {base base' : Nat} {e : TypeId} {size : Nat} {v : Value} {n : Nat} {xs : List Value} (h : w.ownsRow base e size v n xs) (hb : base' ≤ base) : w.ownsRow base' e size v n xs := by
  rcases h with ⟨h1, h2 | ⟨g, cap, cur, hv, hg, r⟩⟩
  · exact ⟨h1, .inl h2⟩
  · exact ⟨h1, .inr ⟨g, cap, cur, hv, Nat.le_trans hb hg, r⟩⟩
theorem own_ne {w : World} {b1 b2 s1 s2 n1 n2 : Nat} {e1 e2 : TypeId} {v1 v2 : Value} {xs1 xs2 : List Value} (h1 : w.ownsRow b1 e1 s1 v1 n1 xs1) (h2 : w.ownsRow b2 e2 s2 v2 n2 xs2) (he : e1 ≠ e2) : v1.ownBlock = none ∨ v1.ownBlock ≠ v2.ownBlock := by
  rcases h1.2 with ⟨rfl, _⟩ | ⟨g, cap, cur, rfl, _, hg, _⟩
  · exact .inl rfl
  · right
    rcases h2.2 with ⟨rfl, _⟩ | ⟨g', cap', cur', rfl, _, hg', _⟩
    · simp [Value.ownBlock]
    · simp only [Value.ownBlock, ne_eq, Option.some.injEq]
      rintro rfl
      rw [hg] at hg'
      simp only [Option.some.injEq, Obj.cells.injEq] at hg'
      exact he hg'.2.1
theorem eightJ (l : List Int) (h : l.length = 8) : ∃ k0 k1 k2 k3 k4 k5 k6 k7, l = [k0, k1, k2, k3, k4, k5, k6, k7] := by
  match l, h with
  | [k0, k1, k2, k3, k4, k5, k6, k7], _ => exact ⟨_, _, _, _, _, _, _, _, rfl⟩
theorem cells_eight_new (w : World) (t : TypeId) (l : List Value) : ∀ j u, l[j]? = some u → (w.alloc (.cells l.toArray t)).cell? ((⟨w.heap.size, 0, none⟩ : Addr).add j) = some u := by
  intro j u hu
  have hadd : (⟨w.heap.size, 0, none⟩ : Addr).add j = ⟨w.heap.size, j, none⟩ := by unfold Addr.add; split <;> simp_all
  rw [hadd, (Blk.new w t l.toArray).cell j]
  simpa using hu
theorem append_tail {w : World} (A : Addr) : ∀ j u, ([] : List Value)[j]? = some u → w.cell? (A.add j) = some u := fun j u h => by simp at h
theorem cells_two_new (w : World) (t : TypeId) (a b : Value) : ∀ j u, [a, b][j]? = some u → (w.alloc (.cells #[a, b] t)).cell? ((⟨w.heap.size, 0, none⟩ : Addr).add j) = some u := by
  intro j u hu
  have hadd : (⟨w.heap.size, 0, none⟩ : Addr).add j = ⟨w.heap.size, j, none⟩ := by unfold Addr.add; split <;> simp_all
  rw [hadd, (Blk.new w t #[a, b]).cell j]
  simpa using hu
theorem blk_cells {w : World} {g : Nat} {t : TypeId} {cs : Array Value} (h : Blk w g t cs) (l : List Value) (hl : l = cs.toList) : ∀ j u, l[j]? = some u → w.cell? ((⟨g, 0, none⟩ : Addr).add j) = some u := by
  intro j u hu
  have hadd : (⟨g, 0, none⟩ : Addr).add j = ⟨g, j, none⟩ := by unfold Addr.add; split <;> simp_all
  rw [hadd, h.cell j]
  subst hl
  simpa using hu
theorem packHead_zero (fs : List Nat) : packHead fs 0 = [83, 78, 68, 49, (fs.length : Int) / 256, (fs.length : Int) % 256] := by simp [packHead, flat4]
theorem packHead_snoc (fs : List Nat) (k : Nat) (h : k < fs.length) : packHead fs (k + 1) = packHead fs k ++ b4 (fs.getD k 0 : Nat) := by
  unfold packHead
  rw [flat4_snoc fs k h, List.append_assoc]

set_option maxHeartbeats 4000000 in
set_option maxRecDepth 100000 in
theorem Pack_of (A : Option Addr) (n c : Nat) (fs : List Nat) (w : World) (hn : n ≤ 4096) (hz : FlAt w A n fs) (hg : ∀ i, i < n → Good 1149239296 (fs.getD i 0)) (hv : ∀ i, i < n → fs.getD i 0 < 4294967296 ∧ ((fs.getD i 0 : Int) == 2147483648) = false) (hb : ∀ b ∈ fs, b < 4294967296) :
    Calls Tryz.prog 86 #[.slice A n c] w fun e w' => ∃ v, e = .returned (.tuple #[v, .int .i64 0]) ∧ OwnB w' w.heap.size v (packL fs) ∧ Below w.heap.size w w' := by
  obtain ⟨i0, hi, hz0, hz1, hz2⟩ := info_parts infoB
  have HZ := Lib.hid hz
  have HG := Lib.hid hg
  have HV := Lib.hid hv
  have HBB := Lib.hid hb
  have hlen := Lib.hid hz.1
  clear hz hg hv hb
  go_enter Tryz.func86, Tryz.ntmps86
  go_wp2_with fail
  refine (checkSamples_good A n c fs w hn HZ.out HG.out).mono ?_
  rintro e w1 ⟨rfl, hb⟩
  have HB1 := Lib.hid hb
  have HZ1 := Lib.hid (HZ.out.keep hb)
  have sz1 := hb.size
  clear hb
  have kc := fun (w : World) (C : Array Value) (n c : Nat) => Lib.run_convert_bytes_const (P := Tryz.prog) w 106 5 C n c Tryz.underlying106 Tryz.underlying5
  have hmk := fun o => marked_cells w1 5 #[.int .u8 83, .int .u8 78, .int .u8 68, .int .u8 49] (4, 5) o [.int .u8 83, .int .u8 78, .int .u8 68, .int .u8 49] rfl
  have HMK := Lib.hid hmk
  clear hmk
  have hnn : ((n : Int) / 256) ≤ 16 := by omega
  go_wp2_with (at_builtin; refine wpList_append_arg _ rfl _ _ 106 rfl 5 i0 (.int .u8 0) 1 1 Tryz.underlying106 hi hz0 hz1 hz2 rfl (by decide) w1.heap.size 0 4 4 [.int .u8 83, .int .u8 78, .int .u8 68, .int .u8 49] rfl rfl (HMK.out _) ⟨w1.heap.size + 1, 0, none⟩ 2 2 [.int .u8 ((n : Int) / 256), .int .u8 ((n : Int) % 256)] rfl rfl (by have := cells_two_new (w1.alloc (.cells #[.int .u8 83, .int .u8 78, .int .u8 68, .int .u8 49] 5 (4, 5))) 5 (.int .u8 ((n : Int) / 256)) (.int .u8 ((n : Int) % 256)); rw [World.size_alloc] at this; exact this) (by simp [Value.oneCell']) (fun h => by omega) (by unfold maxLen; omega) (by omega) (fun h => by omega) ?_; intro _ v2 w2 hown2 hgrow2)
  have HO2 : Hid (OwnB w2 w.heap.size v2 (packHead fs 0)) := by
    show w2.ownsRow _ _ _ _ _ _
    have := ownsRow_mono hown2 (base' := w.heap.size) (by simp; omega)
    rw [packHead_zero, hlen.out]
    exact this
  have HB2 : Hid (Below w.heap.size w w2) := Below.grown ((HB1.out.alloc HB1.out.size _).alloc (by have := HB1.out.size; simp; omega) _) hgrow2 (by simp; omega) (fun k hk => by cases hk)
  have HZ2 := Lib.hid (HZ.out.keep HB2.out)
  clear hown2 hgrow2 HZ1 HB1 sz1 kc HMK
  refine (mapped_bytes A n c fs w2 hn HZ2.out HV.out).mono ?_
  rintro e w3 ⟨v3, rfl, hO4, hb3⟩
  have HO3 := Lib.hid (HO2.out.below hb3)
  have HB3 : Hid (Below w.heap.size w w3) := HB2.out.trans (hb3.mono HB2.out.size)
  have hO5 : Own4 w3 w.heap.size v3 fs := ownsRow_mono hO4 HB2.out.size
  have HO5 := Lib.hid hO5
  obtain ⟨A3, c3, rfl, _⟩ := hO4.form
  clear hO4 hO5 hb3 HO2 HB2 HZ2
  rw [hlen.out] at HO5 ⊢
  go_wp2_with fail
  go_loopw [5, 7, 28] (fun v _ i wr => ∃ k : Nat, k ≤ n ∧ i = .int .i64 k ∧ OwnB wr w.heap.size v (packHead fs k) ∧ Own4 wr w.heap.size (.slice A3 n c3) fs ∧ Below w.heap.size w wr) (fun _ _ i _ => n - (intOf i).toNat)
  case atStart => exact ⟨0, Nat.zero_le _, rfl, HO3.out, HO5.out, HB3.out⟩
  case round =>
    clear HO3 HO5 HB3
    obtain ⟨k, hk, rfl, ho, h4, hb⟩ := hrel
    have HO := Lib.hid ho
    have H4 := Lib.hid h4
    have HB := Lib.hid hb
    clear ho hb
    by_cases hlt : k < n
    · obtain ⟨A', c', heq, hr⟩ := h4.form
      simp only [Value.slice.injEq] at heq
      obtain ⟨rfl, hnl, rfl⟩ := heq
      clear hnl
      obtain ⟨g, rfl, hgl, hcc⟩ := hr (by rw [hlen.out]; omega)
      have hck := hcc k (by rw [hlen.out]; exact hlt)
      have HS := Lib.hid (packHead_snoc fs k (by rw [hlen.out]; exact hlt))
      obtain ⟨y0, y1, y2, y3, hy⟩ : ∃ y0 y1 y2 y3, b4 (fs.getD k 0 : Nat) = [y0, y1, y2, y3] := ⟨_, _, _, _, rfl⟩
      rw [hy] at hck HS
      have c0 := hck 0 (by omega)
      have c1 := hck 1 (by omega)
      have c2 := hck 2 (by omega)
      have c3' := hck 3 (by omega)
      simp only [List.getD_cons_zero, List.getD_cons_succ, Nat.add_zero] at c0 c1 c2 c3'
      have hpl := packHead_len fs k (by rw [hlen.out]; exact hk)
      have hb' := HB.out.size
      have hown0 : wr.ownsRow w.heap.size 5 1 u5 (6 + k * 4) ((packHead fs k).map (Value.int .u8)) := by have := HO.out; unfold OwnB at this; rwa [hpl] at this
      have HN := Lib.hid (own_ne H4.out HO.out (by decide))
      clear hck hy h4 hr hcc hpl
      go_wp2_with (at_builtin; refine wpList_append_own _ rfl _ _ 106 rfl w.heap.size 5 i0 (.int .u8 0) 1 1 Tryz.underlying106 hi hz0 hz1 hz2 rfl (by decide) _ _ _ rfl (World.ownsRow.alloc hown0 _) ⟨wr.heap.size, 0, none⟩ 4 4 [.int .u8 y0, .int .u8 y1, .int .u8 y2, .int .u8 y3] rfl rfl (cells_four_new _ _ _ _ _ _) (by simp [Value.oneCell']) (by unfold maxLen; omega) (by omega) (by simp; omega) ?_; intro v' w4 hown' hgrow _)
      have R : OwnB w4 w.heap.size v' (packHead fs (k + 1)) := by
        unfold OwnB
        rw [HS.out, List.length_append, packHead_len fs k (by rw [hlen.out]; exact hk), List.map_append]
        exact hown'
      have R4 : Own4 w4 w.heap.size (.slice (some ⟨g, 0, none⟩) n c3) fs := World.ownsRow.kept (World.ownsRow.alloc H4.out _) hgrow HN.out
      have B3 : Below w.heap.size w w4 := Below.grown (HB.out.alloc HB.out.size _) hgrow (by simp; omega) (fun j hj => (hown0.lt j hj).1)
      clear hown' hgrow hown0 HN
      go_wp2
      go_roundw
      case rel => first | exact ⟨k + 1, by omega, by go_num, R, R4, B3⟩ | ((repeat apply Exists.intro); exact ⟨⟨k + 1, by omega, by go_num, R, R4, B3⟩, rfl⟩)
      case measure => simp [intOf]; omega
    · obtain rfl : k = n := by omega
      clear h4
      have hpl := packHead_len fs k (by rw [hlen.out]; exact Nat.le_refl _)
      have hall : AllB (packHead fs k) := by rw [← hlen.out]; exact packHead_all fs HBB.out (by rw [hlen.out]; exact hn)
      rcases HO.out.form with ⟨_, h0⟩ | ⟨g, cap, rfl, hg0, hgl, hcap, hcc, _⟩
      · rw [h0] at hpl; simp at hpl; omega
      have HBA := Lib.hid (HO.out.at_ hall)
      rw [hpl] at HBA
      have HPL := Lib.hid hpl
      clear hcc hall hpl hcap
      rw [HPL.out] at HO ⊢
      have hk8 : Hid (Key8 0 0 0 0 0 0 0 0) := by
        show Key8 0 0 0 0 0 0 0 0
        intro i hi
        match i, hi with
        | 0, _ => exact ⟨by decide, by decide⟩
        | 1, _ => exact ⟨by decide, by decide⟩
        | 2, _ => exact ⟨by decide, by decide⟩
        | 3, _ => exact ⟨by decide, by decide⟩
        | 4, _ => exact ⟨by decide, by decide⟩
        | 5, _ => exact ⟨by decide, by decide⟩
        | 6, _ => exact ⟨by decide, by decide⟩
        | 7, _ => exact ⟨by decide, by decide⟩
      go_wp2_with fail
      refine (seal_any 0 0 0 0 0 0 0 0 (some ⟨g, 0, none⟩) (6 + k * 4) cap (packHead fs k) _ (by omega) hk8.out HBA.out).mono ?_
      rintro e w5 ⟨rfl, hb5⟩
      have H5 := Lib.hid (HO.out.below hb5)
      have HB5 : Hid (Below w.heap.size w w5) := HB.out.trans (hb5.mono HB.out.size)
      clear hb5
      have sz5 := HB5.out.size
      have hown0 : w5.ownsRow w.heap.size 5 1 (.slice (some ⟨g, 0, none⟩) (6 + k * 4) cap) (6 + k * 4) ((packHead fs k).map (Value.int .u8)) := by have := H5.out; unfold OwnB at this; rwa [HPL.out] at this
      obtain ⟨z0, z1, z2, z3, z4, z5, z6, z7, hz⟩ := eightJ (sealL [0, 0, 0, 0, 0, 0, 0, 0] (packHead fs k)) (sealL_len _ _)
      have hz' : [sealAt 0 0 (packHead fs k), sealAt 1 0 (packHead fs k), sealAt 2 0 (packHead fs k), sealAt 3 0 (packHead fs k), sealAt 4 0 (packHead fs k), sealAt 5 0 (packHead fs k), sealAt 6 0 (packHead fs k), sealAt 7 0 (packHead fs k)] = [z0, z1, z2, z3, z4, z5, z6, z7] := hz
      simp only [List.cons.injEq, and_true] at hz'
      obtain ⟨q0, q1, q2, q3, q4, q5, q6, q7⟩ := hz'
      rw [q0, q1, q2, q3, q4, q5, q6, q7]
      have HZ8 := Lib.hid hz
      clear q0 q1 q2 q3 q4 q5 q6 q7 hz
      go_wp2_with (at_builtin; refine wpList_append_own _ rfl _ _ 106 rfl w.heap.size 5 i0 (.int .u8 0) 1 1 Tryz.underlying106 hi hz0 hz1 hz2 rfl (by decide) _ _ _ rfl (World.ownsRow.alloc hown0 _) ⟨w5.heap.size, 0, none⟩ 8 8 [.int .u8 z0, .int .u8 z1, .int .u8 z2, .int .u8 z3, .int .u8 z4, .int .u8 z5, .int .u8 z6, .int .u8 z7] rfl rfl (cells_eight_new _ _ _) (by simp [Value.oneCell']) (by unfold maxLen; omega) (by omega) (by simp; omega) ?_; intro v' w6 hown' hgrow _)
      have R : OwnB w6 w.heap.size v' (packL fs) := by
        unfold OwnB packL
        rw [hlen.out, HZ8.out, List.length_append, HPL.out, List.map_append]
        exact hown'
      have B6 : Below w.heap.size w w6 := Below.grown (HB5.out.alloc HB5.out.size _) hgrow (by simp; omega) (fun j hj => (hown0.lt j hj).1)
      clear hown' hgrow hown0
      go_wp2
      go_ret2
      exact ⟨_, rfl, R, B6⟩
end Go.Proofs.YtoipafnlcchmbaaGreatDoor
