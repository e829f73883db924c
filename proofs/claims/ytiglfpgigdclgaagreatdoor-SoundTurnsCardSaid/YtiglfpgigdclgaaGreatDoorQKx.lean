/- The string of energies: its lines. The string of energies: Print. -/
import Derived.Test.YtiglfpgigdclgaaGreatDoorSh
import Derived.Test.YtiglfpgigdclgaaGreatDoorQC
import Derived.Lib.SmallJoins
import Derived.Lib.AppendIntMem
import Derived.Lib.ItoaLen
namespace Go.Proofs.YtiglfpgigdclgaaGreatDoor
open Go.RowKit Go.Sort

/-- The table of powers lies in its variable. -/
def Tab (w : World) : Prop := Lib.TabIs Tryz.prog w "internal/strconv.uint64pow10" .u64 Lib.pow10Tab
theorem gPow : Tryz.prog.globalNamed "internal/strconv.uint64pow10" = some 3 := by kernel_rfl
theorem Tab.keep {w w' : World} (h : Tab w) (hb : Below w.heap.size w w') : Tab w' := Joins.tab_stays gPow h hb (Nat.le_refl _)

def lineB (wd : ByteArray) (n : Int) : ByteArray := wd ++ ⟨#[32]⟩ ++ ⟨(Lib.itoa n).toArray⟩ ++ ⟨#[10]⟩

theorem itoa_len (n : Int) (h0 : 0 ≤ n) (h1 : n ≤ 9223372036854775807) : (Lib.itoa n).length ≤ 20 := by
  unfold Lib.itoa
  rw [if_neg (by omega), Lib.decDigits_length]
  exact Lib.nDigits_le20 _ (by omega)
theorem size_app (a b : ByteArray) : (a ++ b).size = a.size + b.size := by simp
set_option maxRecDepth 100000 in
theorem lineOf_any (wd : ByteArray) (n : Int) (h0 : 0 ≤ n) (h1 : n ≤ 9223372036854775807) (w : World) (ht : Tab w) (hw : wd.size ≤ 1000) :
    Calls Tryz.prog 158 #[.string wd, .int .i64 n] w fun e w' => e = .returned (.string (lineB wd n)) ∧ Below w.heap.size w w' := by
  have HT := Lib.hid ht
  have hl := itoa_len n h0 h1
  obtain ⟨s, hs⟩ : ∃ s : ByteArray, s = ⟨(Lib.itoa n).toArray⟩ := ⟨_, rfl⟩
  have hsz : s.size ≤ 20 := by rw [hs]; simpa [ByteArray.size] using hl
  have k1 : ∀ w', (Op.stringOp .add wd ⟨#[32]⟩).run Tryz.prog w' = .ok (.string (wd ++ ⟨#[32]⟩)) w' := fun w' => run_string_add_sum w' _ _ (by show wd.size + 1 ≤ _; omega)
  obtain ⟨a, ha⟩ : ∃ a, a = wd ++ (⟨#[32]⟩ : ByteArray) := ⟨_, rfl⟩
  have haz : a.size ≤ 1001 := by rw [ha, size_app]; show wd.size + 1 ≤ _; omega
  rw [← ha] at k1
  have k2 : ∀ w', (Op.stringOp .add a s).run Tryz.prog w' = .ok (.string (a ++ s)) w' := fun w' => run_string_add_sum w' _ _ (by omega)
  obtain ⟨b, hb⟩ : ∃ b, b = a ++ s := ⟨_, rfl⟩
  have hbz : b.size ≤ 1021 := by rw [hb, size_app]; omega
  rw [← hb] at k2
  have k3 : ∀ w', (Op.stringOp .add b ⟨#[10]⟩).run Tryz.prog w' = .ok (.string (b ++ ⟨#[10]⟩)) w' := fun w' => run_string_add_sum w' _ _ (by show b.size + 1 ≤ _; omega)
  have HE : Hid (lineB wd n = b ++ ⟨#[10]⟩) := by show _ = _; rw [hb, ha, hs]; rfl
  have HSS : Hid (s = ⟨(Lib.itoa n).toArray⟩) := hs
  rw [HE.out]
  clear ht hl ha hb hs hsz haz hbz hw
  go_enter Tryz.func158, Tryz.ntmps158
  go_wp2_with fail
  refine (Tryz.strconv_Itoa n (by omega) h1 _ HT.out).mono ?_
  rintro e w' ⟨rfl, k, os, rfl⟩
  rw [← HSS.out]
  have HB : Hid (Below w.heap.size w (grow (w.drewN k) os)) := Lib.below_grow _ w (Nat.le_refl _) k os
  go_wp2
  go_ret
  exact ⟨rfl, HB.out⟩

def energyB : ByteArray := ⟨#[101, 110, 101, 114, 103, 121]⟩
set_option maxRecDepth 100000 in
theorem print1_any (n : Int) (h0 : 0 ≤ n) (h1 : n ≤ 9223372036854775807) (w : World) (ht : Tab w) :
    Calls Tryz.prog 157 #[.int .i64 n] w fun e w' => e = .returned (.string (lineB energyB n)) ∧ Below w.heap.size w w' := by
  have HT := Lib.hid ht
  clear ht
  go_enter Tryz.func157, Tryz.ntmps157
  go_wp2_with fail
  refine (lineOf_any _ n h0 h1 _ HT.out (by decide)).mono ?_
  rintro e w' ⟨rfl, hb⟩
  have HB := Lib.hid hb
  clear hb
  go_wp2
  go_ret
  exact ⟨rfl, HB.out⟩
theorem enters_print1 (args : Array Value) (W : World) : (callFunc 157 args).run Tryz.prog W = .ok (.enter 157 args) W := by kernel_rfl

theorem infoS : (Tryz.prog.info? 9).map (fun i => (i.zero, i.size, i.bytes)) = some (some (.string ByteArray.empty), 1, 16) := by kernel_rfl
/-- A slice of strings that the call made. -/
def OwnS (w : World) (base : Nat) (v : Value) (l : List ByteArray) : Prop := w.ownsRow base 9 1 v l.length (l.map Value.string)
theorem OwnS.form {w : World} {base : Nat} {v : Value} {l : List ByteArray} (h : OwnS w base v l) :
    ∃ A cap, v = .slice A l.length cap ∧ l.length ≤ cap ∧ (0 < l.length → ∃ g, A = some ⟨g, 0, none⟩ ∧ g < w.heap.size ∧ ∀ i x, l[i]? = some x → w.cell? ⟨g, 0 + i, none⟩ = some (.string x)) := by
  have h0 := h
  rcases h.2 with ⟨hv, hn⟩ | ⟨g, cap, cur, hv, hb, hg, hnc, hm, hs, ht⟩
  · exact ⟨none, 0, by rw [hn]; exact hv, by omega, fun h => by omega⟩
  · subst hv
    refine ⟨_, _, rfl, hnc, fun _ => ⟨g, rfl, lt_of_block hg, fun i x hx => ?_⟩⟩
    have hi : i < l.length := (List.getElem?_eq_some_iff.1 hx).1
    rw [Nat.zero_add, World.ownsRow.cellAt h0 i (by omega), List.getElem?_map, hx]
    rfl
def linesL (zs : List Int) : List ByteArray := zs.map (lineB energyB)
theorem linesL_len (zs : List Int) : (linesL zs).length = zs.length := by simp [linesL]
theorem linesL_snoc (zs : List Int) (k : Nat) (h : k < zs.length) : linesL (zs.take (k + 1)) = linesL (zs.take k) ++ [lineB energyB (zs.getD k 0)] := by
  unfold linesL
  rw [List.take_succ_eq_append_getElem h, List.map_append]
  simp [List.getD_eq_getElem?_getD, List.getElem?_eq_getElem h]

set_option maxHeartbeats 2000000 in
set_option maxRecDepth 100000 in
theorem mapped_lines (A : Option Addr) (n c : Nat) (zs : List Int) (w : World) (hn : n ≤ 1024) (hz : IntsAt w A n zs) (hv : ∀ i, i < n → 0 ≤ zs.getD i 0 ∧ zs.getD i 0 ≤ 10000000000000) (ht : Tab w) :
    Calls Tryz.prog 156 #[.slice A n c, .func (.func 157) #[] #[]] w fun e w' => ∃ v, e = .returned v ∧ OwnS w' w.heap.size v (linesL zs) ∧ Below w.heap.size w w' := by
  obtain ⟨i0, hi, hz0, hz1, hz2⟩ := info_parts infoS
  have HZ := Lib.hid hz
  have HV := Lib.hid hv
  have HT := Lib.hid ht
  clear hz hv ht
  go_enter Tryz.func156, Tryz.ntmps156
  go_wp2_with (at_make; refine wpList_make_own _ rfl _ _ 188 rfl w.heap.size 9 i0 (.string ByteArray.empty) 1 Tryz.underlying188 hi hz0 hz1 _ _ _ n rfl rfl rfl (by rw [hz2]; omega) (by unfold maxLen; omega) (by simp) ?_; intro w1 hown hg1)
  have hO : OwnS w1 w.heap.size (.slice (some ⟨w.heap.size, 0, none⟩) 0 n) (linesL (zs.take 0)) := hown
  have hB1 : Below w.heap.size w w1 := Below.grown (Below.refl _ _) hg1 (Nat.le_refl _) (fun k hk => by cases hk)
  clear hown hg1
  go_loopw [5, 7, 13] (fun v _ i wr => ∃ k : Nat, k ≤ n ∧ i = .int .i64 k ∧ OwnS wr w.heap.size v (linesL (zs.take k)) ∧ Below w.heap.size w wr) (fun _ _ i _ => n - (intOf i).toNat)
  case atStart => exact ⟨0, Nat.zero_le _, rfl, hO, hB1⟩
  case round =>
    clear hO hB1
    obtain ⟨k, hk, rfl, hown, hb⟩ := hrel
    have HB := Lib.hid hb
    have HO := Lib.hid hown
    by_cases hlt : k < n
    · obtain ⟨b, off, rfl, hcc⟩ := (HZ.out.keep hb).2 (by omega)
      have HTT := Lib.hid (HT.out.keep hb)
      have HLT := Lib.hid (linesL_snoc zs k (by rw [HZ.out.1]; exact hlt))
      have hvk := HV.out k hlt
      obtain ⟨x, hx⟩ : ∃ x, x = zs.getD k 0 := ⟨_, rfl⟩
      have h0 := hcc k hlt
      rw [← hx] at h0 hvk HLT
      obtain ⟨hv1, hv2⟩ := hvk
      clear hcc hx hb hown
      go_wp2_with fail
      refine (print1_any x hv1 (by omega) _ HTT.out).mono ?_
      rintro e w2 ⟨rfl, hb2⟩
      have hO3 : w2.ownsRow w.heap.size 9 1 u5 k ((linesL (zs.take k)).map Value.string) := by
        have := World.ownsRow.kept HO.out (row := none) ⟨hb2.os, hb2.tape, hb2.output, hb2.size, fun k hk _ => hb2.block k hk⟩ (Classical.em _)
        rwa [linesL_len, List.length_take, HZ.out.1, Nat.min_eq_left hk] at this
      have sz2 := hb2.size
      have sz3 := HB.out.size
      have HB2 : Hid (Below w.heap.size w w2) := HB.out.trans (hb2.mono HB.out.size)
      clear hb2
      obtain ⟨s, hs⟩ : ∃ s, s = lineB energyB x := ⟨_, rfl⟩
      rw [← hs] at HLT ⊢
      clear hs
      go_wp2_with (at_builtin; refine wpList_append_own _ rfl _ _ 188 rfl w.heap.size 9 i0 (.string ByteArray.empty) 1 16 Tryz.underlying188 hi hz0 hz1 hz2 rfl (by decide) _ _ _ rfl (World.ownsRow.alloc hO3 _) ⟨w2.heap.size, 0, none⟩ 1 1 [.string s] rfl rfl (cell_one_new _ _ _) (by simp [Value.oneCell']) (by unfold maxLen; omega) (by omega) (by simp; omega) ?_; intro v' w3 hown' hgrow _)
      have R : OwnS w3 w.heap.size v' (linesL (zs.take (k + 1))) := by
        unfold OwnS
        rw [HLT.out, List.length_append, linesL_len, List.length_take, HZ.out.1, Nat.min_eq_left (by omega), List.map_append]
        exact hown'
      have B3 : Below w.heap.size w w3 := Below.grown (HB2.out.alloc HB2.out.size _) hgrow (by simp; omega) (fun j hj => (hO3.lt j hj).1)
      clear hown' hgrow hO3
      go_wp2
      go_roundw
      case rel => exact ⟨k + 1, by omega, by go_num, R, B3⟩
      case measure => simp [intOf]; omega
    · clear hb hown
      go_wp2
      go_ret
      refine ⟨_, rfl, ?_, HB.out⟩
      have := HO.out
      rwa [List.take_of_length_le (by rw [HZ.out.1]; omega)] at this
end Go.Proofs.YtiglfpgigdclgaaGreatDoor
namespace Go.Proofs.YtiglfpgigdclgaaGreatDoor
open Go.RowKit Go.Sort

theorem join_flat (xs : List (List UInt8)) : Lib.join xs [] = xs.flatten := by
  cases xs with
  | nil => rfl
  | cons x r => rw [Lib.join_cons]; simp [Lib.joinTail]
theorem flat_le (M : Nat) : ∀ (xs : List (List UInt8)), (∀ x ∈ xs, x.length ≤ M) → xs.flatten.length ≤ xs.length * M
  | [], _ => by simp
  | x :: l, h => by
    have := flat_le M l (fun y hy => h y (by simp [hy]))
    have := h x (by simp)
    rw [List.flatten_cons, List.length_append, List.length_cons, Nat.succ_mul]
    omega
theorem lineB_len (wd : ByteArray) (n : Int) (h0 : 0 ≤ n) (h1 : n ≤ 9223372036854775807) (hw : wd.size ≤ 1000) : (lineB wd n).data.toList.length ≤ 1022 := by
  have hl := itoa_len n h0 h1
  have e : (lineB wd n).size = wd.size + 1 + (Lib.itoa n).length + 1 := by
    unfold lineB
    simp only [size_app]
    rfl
  have e2 : (lineB wd n).data.toList.length = (lineB wd n).size := rfl
  omega

def countB : ByteArray := ⟨#[101, 110, 101, 114, 103, 105, 101, 115]⟩
def bodyB (zs : List Int) : ByteArray := ⟨(Lib.join ((linesL zs).map (·.data.toList)) []).toArray⟩
def fullB (zs : List Int) : ByteArray := lineB countB zs.length ++ bodyB zs
def printErr (zs : List Int) : Int := if checkEnergiesE zs = 0 then (if 4096 < (fullB zs).size then 26 else 0) else checkEnergiesE zs
def printVal (zs : List Int) : ByteArray := if checkEnergiesE zs = 0 then (if 4096 < (fullB zs).size then ⟨#[]⟩ else fullB zs) else ⟨#[]⟩
theorem bodyB_size (zs : List Int) (hv : ValidE zs) : (bodyB zs).size ≤ 2000000 := by
  have e : (bodyB zs).size = (Lib.join ((linesL zs).map (·.data.toList)) []).length := by simp [bodyB, ByteArray.size]
  rw [e, join_flat]
  have := flat_le 1022 ((linesL zs).map (·.data.toList)) (fun x hx => by
    obtain ⟨s, hs, rfl⟩ := List.mem_map.1 hx
    obtain ⟨z, hz, rfl⟩ := List.mem_map.1 hs
    obtain ⟨i, hi, rfl⟩ := List.getElem_of_mem hz
    have := hv.2 i hi
    rw [List.getD_eq_getElem?_getD, List.getElem?_eq_getElem hi] at this
    simp only [Option.getD_some] at this
    exact lineB_len _ _ this.1 (by omega) (by decide))
  rw [List.length_map, linesL_len] at this
  have := hv.1
  have : zs.length * 1022 ≤ 1024 * 1022 := Nat.mul_le_mul_right _ this
  omega

theorem ret_str2 {a b : ByteArray} {x y : Int} (h : a = b) (h2 : x = y) : Ending.returned (.tuple #[.string a, .int .i64 x]) = .returned (.tuple #[.string b, .int .i64 y]) := by rw [h, h2]

set_option maxHeartbeats 2000000 in
set_option maxRecDepth 100000 in
theorem Print_any (A : Option Addr) (n c : Nat) (zs : List Int) (w : World) (hn : n ≤ 140737488351232) (hz : IntsAt w A n zs) (ht : Tab w) :
    Calls Tryz.prog 92 #[.slice A n c] w fun e w' => e = .returned (.tuple #[.string (printVal zs), .int .i64 (printErr zs)]) ∧ Below w.heap.size w w' := by
  have HZ := Lib.hid hz
  have hl := Lib.hid hz.1
  have HT := Lib.hid ht
  clear hz ht
  obtain ⟨E, hE⟩ : ∃ E, E = checkEnergiesE zs := ⟨_, rfl⟩
  have HE := Lib.hid hE
  clear hE
  by_cases h : E = 0
  · have h1 : (E != 0) = false := by simp [h]
    have HV := Lib.hid (validE_of (HE.out.symm.trans h))
    have hn2 : n ≤ 1024 := by have := HV.out.1; rw [hl.out] at this; exact this
    have r1 : Hid (printErr zs = if 4096 < (fullB zs).size then 26 else 0) := by show _ = _; unfold printErr; rw [if_pos (by rw [← HE.out]; exact h)]
    have r2 : Hid (printVal zs = if 4096 < (fullB zs).size then ⟨#[]⟩ else fullB zs) := by show _ = _; unfold printVal; rw [if_pos (by rw [← HE.out]; exact h)]
    obtain ⟨s, hs⟩ : ∃ s, s = fullB zs := ⟨_, rfl⟩
    have HS := Lib.hid hs
    have R1 : Hid (printErr zs = if 4096 < s.size then 26 else 0) := by show _ = _; rw [r1.out, hs]
    have R2 : Hid (printVal zs = if 4096 < s.size then ⟨#[]⟩ else s) := by show _ = _; rw [r2.out, hs]
    clear r1 r2
    clear h hs
    go_enter Tryz.func92, Tryz.ntmps92
    go_wp2_with fail
    refine (checkEnergies_any A n c zs w hn HZ.out).mono ?_
    rw [← HE.out]
    rintro e w1 ⟨rfl, hb⟩
    have HZ1 := Lib.hid (HZ.out.keep hb)
    have HT1 := Lib.hid (HT.out.keep hb)
    have HB := Lib.hid hb
    clear hb
    go_wp2_with fail
    refine (mapped_lines A n c zs w1 hn2 HZ1.out (fun i hi => HV.out.2 i (by rw [hl.out]; exact hi)) HT1.out).mono ?_
    rintro e w2 ⟨v, rfl, hO, hb2⟩
    have HT2 := Lib.hid (HT1.out.keep hb2)
    have HB2 : Hid (Below w.heap.size w w2) := HB.out.trans (hb2.mono HB.out.size)
    have HO := Lib.hid hO
    clear hb2 hO
    go_wp2_with fail
    refine (lineOf_any _ (n : Int) (by omega) (by omega) _ HT2.out (by decide)).mono ?_
    rintro e w3 ⟨rfl, hb3⟩
    obtain ⟨L, hL⟩ : ∃ L, L = lineB countB n := ⟨_, rfl⟩
    rw [show lineB ⟨#[101, 110, 101, 114, 103, 105, 101, 115]⟩ (n : Int) = L from hL.symm]
    have HL := Lib.hid hL
    clear hL
    have HB3 : Hid (Below w.heap.size w w3) := HB2.out.trans (hb3.mono HB2.out.size)
    have hO3 : OwnS w3 w1.heap.size v (linesL zs) := World.ownsRow.kept HO.out (row := none) ⟨hb3.os, hb3.tape, hb3.output, hb3.size, fun k hk _ => hb3.block k hk⟩ (Classical.em _)
    clear hb3
    obtain ⟨A3, c3, rfl, hcap, hcc⟩ := hO3.form
    have hlen := linesL_len zs
    rw [hl.out] at hlen
    have J : Calls Tryz.prog 159 #[.slice A3 (linesL zs).length c3, .string ⟨#[]⟩] w3 fun e w' => e = .returned (.string (bodyB zs)) ∧ Below w3.heap.size w3 w' := by
      rcases Nat.eq_zero_or_pos (linesL zs).length with h0 | hpos
      · rw [h0]
        refine (Tryz.strings_Join_none A3 c3 ⟨#[]⟩ w3).mono ?_
        rintro e w' ⟨rfl, rfl⟩
        refine ⟨?_, Below.refl _ _⟩
        have : linesL zs = [] := List.eq_nil_of_length_eq_zero h0
        unfold bodyB
        rw [this]
        rfl
      · obtain ⟨g, rfl, hg, hcc⟩ := hcc hpos
        refine (Tryz.strings_Join g 0 c3 (linesL zs) ⟨#[]⟩ w3 (fun i x hx => hcc i x hx) hg (by omega) hcap ?_).mono (fun e w' h => h)
        have := bodyB_size zs HV.out
        have e : (bodyB zs).size = (Lib.join ((linesL zs).map (·.data.toList)) []).length := by simp [bodyB, ByteArray.size]
        show (Lib.join ((linesL zs).map (·.data.toList)) []).length ≤ _
        omega
    have HJ := Lib.hid J
    have HLN := Lib.hid hlen
    clear J hcc hcap hlen
    go_wp2_with fail
    refine HJ.out.mono ?_
    rintro e w4 ⟨rfl, hb4⟩
    have HB4 : Hid (Below w.heap.size w w4) := HB3.out.trans (hb4.mono HB3.out.size)
    clear hb4
    have k1 : ∀ w', (Op.stringOp .add L (bodyB zs)).run Tryz.prog w' = .ok (.string s) w' := fun w' => Eq.trans (run_string_add_sum w' _ _ (by
      rw [HL.out]
      have := bodyB_size zs HV.out
      have h2 := lineB_len countB n (by omega) (by omega) (by decide)
      have e2 : (lineB countB n).data.toList.length = (lineB countB n).size := rfl
      omega)) (by rw [HS.out, HL.out]; unfold fullB; rw [hl.out])
    by_cases hlong : 4096 < s.size
    · have R1 := Lib.hid (R1.out.trans (if_pos hlong))
      have R2 := Lib.hid (R2.out.trans (if_pos hlong))
      have hd : decide ((4096 : Int) < (s.size : Int)) = true := by simp; omega
      go_wp2
      go_ret2
      exact ⟨ret_str2 R2.out.symm R1.out.symm, HB4.out⟩
    · have R1 := Lib.hid (R1.out.trans (if_neg hlong))
      have R2 := Lib.hid (R2.out.trans (if_neg hlong))
      have hd : decide ((4096 : Int) < (s.size : Int)) = false := by simp; omega
      go_wp2
      go_ret2
      exact ⟨ret_str2 R2.out.symm R1.out.symm, HB4.out⟩
  · have h1 : (E != 0) = true := by simp [h]
    have r1 : Hid (printErr zs = E) := by show _ = _; unfold printErr; rw [if_neg (by rw [← HE.out]; exact h)]; exact HE.out.symm
    have r2 : Hid (printVal zs = ⟨#[]⟩) := by show _ = _; unfold printVal; rw [if_neg (by rw [← HE.out]; exact h)]
    rw [r1.out, r2.out]
    clear h
    go_enter Tryz.func92, Tryz.ntmps92
    go_wp2_with fail
    refine (checkEnergies_any A n c zs w hn HZ.out).mono ?_
    rw [← HE.out]
    rintro e w1 ⟨rfl, hb⟩
    have HB := Lib.hid hb
    clear hb
    go_wp2
    go_ret2
    exact ⟨rfl, HB.out⟩
end Go.Proofs.YtiglfpgigdclgaaGreatDoor
