/- The reading of strings: Split, SplitAfter, the words of a line. -/
import Derived.Test.YtoipafnlcchmbaaGreatDoorQKx
import Derived.Test.YtoipafnlcchmbaaGreatDoorQO
import Derived.Test.YtoipafnlcchmbaaGreatDoorQB
import Derived.Test.YtoipafnlcchmbaaGreatDoorQA
namespace Go.Proofs.YtoipafnlcchmbaaGreatDoor
open Go.RowKit Go.Sort

theorem indexByte_one (b : UInt8) (l : List UInt8) : Lib.indexByte l b = Lib.index l [b] := by
  induction l with
  | nil => unfold Lib.indexByte Lib.index; simp
  | cons c l ih =>
    unfold Lib.indexByte Lib.index
    rw [ih]
    by_cases h : c = b
    · subst h; simp
    · have h1 : (c == b) = false := beq_eq_false_iff_ne.2 h
      have h2 : ([b].isPrefixOf (c :: l)) = false := by simp [List.isPrefixOf, Ne.symm h]
      rw [h1, h2]
/-- The pieces, each with sv bytes of its end. -/
def sepL (b : UInt8) (sv : Nat) (s : ByteArray) : List ByteArray := ((cutSt b s.data.toList).1.map (fun p => p ++ [b].take sv) ++ [(cutSt b s.data.toList).2]).map fun l => (⟨l.toArray⟩ : ByteArray)
theorem sepL_len (b : UInt8) (sv : Nat) (s : ByteArray) : (sepL b sv s).length = (cutSt b s.data.toList).1.length + 1 := by simp [sepL]
theorem sepL_le (b : UInt8) (sv : Nat) (s : ByteArray) : (sepL b sv s).length ≤ s.size + 1 := by
  rw [sepL_len]
  have h := Lib.countB_le ⟨#[b]⟩ (Nat.le_refl 1) s.size s (Nat.le_refl _)
  rw [countB_cuts] at h
  omega
theorem genSplit_one (b : UInt8) (sv : Nat) (hsv : sv ≤ 1) (s : ByteArray) (w : World) (hs : s.size < 4294967281) :
    Calls Tryz.prog 227 #[.string s, .string ⟨#[b]⟩, .int .i64 sv, .int .i64 (-1)] w fun e w' =>
      e = .returned (.slice (some ⟨w.heap.size, 0, none⟩) (sepL b sv s).length (sepL b sv s).length) ∧ w' = w.alloc (.cells ((sepL b sv s).map Value.string).toArray 9) := by
  have hle := Lib.countB_le ⟨#[b]⟩ (Nat.le_refl 1) s.size s (Nat.le_refl _)
  have e1 := splitB_cuts b sv hsv s
  have e2 : (sepL b sv s).length = Lib.countB s ⟨#[b]⟩ + 1 := by rw [sepL_len, countB_cuts]
  have c := Any.strings_genSplit_core Tryz.lays221 (by kernel_rfl) s ⟨#[b]⟩ sv (-1) (Lib.countB s ⟨#[b]⟩ + 1) w hs (Nat.le_refl 1) hsv
    (fun x c _ => (Tryz.strings_Index_one x b _).mono (fun e w' h => ⟨by
      rw [h.1]
      show _ = Ending.returned (Value.int .i64 (Lib.index x.data.toList [b]))
      rw [indexByte_one], h.2⟩))
    ((Tryz.strings_Count_one s b w).mono (fun e w' h => ⟨by
      rw [h.1]
      show _ = Ending.returned (Value.int .i64 ((Lib.count s.data.toList [b] : Nat) : Int))
      rw [Lib.count_one]
      rfl, h.2⟩))
    (by decide) (by decide) (by rw [if_pos (by decide)]; omega)
  rw [Nat.add_sub_cancel, e1] at c
  have e3 : ((cutSt b s.data.toList).1.map (fun p => p ++ [b].take sv) ++ [(cutSt b s.data.toList).2]).map (fun l => (⟨l.toArray⟩ : ByteArray)) = sepL b sv s := rfl
  rw [e3, ← e2, Lib.cellsOf_full] at c
  exact c
set_option maxHeartbeats 1000000 in
theorem split_one (b : UInt8) (s : ByteArray) (w : World) (hs : s.size < 4294967281) :
    Calls Tryz.prog 220 #[.string s, .string ⟨#[b]⟩] w fun e w' =>
      e = .returned (.slice (some ⟨w.heap.size, 0, none⟩) (sepL b 0 s).length (sepL b 0 s).length) ∧ w' = w.alloc (.cells ((sepL b 0 s).map Value.string).toArray 9) := by
  have H := Lib.hid (genSplit_one b 0 (by omega) s w hs)
  obtain ⟨L, hL⟩ : ∃ L, L = sepL b 0 s := ⟨_, rfl⟩
  rw [← hL] at H ⊢
  clear hL hs
  go_enter Tryz.func220, Tryz.ntmps220
  go_wp2_with fail
  refine H.out.mono ?_
  rintro e w' ⟨rfl, rfl⟩
  go_wp2
  go_ret
  exact ⟨rfl, rfl⟩
set_option maxHeartbeats 1000000 in
theorem splitAfter_one (b : UInt8) (s : ByteArray) (w : World) (hs : s.size < 4294967281) :
    Calls Tryz.prog 218 #[.string s, .string ⟨#[b]⟩] w fun e w' =>
      e = .returned (.slice (some ⟨w.heap.size, 0, none⟩) (sepL b 1 s).length (sepL b 1 s).length) ∧ w' = w.alloc (.cells ((sepL b 1 s).map Value.string).toArray 9) := by
  have H := Lib.hid (genSplit_one b 1 (by omega) s w hs)
  obtain ⟨L, hL⟩ : ∃ L, L = sepL b 1 s := ⟨_, rfl⟩
  rw [← hL] at H ⊢
  have e1 : (⟨#[b]⟩ : ByteArray).size = 1 := rfl
  clear hL hs
  go_enter Tryz.func218, Tryz.ntmps218
  go_wp2_with fail
  refine H.out.mono ?_
  rintro e w' ⟨rfl, rfl⟩
  go_wp2
  go_ret
  exact ⟨rfl, rfl⟩
theorem strsAt_new (w : World) (l : List ByteArray) (T : TypeId) : StrsAt (w.alloc (.cells (l.map Value.string).toArray T)) (some ⟨w.heap.size, 0, none⟩) l.length l :=
  ⟨rfl, fun _ => ⟨w.heap.size, 0, rfl, by simp, fun i x hx => by
    have := (Blk.new w T (l.map Value.string).toArray).cell i
    rw [Nat.zero_add, this, List.getElem?_toArray, List.getElem?_map, hx]
    rfl⟩⟩

theorem StrsAt.set {w : World} {g o : Nat} {n : Nat} {l : List ByteArray} (h : StrsAt w (some ⟨g, o, none⟩) n l) {p : Addr} (hp : g ≠ p.block) (u : Value) : StrsAt (w.setCell p u) (some ⟨g, o, none⟩) n l := by
  refine ⟨h.1, fun hn => ?_⟩
  obtain ⟨g', o', e, hg, hc⟩ := h.2 hn
  have e := Option.some.inj e
  injection e with e1 e2 e3
  subst e1 e2
  refine ⟨g, o, rfl, by simpa using hg, fun i x hx => ?_⟩
  rw [World.cell?_setCell_other w p _ u (fun e => hp (by rw [e]))]
  exact hc i x hx
/-- A line's bytes without their end, and whether they have one. -/
def lineBd (s : ByteArray) : ByteArray := if s.data.toList.getLast? = some 10 then ⟨s.data.toList.dropLast.toArray⟩ else s
def endedB (s : ByteArray) : Bool := s.data.toList.getLast? == some 10
theorem suffix_one (b : UInt8) (l : List UInt8) : Lib.hasSuffix l [b] = (l.getLast? == some b) := by
  rw [Bool.eq_iff_iff]
  unfold Lib.hasSuffix
  rw [List.isSuffixOf_iff_suffix, beq_iff_eq]
  constructor
  · rintro ⟨p, rfl⟩; simp
  · intro h
    obtain ⟨p, rfl⟩ := List.getLast?_eq_some_iff.1 h
    exact ⟨p, rfl⟩
theorem trim_one (s : ByteArray) : (⟨(Lib.trimSuffix s.data.toList [10]).toArray⟩ : ByteArray) = lineBd s ∧ Lib.hasSuffix s.data.toList [10] = endedB s := by
  refine ⟨?_, suffix_one 10 _⟩
  unfold Lib.trimSuffix lineBd
  rw [suffix_one]
  by_cases h : s.data.toList.getLast? = some 10
  · rw [if_pos (by simpa using h), if_pos h, List.dropLast_eq_take]
    rfl
  · rw [if_neg (by simpa using h), if_neg h]
theorem lineBd_le (s : ByteArray) : (lineBd s).size ≤ s.size := by
  unfold lineBd
  split
  · show (s.data.toList.dropLast.toArray).size ≤ s.data.size
    simp
  · exact Nat.le_refl _
set_option maxHeartbeats 2000000 in
theorem wordsOf_any (s : ByteArray) (w : World) (hs : s.size ≤ 100000) :
    Calls Tryz.prog 208 #[.string s] w fun e w' => ∃ g, w.heap.size ≤ g ∧ e = .returned (.tuple #[.agg #[.slice (some ⟨g, 0, none⟩) (sepL 32 0 (lineBd s)).length (sepL 32 0 (lineBd s)).length], .bool (endedB s)]) ∧ StrsAt w' (some ⟨g, 0, none⟩) (sepL 32 0 (lineBd s)).length (sepL 32 0 (lineBd s)) ∧ Below w.heap.size w w' := by
  obtain ⟨t1, t2⟩ := trim_one s
  have hle := lineBd_le s
  have HC := fun w => Lib.hid (Tryz.strings_CutSuffix s ⟨#[10]⟩ w (by omega))
  have e10 : (ByteArray.mk #[10]).data.toList = [10] := rfl
  rw [e10, t1, t2] at HC
  obtain ⟨B, hB⟩ : ∃ B, B = lineBd s := ⟨_, rfl⟩
  obtain ⟨E, hE⟩ : ∃ E, E = endedB s := ⟨_, rfl⟩
  rw [← hB] at HC hle ⊢
  rw [← hE] at HC ⊢
  have HSP := fun w => Lib.hid (split_one 32 B w (by omega))
  obtain ⟨L, hL⟩ : ∃ L, L = sepL 32 0 B := ⟨_, rfl⟩
  rw [← hL] at HSP ⊢
  clear t1 t2 hle e10 hB hE hL hs
  go_enter Tryz.func208, Tryz.ntmps208
  go_wp2_with fail
  refine (HC _).out.mono ?_
  rintro e w' ⟨rfl, rfl⟩
  go_wp2_with fail
  refine (HSP _).out.mono ?_
  rintro e w' ⟨rfl, rfl⟩
  go_wp2
  refine bodyPost_ret (v := .tuple #[.agg #[.slice (some ⟨w.heap.size + 1, 0, none⟩) L.length L.length], .bool E]) (by simp [results, Tryz.results208, go_sem]) rfl ⟨w.heap.size + 1, by omega, rfl, ?_, ?_⟩
  · simpa using strsAt_new (w.alloc (.cells #[.slice (some ⟨w.heap.size + 1, 0, none⟩) L.length L.length] 296)) L 9
  · exact ((Below.refl _ w).alloc (Nat.le_refl _) _).alloc (by simp) _

/-- The words that are left, in their box. -/
def WordsAt (w : World) (bx g o n : Nat) (l : List ByteArray) : Prop := Blk w bx 296 #[.slice (some ⟨g, o, none⟩) n n] ∧ StrsAt w (some ⟨g, o, none⟩) n l ∧ g ≠ bx
set_option maxHeartbeats 1000000 in
theorem left_any (bx g o n : Nat) (l : List ByteArray) (w : World) (h : WordsAt w bx g o n l) :
    Calls Tryz.prog 221 #[.pointer (some ⟨bx, 0, none⟩)] w fun e w' => e = .returned (.int .i64 n) ∧ w = w' := by
  have hc := h.1.cell 0
  simp only [List.getElem?_toArray, List.getElem?_cons_zero] at hc
  clear h
  go_enter Tryz.func221, Tryz.ntmps221
  go_wp2
  go_ret
  exact ⟨rfl, rfl⟩
def nxO (o n : Nat) : Nat := if n = 0 then o else o + 1
theorem WordsAt.nxt {w : World} {bx g o n : Nat} {x : ByteArray} {l : List ByteArray} (h : WordsAt w bx g o (n + 1) (x :: l)) : WordsAt (w.setCell ⟨bx, 0, none⟩ (.slice (some ⟨g, nxO o n, none⟩) n n)) bx g (nxO o n) n l := by
  obtain ⟨h1, h2, h3⟩ := h
  have h4 := h2.set (p := ⟨bx, 0, none⟩) h3 (.slice (some ⟨g, nxO o n, none⟩) n n)
  refine ⟨h1.set_ 0 _, ⟨by have := h4.1; simpa using this, fun hn => ?_⟩, h3⟩
  obtain ⟨g', o', e, hg, hx⟩ := h4.2 (by omega)
  have e := Option.some.inj e
  injection e with e1 e2 e3
  subst e1 e2
  refine ⟨g, nxO o n, rfl, hg, fun i y hy => ?_⟩
  have := hx (i + 1) y (by simpa using hy)
  have e0 : nxO o n + i = o + (i + 1) := by
    rw [show nxO o n = o + 1 from if_neg (by omega)]
    omega
  rw [e0]
  exact this
set_option maxHeartbeats 1000000 in
theorem next_any (bx g o n : Nat) (x : ByteArray) (l : List ByteArray) (w : World) (hn : n ≤ 1000000) (h : WordsAt w bx g o (n + 1) (x :: l)) :
    Calls Tryz.prog 209 #[.pointer (some ⟨bx, 0, none⟩)] w fun e w' => e = .returned (.string x) ∧ w' = w.setCell ⟨bx, 0, none⟩ (.slice (some ⟨g, nxO o n, none⟩) n n) := by
  have hc := h.1.cell 0
  have hf := h.1.frozen 0
  simp only [List.getElem?_toArray, List.getElem?_cons_zero] at hc
  obtain ⟨g', o', e, hg, hx⟩ := h.2.1.2 (by omega)
  have e := Option.some.inj e
  injection e with e1 e2 e3
  subst e1 e2
  have hx0 := hx 0 x rfl
  rw [Nat.add_zero] at hx0
  clear h hx e3
  rcases Nat.eq_zero_or_pos n with h0 | h0
  · subst h0
    have e0 : nxO o 0 = o := rfl
    rw [e0]
    clear e0
    go_enter Tryz.func209, Tryz.ntmps209
    go_wp2
    go_ret
    exact ⟨rfl, rfl⟩
  · have hne : ¬ ((n : Int) + 1 = 1) := by omega
    have e0 : nxO o n = o + 1 := if_neg (by omega)
    rw [e0]
    clear e0
    go_enter Tryz.func209, Tryz.ntmps209
    go_wp2
    go_ret
    exact ⟨rfl, rfl⟩

/-- The integer of a word. -/
def intV (k : Nat) (s : ByteArray) : Int := if digB k s.data.toList = true then digV s.data.toList else 0
theorem ret_ib {a b : Int} {p q : Bool} (h : a = b) (h2 : p = q) : Ending.returned (.tuple #[.int .i64 a, .bool p]) = .returned (.tuple #[.int .i64 b, .bool q]) := by rw [h, h2]
theorem digB_no {k : Nat} {s : ByteArray} (h : digB k s.data.toList = false) : intV k s = 0 := by unfold intV; rw [if_neg (by rw [h]; simp)]
theorem get_list (s : ByteArray) (i : Nat) (h : i < s.size) : s.data.toList[i]? = some (s[i]'h) := by
  rw [List.getElem?_eq_getElem (by exact h)]
  rfl
theorem dig_at {s : ByteArray} {i : Nat} (h : i < s.size) : isDig (s[i]'h) = true ↔ 48 ≤ (s[i]'h).toNat ∧ (s[i]'h).toNat ≤ 57 := by
  constructor
  · exact dig_of
  · intro hh
    unfold isDig
    simp only [Bool.and_eq_true, decide_eq_true_eq, UInt8.le_iff_toNat_le]
    exact hh
theorem digB_bad {k : Nat} {s : ByteArray} (i : Nat) (h : i < s.size) (hb : ¬ (48 ≤ (s[i]'h).toNat ∧ (s[i]'h).toNat ≤ 57)) : digB k s.data.toList = false := by
  rw [Bool.eq_false_iff]
  intro hd
  have := digB_digs hd (s[i]'h) (List.mem_of_getElem? (get_list s i h))
  exact hb ((dig_at h).1 this)
theorem digB_good {k : Nat} {s : ByteArray} (h0 : s.size ≠ 0) (hk : s.size ≤ k) (hz : ∀ h : 0 < s.size, (s[0]'h).toNat = 48 → s.size = 1) (hg : ∀ i (h : i < s.size), 48 ≤ (s[i]'h).toNat ∧ (s[i]'h).toNat ≤ 57) : digB k s.data.toList = true := by
  have hl : s.data.toList.length = s.size := rfl
  unfold digB
  simp only [Bool.and_eq_true, decide_eq_true_eq, Bool.not_eq_true', List.isEmpty_eq_false_iff, List.all_eq_true]
  refine ⟨⟨⟨fun e => h0 (by rw [← hl, e]; rfl), by omega⟩, ?_⟩, ?_⟩
  · rw [Bool.eq_false_iff]
    intro h
    simp only [Bool.and_eq_true, decide_eq_true_eq, beq_iff_eq] at h
    have hp : 0 < s.size := by omega
    have e : s.data.toList.head? = some (s[0]'hp) := by
      rw [← get_list s 0 hp, List.head?_eq_getElem?]
    rw [e] at h
    have := hz hp (by rw [Option.some.inj h.2]; rfl)
    omega
  · intro c hc
    obtain ⟨i, hi, rfl⟩ := List.getElem_of_mem hc
    exact (dig_at (s := s) (i := i) hi).2 (hg i hi)
theorem digV_take (s : ByteArray) (i : Nat) (h : i < s.size) : digV (s.data.toList.take (i + 1)) = 10 * digV (s.data.toList.take i) + (((s[i]'h).toNat : Int) - 48) := by
  rw [List.take_succ_eq_append_getElem (by exact h), digV_snoc]
  rfl
theorem digV_take_bd (s : ByteArray) (i : Nat) (hi : i ≤ s.size) (h18 : s.size ≤ 18) (hg : ∀ j (h : j < s.size), j < i → 48 ≤ (s[j]'h).toNat ∧ (s[j]'h).toNat ≤ 57) : 0 ≤ digV (s.data.toList.take i) ∧ digV (s.data.toList.take i) < 1000000000000000000 := by
  have h1 := digV_bd (s.data.toList.take i) (fun c hc => by
    obtain ⟨j, hj, rfl⟩ := List.getElem_of_mem hc
    rw [List.length_take] at hj
    have hl : s.data.toList.length = s.size := rfl
    have hj2 : j < s.size := by omega
    have := (dig_at hj2).2 (hg j hj2 (by omega))
    rw [List.getElem_take]
    exact this)
  have h2 : (s.data.toList.take i).length ≤ 18 := by rw [List.length_take]; omega
  have : (10 : Int) ^ (s.data.toList.take i).length ≤ 10 ^ 18 := by
    have := Nat.pow_le_pow_right (n := 10) (by omega) h2
    exact_mod_cast this
  have e : (10 : Int) ^ 18 = 1000000000000000000 := by decide
  omega

set_option maxHeartbeats 4000000 in
set_option maxRecDepth 100000 in
theorem integer_any (s : ByteArray) (k : Nat) (w : World) (hk : k ≤ 18) (hs : s.size ≤ 100000) :
    Calls Tryz.prog 199 #[.string s, .int .i64 k] w fun e w' => e = .returned (.tuple #[.int .i64 (intV k s), .bool (digB k s.data.toList)]) ∧ Below w.heap.size w w' := by
  obtain ⟨D, hD⟩ : ∃ D, D = digB k s.data.toList := ⟨_, rfl⟩
  obtain ⟨V, hV⟩ : ∃ V, V = intV k s := ⟨_, rfl⟩
  rw [← hD, ← hV]
  have HNO : Hid (digB k s.data.toList = false → V = 0 ∧ D = false) := fun h => ⟨hV.trans (digB_no h), hD.trans h⟩
  have HD := Lib.hid hD
  have HV := Lib.hid hV
  clear hD hV
  by_cases h0 : s.size = 0
  · have H := Lib.hid (HNO.out (by unfold digB; rw [List.eq_nil_of_length_eq_zero (l := s.data.toList) h0]; rfl))
    have he : s.toList = [] := empty_toList h0
    clear h0 hs
    go_enter Tryz.func199, Tryz.ntmps199
    go_wp2
    go_ret2
    exact ⟨ret_ib H.out.1.symm H.out.2.symm, Below.refl _ _⟩
  · have hne : s.toList.isEmpty = false := nonempty_toList h0
    by_cases h1 : k < s.size
    · have H := Lib.hid (HNO.out (by rw [Bool.eq_false_iff]; intro hd; have := digB_len hd; have e : s.data.toList.length = s.size := rfl; omega))
      have hd : decide ((k : Int) < (s.size : Int)) = true := by simp; omega
      go_enter Tryz.func199, Tryz.ntmps199
      go_wp2
      go_ret2
      exact ⟨ret_ib H.out.1.symm H.out.2.symm, Below.refl _ _⟩
    · have hd : decide ((k : Int) < (s.size : Int)) = false := by simp; omega
      have hp : 0 < s.size := by omega
      have hz48 : (s.toList == [48]) = true → s.size = 1 ∧ (s[0]'hp).toNat = 48 := by
        intro h
        have h := beq_iff_eq.1 h
        rw [ByteArray.toList_eq] at h
        have hl : s.data.toList.length = s.size := rfl
        have hg := get_list s 0 hp
        rw [h] at hg hl
        have := Option.some.inj hg
        exact ⟨hl.symm, by rw [← this]; rfl⟩
      by_cases hbad : (s[0]'hp).toNat = 48 ∧ s.size ≠ 1
      · obtain ⟨h48, hs1⟩ := hbad
        have H := Lib.hid (HNO.out (by
          rw [Bool.eq_false_iff]
          intro hd
          unfold digB at hd
          simp only [Bool.and_eq_true, decide_eq_true_eq, Bool.not_eq_true'] at hd
          have e : s.data.toList.head? = some 48 := by
            rw [List.head?_eq_getElem?, get_list s 0 hp]
            exact congrArg some (UInt8.toNat_inj.1 (by rw [h48]; rfl))
          have hl : s.data.toList.length = s.size := rfl
          have := hd.1.2
          rw [e] at this
          simp at this
          omega))
        have e48 : (((s[0]'hp).toNat : Int) == 48) = true := by rw [h48]; rfl
        have eS : (s.toList == [48]) = false := by
          rw [Bool.eq_false_iff]
          intro h
          exact hs1 (hz48 h).1
        clear HNO hz48 hs1 h48
        go_enter Tryz.func199, Tryz.ntmps199
        go_wp2
        go_ret2
        exact ⟨ret_ib H.out.1.symm H.out.2.symm, Below.refl _ _⟩
      · have HB : Hid (∀ h : 0 < s.size, (s[0]'h).toNat = 48 → s.size = 1) := by
          show ∀ h : 0 < s.size, _
          intro h e
          by_cases e1 : s.size = 1
          · exact e1
          · exact absurd ⟨e, e1⟩ hbad
        have e48 : ((((s[0]'hp).toNat : Int) == 48) = true ∧ (s.toList == [48]) = true) ∨ (((s[0]'hp).toNat : Int) == 48) = false := by
          by_cases e : (s[0]'hp).toNat = 48
          · refine Or.inl ⟨by rw [e]; rfl, ?_⟩
            have h1 := HB.out hp e
            rw [beq_iff_eq, ByteArray.toList_eq]
            have hl : s.data.toList.length = 1 := h1
            obtain ⟨x, hx⟩ := List.length_eq_one_iff.1 hl
            have hg := get_list s 0 hp
            rw [hx] at hg ⊢
            have := Option.some.inj hg
            rw [this]
            exact congrArg (fun c => [c]) (UInt8.toNat_inj.1 (by rw [e]; rfl))
          · exact Or.inr (beq_eq_false_iff_ne.2 (by omega))
        have h18 : s.size ≤ 18 := by omega
        clear hz48 hbad
        rcases e48 with ⟨e48, eS⟩ | e48
        all_goals
          go_enter Tryz.func199, Tryz.ntmps199
          go_wp2
          clear e48 hne hd
          try clear eS
          go_loopw [6, 8] (fun n _ wr => ∃ pos : Nat, pos ≤ s.size ∧ wr = w.iter s pos ∧ n = .int .i64 (digV (s.data.toList.take pos)) ∧ Hid (∀ j (h : j < s.size), j < pos → 48 ≤ (s[j]'h).toNat ∧ (s[j]'h).toNat ≤ 57)) (fun _ _ wr => s.size - wr.iterPos w.heap.size)
          case atStart => exact ⟨0, Nat.zero_le _, rfl, rfl, fun j h hj => by omega⟩
          case round =>
            obtain ⟨pos, hpos, rfl, rfl, hz⟩ := hrel
            by_cases hp2 : pos < s.size
            · obtain ⟨b, hb⟩ : ∃ b, b = (s[pos]'hp2).toNat := ⟨_, rfl⟩
              have hb256 : b < 256 := by rw [hb]; exact (s[pos]'hp2).toNat_lt
              by_cases hdg : 48 ≤ b ∧ b ≤ 57
              · obtain ⟨d1, d2⟩ := hdg
                have hnx : ∀ ty, (Instr.next (.pointer (some ⟨w.heap.size, 0, none⟩)) true ty).run Tryz.prog (w.iter s pos) = .ok (.tuple #[.bool true, .int .i64 pos, .int .i32 b]) (w.iter s (pos + 1)) := fun ty => by
                  rw [hb]; exact run_next_ascii w s pos ty hp2 (by rw [← hb]; omega)
                have good : Hid (∀ j (h : j < s.size), j < pos + 1 → 48 ≤ (s[j]'h).toNat ∧ (s[j]'h).toNat ≤ 57) := by
                  show ∀ j (h : j < s.size), _
                  intro j h hj
                  by_cases hjp : j < pos
                  · exact hz.out j h hjp
                  · obtain rfl : j = pos := by omega
                    rw [← hb]; exact ⟨d1, d2⟩
                have hbd := digV_take_bd s (pos + 1) (by omega) h18 good.out
                have hbd0 := digV_take_bd s pos (by omega) h18 hz.out
                have hst := digV_take s pos hp2
                rw [← hb] at hst
                obtain ⟨N, hN⟩ : ∃ N, N = digV (s.data.toList.take pos) := ⟨_, rfl⟩
                rw [← hN] at hst hbd0 ⊢
                have HST := Lib.hid hst
                obtain ⟨n0, _⟩ := hbd0
                have n1 : N ≤ 100000000000000000 := by omega
                clear hb hz hst hbd hN
                go_wp2
                go_roundw
                case rel => exact ⟨pos + 1, by omega, rfl, by rw [HST.out], good⟩
                case measure => simp; omega
              · have bad : Hid (V = 0 ∧ D = false) := HNO.out (digB_bad pos hp2 (by rw [← hb]; exact hdg))
                by_cases ha : b < 128
                · have hnx : ∀ ty, (Instr.next (.pointer (some ⟨w.heap.size, 0, none⟩)) true ty).run Tryz.prog (w.iter s pos) = .ok (.tuple #[.bool true, .int .i64 pos, .int .i32 b]) (w.iter s (pos + 1)) := fun ty => by
                    rw [hb]; exact run_next_ascii w s pos ty hp2 (by rw [← hb]; omega)
                  clear hb hz
                  rcases (show b < 48 ∨ 57 < b by omega) with hr | hr
                  · have t1 : decide ((b : Int) < 48) = true := by simp; omega
                    go_wp2
                    go_ret2
                    exact ⟨ret_ib bad.out.1.symm bad.out.2.symm, (Below.refl _ _).alloc (Nat.le_refl _) _⟩
                  · have t1 : decide ((b : Int) < 48) = false := by simp; omega
                    have t2 : decide ((57 : Int) < (b : Int)) = true := by simp; omega
                    go_wp2
                    go_ret2
                    exact ⟨ret_ib bad.out.1.symm bad.out.2.symm, (Below.refl _ _).alloc (Nat.le_refl _) _⟩
                · have hdc := decode_high s pos hp2 (by rw [← hb]; omega)
                  have hnx : ∀ ty, (Instr.next (.pointer (some ⟨w.heap.size, 0, none⟩)) true ty).run Tryz.prog (w.iter s pos) = _ := fun ty => run_next_any w s pos ty hp2
                  clear hb hz
                  obtain ⟨r, hr⟩ : ∃ r, r = (Utf8.decode s pos).1 := ⟨_, rfl⟩
                  rw [← hr] at hnx hdc
                  have hd1 : 128 ≤ r := hdc.1
                  clear hr hdc
                  have t1 : decide ((r : Int) < 48) = false := by simp; omega
                  have t2 : decide ((57 : Int) < (r : Int)) = true := by simp; omega
                  go_wp2
                  go_ret2
                  exact ⟨ret_ib bad.out.1.symm bad.out.2.symm, (Below.refl _ _).alloc (Nat.le_refl _) _⟩
            · have hnx : ∀ ty, (Instr.next (.pointer (some ⟨w.heap.size, 0, none⟩)) true ty).run Tryz.prog (w.iter s pos) = _ := fun ty => run_next_end w s pos ty hp2
              have e1 : digB k s.data.toList = true := digB_good h0 (by omega) HB.out (fun i h => hz.out i h (by omega))
              have HE : Hid (V = digV (s.data.toList.take pos) ∧ D = true) := by
                show _ ∧ _
                refine ⟨?_, HD.out.trans e1⟩
                rw [HV.out]
                unfold intV
                rw [if_pos e1, List.take_of_length_le (show s.data.toList.length ≤ pos from by have e : s.data.toList.length = s.size := rfl; omega)]
              clear hz e1
              go_wp2
              go_ret2
              exact ⟨ret_ib HE.out.1.symm HE.out.2.symm, (Below.refl _ _).alloc (Nat.le_refl _) _⟩
end Go.Proofs.YtoipafnlcchmbaaGreatDoor
