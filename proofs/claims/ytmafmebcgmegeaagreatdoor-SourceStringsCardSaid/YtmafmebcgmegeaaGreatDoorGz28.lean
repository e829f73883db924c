/- Part. -/
import Derived.Test.YtmafmebcgmegeaaGreatDoorGz22
import Derived.Test.YtmafmebcgmegeaaGreatDoorGz27
import Derived.Test.YtmafmebcgmegeaaGreatDoorGz1
namespace Go.Proofs.YtmafmebcgmegeaaGreatDoor
open Go.RowKit Go.Sort
theorem indexByte_one (b : UInt8) (l : List UInt8) : Lib.indexByte l b = Lib.index l [b] := by
 induction l with
 | nil => unfold Lib.indexByte Lib.index; simp
 | cons c l ih =>
   unfold Lib.indexByte Lib.index; rw [ih]
   by_cases h : c = b
   ·subst h; simp
   ·have h1 : (c == b) = false := beq_eq_false_iff_ne.2 h; have h2 : ([b].isPrefixOf (c :: l)) = false := by simp [List.isPrefixOf, Ne.symm h]
    rw [h1, h2]
def sepL (b : UInt8) (sv : Nat) (s : ByteArray) : List ByteArray := ((cutSt b s.data.toList).1.map (fun p => p ++ [b].take sv) ++ [(cutSt b s.data.toList).2]).map fun l => (⟨l.toArray⟩ : ByteArray)
theorem sepL_len (b : UInt8) (sv : Nat) (s : ByteArray) : (sepL b sv s).length = (cutSt b s.data.toList).1.length + 1 := by simp [sepL]
theorem sepL_le (b : UInt8) (sv : Nat) (s : ByteArray) : (sepL b sv s).length <= s.size + 1 := by
 rw [sepL_len]; have h := Lib.countB_le ⟨#[b]⟩ (Nat.le_refl 1) s.size s (Nat.le_refl _); rw [countB_cuts] at h
 omega
theorem genSplit_one (b : UInt8) (sv : Nat) (hsv : sv <= 1) (s : ByteArray) (w : World) (hs : s.size < 4294967281) :
  Calls Tryz.prog 225 #[.string s, .string ⟨#[b]⟩, .int .i64 sv, .int .i64 (-1)] w fun e w' =>
   e = .returned (.slice (some ⟨w.heap.size, 0, none⟩) (sepL b sv s).length (sepL b sv s).length) /\ w' = w.alloc (.cells ((sepL b sv s).map Value.string).toArray 9) := by
 have hle := Lib.countB_le ⟨#[b]⟩ (Nat.le_refl 1) s.size s (Nat.le_refl _); have e1 := splitB_cuts b sv hsv s; have e2 : (sepL b sv s).length = Lib.countB s ⟨#[b]⟩ + 1 := by rw [sepL_len, countB_cuts]
 have c := Any.strings_genSplit_core Tryz.lays221 (by kernel_rfl) s ⟨#[b]⟩ sv (-1) (Lib.countB s ⟨#[b]⟩ + 1) w hs (Nat.le_refl 1) hsv
  (fun x c _ => (Tryz.strings_Index_one x b _).mono (fun e w' h => ⟨by
   rw [h.1]
   show _ = Ending.returned (Value.int .i64 (Lib.index x.data.toList [b]))
   rw [indexByte_one], h.2⟩))
  ((Tryz.strings_Count_one s b w).mono (fun e w' h => ⟨by
    rw [h.1]
    show _ = Ending.returned (Value.int .i64 ((Lib.count s.data.toList [b] : Nat) : Int))
    rw [Lib.count_one]
    rfl, h.2⟩))
  (by decide) (by decide) (by rw [if_pos (by decide)]; omega)
 rw [Nat.add_sub_cancel, e1] at c; have e3 : ((cutSt b s.data.toList).1.map (fun p => p ++ [b].take sv) ++ [(cutSt b s.data.toList).2]).map (fun l => (⟨l.toArray⟩ : ByteArray)) = sepL b sv s := rfl; rw [e3, <- e2, Lib.cellsOf_full] at c; exact c
set_option maxHeartbeats 1000000 in
theorem split_one (b : UInt8) (s : ByteArray) (w : World) (hs : s.size < 4294967281) :
  Calls Tryz.prog 250 #[.string s, .string ⟨#[b]⟩] w fun e w' =>
   e = .returned (.slice (some ⟨w.heap.size, 0, none⟩) (sepL b 0 s).length (sepL b 0 s).length) /\ w' = w.alloc (.cells ((sepL b 0 s).map Value.string).toArray 9) := by
 have H := lh (genSplit_one b 0 (by omega) s w hs); obtain ⟨L, hL⟩ : ∃ L, L = sepL b 0 s := ⟨_, rfl⟩; rw [<- hL] at H ⊢; clear hL hs
 go_enter Tryz.func250, Tryz.ntmps250
 go_wp2_with fail
 refine H.out.mono ?_; rintro e w' ⟨rfl, rfl⟩; go_wp2; go_ret; exact ⟨rfl, rfl⟩
set_option maxHeartbeats 1000000 in
theorem splitAfter_one (b : UInt8) (s : ByteArray) (w : World) (hs : s.size < 4294967281) :
  Calls Tryz.prog 206 #[.string s, .string ⟨#[b]⟩] w fun e w' =>
   e = .returned (.slice (some ⟨w.heap.size, 0, none⟩) (sepL b 1 s).length (sepL b 1 s).length) /\ w' = w.alloc (.cells ((sepL b 1 s).map Value.string).toArray 9) := by
 have H := lh (genSplit_one b 1 (by omega) s w hs); obtain ⟨L, hL⟩ : ∃ L, L = sepL b 1 s := ⟨_, rfl⟩; rw [<- hL] at H ⊢; have e1 : (⟨#[b]⟩ : ByteArray).size = 1 := rfl; clear hL hs
 go_enter Tryz.func206, Tryz.ntmps206
 go_wp2_with fail
 refine H.out.mono ?_; rintro e w' ⟨rfl, rfl⟩; go_wp2; go_ret; exact ⟨rfl, rfl⟩
theorem strsAt_new (w : World) (l : List ByteArray) (T : TypeId) : StrsAt (w.alloc (.cells (l.map Value.string).toArray T)) (some ⟨w.heap.size, 0, none⟩) l.length l :=
 ⟨rfl, fun _ => ⟨w.heap.size, 0, rfl, by simp, fun i x hx => by
  have := (Blk.new w T (l.map Value.string).toArray).cell i; rw [Nat.zero_add, this, List.getElem?_toArray, List.getElem?_map, hx]
  rfl⟩⟩
theorem StrsAt.set {w : World} {g o : Nat} {n : Nat} {l : List ByteArray} (h : StrsAt w (some ⟨g, o, none⟩) n l) {p : Addr} (hp : g ≠ p.block) (u : Value) : StrsAt (w.setCell p u) (some ⟨g, o, none⟩) n l := by
 refine ⟨h.1, fun hn => ?_⟩; obtain ⟨g', o', e, hg, hc⟩ := h.2 hn; have e := Option.some.inj e
 injection e with e1 e2 e3
 subst e1 e2; refine ⟨g, o, rfl, by simpa using hg, fun i x hx => ?_⟩; rw [World.cell?_setCell_other w p _ u (fun e => hp (by rw [e]))]; exact hc i x hx
def lineBd (s : ByteArray) : ByteArray := if s.data.toList.getLast? = some 10 then ⟨s.data.toList.dropLast.toArray⟩ else s
def endedB (s : ByteArray) : Bool := s.data.toList.getLast? == some 10
theorem suffix_one (b : UInt8) (l : List UInt8) : Lib.hasSuffix l [b] = (l.getLast? == some b) := by
 rw [Bool.eq_iff_iff]; unfold Lib.hasSuffix; rw [List.isSuffixOf_iff_suffix, beq_iff_eq]
 constructor
 ·rintro ⟨p, rfl⟩; simp
 ·intro h; obtain ⟨p, rfl⟩ := List.getLast?_eq_some_iff.1 h; exact ⟨p, rfl⟩
theorem trim_one (s : ByteArray) : (⟨(Lib.trimSuffix s.data.toList [10]).toArray⟩ : ByteArray) = lineBd s /\ Lib.hasSuffix s.data.toList [10] = endedB s := by
 refine ⟨?_, suffix_one 10 _⟩; unfold Lib.trimSuffix lineBd; rw [suffix_one]
 by_cases h : s.data.toList.getLast? = some 10
 ·rw [if_pos (by simpa using h), if_pos h, List.dropLast_eq_take]
  rfl
 ·rw [if_neg (by simpa using h), if_neg h]
theorem lineBd_le (s : ByteArray) : (lineBd s).size <= s.size := by
 unfold lineBd
 split
 ·show (s.data.toList.dropLast.toArray).size <= s.data.size
  simp
 ·exact Nat.le_refl _
set_option maxHeartbeats 2000000 in
theorem wordsIn_any (B : ByteArray) (w : World) (hs : B.size <= 100000) :
  Calls Tryz.prog 237 #[.string B] w fun e w' => ∃ g, w.heap.size <= g /\ e = .returned (.agg #[.slice (some ⟨g, 0, none⟩) (sepL 32 0 B).length (sepL 32 0 B).length]) /\ StrsAt w' (some ⟨g, 0, none⟩) (sepL 32 0 B).length (sepL 32 0 B) /\ Below w.heap.size w w' := by
 have HSP := fun w => lh (split_one 32 B w (by omega))
 obtain ⟨L, hL⟩ : ∃ L, L = sepL 32 0 B := ⟨_, rfl⟩; rw [<- hL] at HSP ⊢; clear hL hs
 go_enter Tryz.func237, Tryz.ntmps237
 go_wp2_with fail
 refine (HSP _).out.mono ?_; rintro e w' ⟨rfl, rfl⟩; go_wp2; refine bodyPost_ret (v := .agg #[.slice (some ⟨w.heap.size + 1, 0, none⟩) L.length L.length]) (by simp [results, Tryz.results237, go_sem]) rfl ⟨w.heap.size + 1, by omega, rfl, ?_, ?_⟩
 ·simpa using strsAt_new (w.alloc (.cells #[.slice (some ⟨w.heap.size + 1, 0, none⟩) L.length L.length] 300)) L 9
 ·exact ((Below.refl _ w).alloc (Nat.le_refl _) _).alloc (by simp) _
set_option maxHeartbeats 2000000 in
theorem wordsOf_any (s : ByteArray) (w : World) (hs : s.size <= 100000) :
  Calls Tryz.prog 226 #[.string s] w fun e w' => ∃ g, w.heap.size <= g /\ e = .returned (.tuple #[.agg #[.slice (some ⟨g, 0, none⟩) (sepL 32 0 (lineBd s)).length (sepL 32 0 (lineBd s)).length], .bool (endedB s)]) /\ StrsAt w' (some ⟨g, 0, none⟩) (sepL 32 0 (lineBd s)).length (sepL 32 0 (lineBd s)) /\ Below w.heap.size w w' := by
 obtain ⟨t1, t2⟩ := trim_one s; have hle := lineBd_le s; have HC := fun w => lh (Tryz.strings_CutSuffix s ⟨#[10]⟩ w (by omega))
 have e10 : (ByteArray.mk #[10]).data.toList = [10] := rfl; rw [e10, t1, t2] at HC; obtain ⟨B, hB⟩ : ∃ B, B = lineBd s := ⟨_, rfl⟩; obtain ⟨E, hE⟩ : ∃ E, E = endedB s := ⟨_, rfl⟩; rw [<- hB] at HC hle ⊢; rw [<- hE] at HC ⊢; have HSP := fun w => lh (wordsIn_any B w (by omega))
 obtain ⟨L, hL⟩ : ∃ L, L = sepL 32 0 B := ⟨_, rfl⟩; rw [<- hL] at HSP ⊢; clear t1 t2 hle e10 hB hE hL hs
 go_enter Tryz.func226, Tryz.ntmps226
 go_wp2_with fail
 refine (HC _).out.mono ?_; rintro e w' ⟨rfl, rfl⟩
 go_wp2_with fail
 obtain ⟨w1, hw1⟩ : ∃ W, W = (w.alloc (.cells #[.slice none 0 0] 300)) := ⟨_, rfl⟩; rw [<- hw1]; have B2 : Hid (Blk w1 (w.heap.size) 300 #[.slice none 0 0]) := by show Blk _ _ _ _; rw [hw1]; exact Blk.new _ _ _
 have hb1 : Below w.heap.size w w1 := by rw [hw1]; exact ((Below.refl _ _).alloc (Nat.le_refl _) _)
 obtain ⟨g2, hg2⟩ : ∃ g, g = w.heap.size := ⟨_, rfl⟩; have HGw1 : Hid (g2 = w.heap.size) := hg2; rw [<- hg2] at B2
 try rw [<- hg2]
 clear hw1 hg2; have HB : Hid (Below w.heap.size w w1) := hb1; have HG2 : Hid (w.heap.size <= g2) := by show _ <= _; rw [HGw1.out]; exact Nat.le_refl _
 clear hb1 HGw1; refine (HSP w1).out.mono ?_; rintro e w' ⟨g, hg, rfl, hst, hb⟩; have HST := lh hst; have hlt := lt_of_block B2.out; have hne : Hid (g2 ≠ g /\ w.heap.size <= g) := by show _ /\ _; have := HB.out.size; omega
 replace HB := lh (HB.out.trans (hb.mono HB.out.size)); replace B2 := lh (B2.out.below hb); clear hb; clear hst hlt hg HSP HC; have c0 := B2.out.cell 0; have f0 := B2.out.frozen 0; simp only [List.getElem?_toArray, List.getElem?_cons_zero] at c0; go_wp2; refine bodyPost_ret (v := .tuple #[.agg #[.slice (some ⟨g, 0, none⟩) L.length L.length], .bool E]) (by simp [results, Tryz.results226, go_sem, (B2.out.set_ 0 (.slice (some ⟨g, 0, none⟩) L.length L.length)).cell 0]) rfl ⟨g, hne.out.2, rfl, ?_, ?_⟩
 ·exact HST.out.set (p := ⟨g2, 0, none⟩) (Ne.symm hne.out.1) _
 ·exact HB.out.setCell (p := ⟨g2, 0, none⟩) HG2.out _
def WordsAt (w : World) (bx g o n : Nat) (l : List ByteArray) : Prop := Blk w bx 300 #[.slice (some ⟨g, o, none⟩) n n] /\ StrsAt w (some ⟨g, o, none⟩) n l /\ g ≠ bx
set_option maxHeartbeats 1000000 in
theorem left_any (bx g o n : Nat) (l : List ByteArray) (w : World) (h : WordsAt w bx g o n l) :
  Calls Tryz.prog 251 #[.pointer (some ⟨bx, 0, none⟩)] w fun e w' => e = .returned (.int .i64 n) /\ w = w' := by
 have hc := h.1.cell 0; simp only [List.getElem?_toArray, List.getElem?_cons_zero] at hc; clear h
 go_enter Tryz.func251, Tryz.ntmps251
 go_wp2
 go_ret
 exact ⟨rfl, rfl⟩
def nxO (o n : Nat) : Nat := if n = 0 then o else o + 1
theorem WordsAt.nxt {w : World} {bx g o n : Nat} {x : ByteArray} {l : List ByteArray} (h : WordsAt w bx g o (n + 1) (x :: l)) : WordsAt (w.setCell ⟨bx, 0, none⟩ (.slice (some ⟨g, nxO o n, none⟩) n n)) bx g (nxO o n) n l := by
 obtain ⟨h1, h2, h3⟩ := h; have h4 := h2.set (p := ⟨bx, 0, none⟩) h3 (.slice (some ⟨g, nxO o n, none⟩) n n); refine ⟨h1.set_ 0 _, ⟨by have := h4.1; simpa using this, fun hn => ?_⟩, h3⟩; obtain ⟨g', o', e, hg, hx⟩ := h4.2 (by omega); have e := Option.some.inj e
 injection e with e1 e2 e3
 subst e1 e2; refine ⟨g, nxO o n, rfl, hg, fun i y hy => ?_⟩; have := hx (i + 1) y (by simpa using hy)
 have e0 : nxO o n + i = o + (i + 1) := by
  rw [show nxO o n = o + 1 from if_neg (by omega)]
  omega
 rw [e0]; exact this
set_option maxHeartbeats 1000000 in
theorem next_any (bx g o n : Nat) (x : ByteArray) (l : List ByteArray) (w : World) (hn : n <= 1000000) (h : WordsAt w bx g o (n + 1) (x :: l)) :
  Calls Tryz.prog 227 #[.pointer (some ⟨bx, 0, none⟩)] w fun e w' => e = .returned (.string x) /\ w' = w.setCell ⟨bx, 0, none⟩ (.slice (some ⟨g, nxO o n, none⟩) n n) := by
 have hc := h.1.cell 0; have hf := h.1.frozen 0; simp only [List.getElem?_toArray, List.getElem?_cons_zero] at hc; obtain ⟨g', o', e, hg, hx⟩ := h.2.1.2 (by omega); have e := Option.some.inj e
 injection e with e1 e2 e3
 subst e1 e2; have hx0 := hx 0 x rfl; rw [Nat.add_zero] at hx0; clear h hx e3; rcases Nat.eq_zero_or_pos n with h0 | h0
 ·subst h0; have e0 : nxO o 0 = o := rfl; rw [e0]; clear e0
  go_enter Tryz.func227, Tryz.ntmps227
  go_wp2
  go_ret
  exact ⟨rfl, rfl⟩
 ·have hne : ¬ ((n : Int) + 1 = 1) := by omega
  have e0 : nxO o n = o + 1 := if_neg (by omega); rw [e0]; clear e0
  go_enter Tryz.func227, Tryz.ntmps227
  go_wp2
  go_ret
  exact ⟨rfl, rfl⟩
def intV (k : Nat) (s : ByteArray) : Int := if digB k s.data.toList = true then digV s.data.toList else 0
theorem ret_ib {a b : Int} {p q : Bool} (h : a = b) (h2 : p = q) : Ending.returned (.tuple #[.int .i64 a, .bool p]) = .returned (.tuple #[.int .i64 b, .bool q]) := by rw [h, h2]
theorem digB_no {k : Nat} {s : ByteArray} (h : digB k s.data.toList = false) : intV k s = 0 := by unfold intV; rw [if_neg (by rw [h]; simp)]
theorem get_list (s : ByteArray) (i : Nat) (h : i < s.size) : s.data.toList[i]? = some (s[i]'h) := by
 rw [List.getElem?_eq_getElem (by exact h)]
 rfl
theorem dig_at {s : ByteArray} {i : Nat} (h : i < s.size) : isDig (s[i]'h) = true ↔ 48 <= (s[i]'h).toNat /\ (s[i]'h).toNat <= 57 := by
 constructor
 ·exact dig_of
 ·intro hh; unfold isDig; simp only [Bool.and_eq_true, decide_eq_true_eq, UInt8.le_iff_toNat_le]; exact hh
theorem digB_bad {k : Nat} {s : ByteArray} (i : Nat) (h : i < s.size) (hb : ¬ (48 <= (s[i]'h).toNat /\ (s[i]'h).toNat <= 57)) : digB k s.data.toList = false := by
 rw [Bool.eq_false_iff]; intro hd; have := digB_digs hd (s[i]'h) (List.mem_of_getElem? (get_list s i h)); exact hb ((dig_at h).1 this)
theorem digB_good {k : Nat} {s : ByteArray} (h0 : s.size ≠ 0) (hk : s.size <= k) (hz : ∀ h : 0 < s.size, (s[0]'h).toNat = 48 -> s.size = 1) (hg : ∀ i (h : i < s.size), 48 <= (s[i]'h).toNat /\ (s[i]'h).toNat <= 57) : digB k s.data.toList = true := by
 have hl : s.data.toList.length = s.size := rfl; unfold digB; simp only [Bool.and_eq_true, decide_eq_true_eq, Bool.not_eq_true', List.isEmpty_eq_false_iff, List.all_eq_true]; refine ⟨⟨⟨fun e => h0 (by rw [<- hl, e]; rfl), by omega⟩, ?_⟩, ?_⟩
 ·rw [Bool.eq_false_iff]; intro h; simp only [Bool.and_eq_true, decide_eq_true_eq, beq_iff_eq] at h; have hp : 0 < s.size := by omega
  have e : s.data.toList.head? = some (s[0]'hp) := by
   rw [<- get_list s 0 hp, List.head?_eq_getElem?]
  rw [e] at h; have := hz hp (by rw [Option.some.inj h.2]; rfl)
  omega
 ·intro c hc; obtain ⟨i, hi, rfl⟩ := List.getElem_of_mem hc; exact (dig_at (s := s) (i := i) hi).2 (hg i hi)
theorem digV_take (s : ByteArray) (i : Nat) (h : i < s.size) : digV (s.data.toList.take (i + 1)) = 10 * digV (s.data.toList.take i) + (((s[i]'h).toNat : Int) - 48) := by
 rw [List.take_succ_eq_append_getElem (by exact h), digV_snoc]
 rfl
theorem digV_take_bd (s : ByteArray) (i : Nat) (hi : i <= s.size) (h18 : s.size <= 18) (hg : ∀ j (h : j < s.size), j < i -> 48 <= (s[j]'h).toNat /\ (s[j]'h).toNat <= 57) : 0 <= digV (s.data.toList.take i) /\ digV (s.data.toList.take i) < 1000000000000000000 := by
 have h1 := digV_bd (s.data.toList.take i) (fun c hc => by
  obtain ⟨j, hj, rfl⟩ := List.getElem_of_mem hc; rw [List.length_take] at hj; have hl : s.data.toList.length = s.size := rfl; have hj2 : j < s.size := by omega
  have := (dig_at hj2).2 (hg j hj2 (by omega)); rw [List.getElem_take]; exact this)
 have h2 : (s.data.toList.take i).length <= 18 := by rw [List.length_take]; omega
 have : (10 : Int) ^ (s.data.toList.take i).length <= 10 ^ 18 := by
  have := Nat.pow_le_pow_right (n := 10) (by omega) h2
  exact_mod_cast this
 have e : (10 : Int) ^ 18 = 1000000000000000000 := by decide
 omega
set_option maxHeartbeats 4000000 in
set_option maxRecDepth 100000 in
theorem integer_any (s : ByteArray) (k : Nat) (w : World) (hk : k <= 18) (hs : s.size <= 100000) :
  Calls Tryz.prog 208 #[.string s, .int .i64 k] w fun e w' => e = .returned (.tuple #[.int .i64 (intV k s), .bool (digB k s.data.toList)]) /\ Below w.heap.size w w' := by
 obtain ⟨D, hD⟩ : ∃ D, D = digB k s.data.toList := ⟨_, rfl⟩; obtain ⟨V, hV⟩ : ∃ V, V = intV k s := ⟨_, rfl⟩; rw [<- hD, <- hV]; have HNO : Hid (digB k s.data.toList = false -> V = 0 /\ D = false) := fun h => ⟨hV.trans (digB_no h), hD.trans h⟩
 have HD := lh hD; have HV := lh hV; clear hD hV
 by_cases h0 : s.size = 0
 ·have H := lh (HNO.out (by unfold digB; rw [List.eq_nil_of_length_eq_zero (l := s.data.toList) h0]; rfl)); have he : s.toList = [] := empty_toList h0; clear h0 hs
  go_enter Tryz.func208, Tryz.ntmps208
  go_wp2
  go_ret2
  exact ⟨ret_ib H.out.1.symm H.out.2.symm, Below.refl _ _⟩
 ·have hne : s.toList.isEmpty = false := nonempty_toList h0
  by_cases h1 : k < s.size
  ·have H := lh (HNO.out (by rw [Bool.eq_false_iff]; intro hd; have := digB_len hd; have e : s.data.toList.length = s.size := rfl; omega)); have hd : decide ((k : Int) < (s.size : Int)) = true := by simp; omega
   go_enter Tryz.func208, Tryz.ntmps208
   go_wp2
   go_ret2
   exact ⟨ret_ib H.out.1.symm H.out.2.symm, Below.refl _ _⟩
  ·have hd : decide ((k : Int) < (s.size : Int)) = false := by simp; omega
   have hp : 0 < s.size := by omega
   have hz48 : (s.toList == [48]) = true -> s.size = 1 /\ (s[0]'hp).toNat = 48 := by
    intro h; have h := beq_iff_eq.1 h; rw [ByteArray.toList_eq] at h; have hl : s.data.toList.length = s.size := rfl; have hg := get_list s 0 hp; rw [h] at hg hl; have := Option.some.inj hg; exact ⟨hl.symm, by rw [<- this]; rfl⟩
   by_cases hbad : (s[0]'hp).toNat = 48 /\ s.size ≠ 1
   ·obtain ⟨h48, hs1⟩ := hbad
    have H := lh (HNO.out (by
     rw [Bool.eq_false_iff]; intro hd; unfold digB at hd; simp only [Bool.and_eq_true, decide_eq_true_eq, Bool.not_eq_true'] at hd
     have e : s.data.toList.head? = some 48 := by
      rw [List.head?_eq_getElem?, get_list s 0 hp]; exact congrArg some (UInt8.toNat_inj.1 (by rw [h48]; rfl))
     have hl : s.data.toList.length = s.size := rfl; have := hd.1.2; rw [e] at this
     simp at this
     omega))
    have e48 : (((s[0]'hp).toNat : Int) == 48) = true := by rw [h48]; rfl
    have eS : (s.toList == [48]) = false := by
     rw [Bool.eq_false_iff]; intro h; exact hs1 (hz48 h).1
    clear HNO hz48 hs1 h48
    go_enter Tryz.func208, Tryz.ntmps208
    go_wp2
    go_ret2
    exact ⟨ret_ib H.out.1.symm H.out.2.symm, Below.refl _ _⟩
   ·have HB : Hid (∀ h : 0 < s.size, (s[0]'h).toNat = 48 -> s.size = 1) := by
     show ∀ h : 0 < s.size, _
     intro h e
     by_cases e1 : s.size = 1
     ·exact e1
     ·exact absurd ⟨e, e1⟩ hbad
    have e48 : ((((s[0]'hp).toNat : Int) == 48) = true /\ (s.toList == [48]) = true) ∨ (((s[0]'hp).toNat : Int) == 48) = false := by
     by_cases e : (s[0]'hp).toNat = 48
     ·refine Or.inl ⟨by rw [e]; rfl, ?_⟩; have h1 := HB.out hp e; rw [beq_iff_eq, ByteArray.toList_eq]; have hl : s.data.toList.length = 1 := h1; obtain ⟨x, hx⟩ := List.length_eq_one_iff.1 hl; have hg := get_list s 0 hp; rw [hx] at hg ⊢; have := Option.some.inj hg; rw [this]; exact congrArg (fun c => [c]) (UInt8.toNat_inj.1 (by rw [e]; rfl))
     ·exact Or.inr (beq_eq_false_iff_ne.2 (by omega))
    have h18 : s.size <= 18 := by omega
    clear hz48 hbad; rcases e48 with ⟨e48, eS⟩ | e48
    all_goals
     go_enter Tryz.func208, Tryz.ntmps208
     go_wp2
     clear e48 hne hd
     try clear eS
     go_loopw [6, 8] (fun n _ wr => ∃ pos : Nat, pos <= s.size /\ wr = w.iter s pos /\ n = .int .i64 (digV (s.data.toList.take pos)) /\ Hid (∀ j (h : j < s.size), j < pos -> 48 <= (s[j]'h).toNat /\ (s[j]'h).toNat <= 57)) (fun _ _ wr => s.size - wr.iterPos w.heap.size)
     case atStart => exact ⟨0, Nat.zero_le _, rfl, rfl, fun j h hj => by omega⟩
     case round =>
      obtain ⟨pos, hpos, rfl, rfl, hz⟩ := hrel
      by_cases hp2 : pos < s.size
      ·obtain ⟨b, hb⟩ : ∃ b, b = (s[pos]'hp2).toNat := ⟨_, rfl⟩; have hb256 : b < 256 := by rw [hb]; exact (s[pos]'hp2).toNat_lt
       by_cases hdg : 48 <= b /\ b <= 57
       ·obtain ⟨d1, d2⟩ := hdg
        have hnx : ∀ ty, (Instr.next (.pointer (some ⟨w.heap.size, 0, none⟩)) true ty).run Tryz.prog (w.iter s pos) = .ok (.tuple #[.bool true, .int .i64 pos, .int .i32 b]) (w.iter s (pos + 1)) := fun ty => by
         rw [hb]; exact run_next_ascii w s pos ty hp2 (by rw [<- hb]; omega)
        have good : Hid (∀ j (h : j < s.size), j < pos + 1 -> 48 <= (s[j]'h).toNat /\ (s[j]'h).toNat <= 57) := by
         show ∀ j (h : j < s.size), _
         intro j h hj
         by_cases hjp : j < pos
         ·exact hz.out j h hjp
         ·obtain rfl : j = pos := by omega
          rw [<- hb]; exact ⟨d1, d2⟩
        have hbd := digV_take_bd s (pos + 1) (by omega) h18 good.out; have hbd0 := digV_take_bd s pos (by omega) h18 hz.out; have hst := digV_take s pos hp2; rw [<- hb] at hst; obtain ⟨N, hN⟩ : ∃ N, N = digV (s.data.toList.take pos) := ⟨_, rfl⟩; rw [<- hN] at hst hbd0 ⊢; have HST := lh hst; obtain ⟨n0, _⟩ := hbd0; have n1 : N <= 100000000000000000 := by omega
        clear hb hz hst hbd hN; go_wp2; go_roundw
        case rel => exact ⟨pos + 1, by omega, rfl, by rw [HST.out], good⟩
        case measure => simp; omega
       ·have bad : Hid (V = 0 /\ D = false) := HNO.out (digB_bad pos hp2 (by rw [<- hb]; exact hdg))
        by_cases ha : b < 128
        ·have hnx : ∀ ty, (Instr.next (.pointer (some ⟨w.heap.size, 0, none⟩)) true ty).run Tryz.prog (w.iter s pos) = .ok (.tuple #[.bool true, .int .i64 pos, .int .i32 b]) (w.iter s (pos + 1)) := fun ty => by
          rw [hb]; exact run_next_ascii w s pos ty hp2 (by rw [<- hb]; omega)
         clear hb hz; rcases (show b < 48 ∨ 57 < b by omega) with hr | hr
         ·have t1 : decide ((b : Int) < 48) = true := by simp; omega
          go_wp2
          go_ret2
          exact ⟨ret_ib bad.out.1.symm bad.out.2.symm, (Below.refl _ _).alloc (Nat.le_refl _) _⟩
         ·have t1 : decide ((b : Int) < 48) = false := by simp; omega
          have t2 : decide ((57 : Int) < (b : Int)) = true := by simp; omega
          go_wp2
          go_ret2
          exact ⟨ret_ib bad.out.1.symm bad.out.2.symm, (Below.refl _ _).alloc (Nat.le_refl _) _⟩
        ·have hdc := decode_high s pos hp2 (by rw [<- hb]; omega); have hnx : ∀ ty, (Instr.next (.pointer (some ⟨w.heap.size, 0, none⟩)) true ty).run Tryz.prog (w.iter s pos) = _ := fun ty => run_next_any w s pos ty hp2
         clear hb hz; obtain ⟨r, hr⟩ : ∃ r, r = (Utf8.decode s pos).1 := ⟨_, rfl⟩; rw [<- hr] at hnx hdc; have hd1 : 128 <= r := hdc.1; clear hr hdc; have t1 : decide ((r : Int) < 48) = false := by simp; omega
         have t2 : decide ((57 : Int) < (r : Int)) = true := by simp; omega
         go_wp2
         go_ret2
         exact ⟨ret_ib bad.out.1.symm bad.out.2.symm, (Below.refl _ _).alloc (Nat.le_refl _) _⟩
      ·have hnx : ∀ ty, (Instr.next (.pointer (some ⟨w.heap.size, 0, none⟩)) true ty).run Tryz.prog (w.iter s pos) = _ := fun ty => run_next_end w s pos ty hp2
       have e1 : digB k s.data.toList = true := digB_good h0 (by omega) HB.out (fun i h => hz.out i h (by omega))
       have HE : Hid (V = digV (s.data.toList.take pos) /\ D = true) := by
        show _ /\ _
        refine ⟨?_, HD.out.trans e1⟩; rw [HV.out]; unfold intV; rw [if_pos e1, List.take_of_length_le (show s.data.toList.length <= pos from by have e : s.data.toList.length = s.size := rfl; omega)]
       clear hz e1; go_wp2
       go_ret2
       exact ⟨ret_ib HE.out.1.symm HE.out.2.symm, (Below.refl _ _).alloc (Nat.le_refl _) _⟩
theorem OwnI.far {w : World} {base : Nat} {g n c : Nat} {zs : List Int} (h : OwnI w base (.slice (some ⟨g, 0, none⟩) n c) zs) {p : Addr} (hp : g ≠ p.block) (u : Value) : OwnI (w.setCell p u) base (.slice (some ⟨g, 0, none⟩) n c) zs := by
 have hb : ∀ k, k ≠ p.block -> (w.setCell p u).heap[k]? = w.heap[k]? := fun k hk => Below.heap_setCell w p u k hk
 refine World.ownsRow.kept h (row := some p.block) ⟨rfl, rfl, rfl, by simp, fun k _ hk => hb k (fun e => hk (by rw [e]))⟩ ?_; exact .inr (by simp [Value.ownBlock]; exact hp)
theorem WordsAt.later {w w' : World} {bx g o n : Nat} {l : List ByteArray} (h : WordsAt w bx g o n l) (hb : Below w.heap.size w w') : WordsAt w' bx g o n l :=
 ⟨h.1.below hb, h.2.1.keep hb (Nat.le_refl _), h.2.2⟩
theorem WordsAt.lt {w : World} {bx g o n : Nat} {l : List ByteArray} (h : WordsAt w bx g o n l) (hn : 0 < n) : g < w.heap.size := by
 obtain ⟨g', o', e, hg, _⟩ := h.2.1.2 hn; have e := Option.some.inj e
 injection e with e1
 omega
theorem enters_integer (args : Array Value) (W : World) : (callFunc 208 args).run Tryz.prog W = .ok (.enter 208 args) W := by kernel_rfl
def putL (v : List Int) (k : Nat) : List Int := v.take k ++ List.replicate (v.length - k) 0
theorem putL_set (v : List Int) (k : Nat) (h : k < v.length) : (putL v k).set k (v[k]'h) = putL v (k + 1) := by
 apply List.ext_getElem?
 intro i; unfold putL; rw [List.getElem?_set]
 by_cases hi : k = i
 ·subst hi; rw [if_pos rfl, if_pos (by simp; omega), List.getElem?_append_left (by simp; omega), List.getElem?_take, if_pos (by omega), List.getElem?_eq_getElem h]
 ·rw [if_neg hi]
  by_cases hlt : i < k
  ·rw [List.getElem?_append_left (by simp; omega), List.getElem?_append_left (by simp; omega), List.getElem?_take, List.getElem?_take, if_pos hlt, if_pos (by omega)]
  ·rw [List.getElem?_append_right (by simp; omega), List.getElem?_append_right (by simp; omega), List.getElem?_replicate, List.getElem?_replicate]; simp only [List.length_take]
   by_cases hl : i < v.length
   ·rw [if_pos (by omega), if_pos (by omega)]
   ·rw [if_neg (by omega), if_neg (by omega)]
theorem putL_all (v : List Int) : putL v v.length = v := by simp [putL]
theorem putL_zero (v : List Int) : putL v 0 = List.replicate v.length 0 := by simp [putL]
def allD (k : Nat) (ws : List ByteArray) : Bool := ws.all fun s => digB k s.data.toList
def valD (ws : List ByteArray) : List Int := ws.map fun s => digV s.data.toList
theorem valD_len (ws : List ByteArray) : (valD ws).length = ws.length := by simp [valD]
def Nr (B bx : Nat) (w w' : World) : Prop := Below B w w' /\ ∀ g, g < w.heap.size -> g ≠ bx -> w'.heap[g]? = w.heap[g]?
theorem Nr.of {B bx : Nat} {w w' : World} (h : Below w.heap.size w w') (hB : B <= w.heap.size) : Nr B bx w w' := ⟨h.mono hB, fun g hg _ => h.block g hg⟩
theorem Nr.box {B bx : Nat} {w w' : World} (h : Nr B bx w w') (hB : B <= bx) (i : Nat) (u : Value) : Nr B bx w (w'.setCell ⟨bx, i, none⟩ u) :=
 ⟨h.1.setCell (p := ⟨bx, i, none⟩) hB _, fun g hg hn => (Below.heap_setCell w' ⟨bx, i, none⟩ u g hn).trans (h.2 g hg hn)⟩
theorem Nr.fresh {B bx : Nat} {w w' : World} (h : Nr B bx w w') (hB : B <= w.heap.size) {p : Addr} (hp : w.heap.size <= p.block) (u : Value) : Nr B bx w (w'.setCell p u) :=
 ⟨h.1.setCell (Nat.le_trans hB hp) _, fun g hg hn => (Below.heap_setCell w' p u g (by omega)).trans (h.2 g hg hn)⟩
theorem Nr.later {B bx : Nat} {w w' w2 : World} (h : Nr B bx w w') (hB : B <= w'.heap.size) (hb : Below w'.heap.size w' w2) : Nr B bx w w2 :=
 ⟨h.1.trans (hb.mono hB), fun g hg hn => (hb.block g (by have := h.1.size; omega)).trans (h.2 g hg hn)⟩
theorem Nr.then {B bx : Nat} {w w' w2 : World} (h : Nr B bx w w') (h2 : Nr B bx w' w2) : Nr B bx w w2 :=
 ⟨h.1.trans h2.1, fun g hg hn => (h2.2 g (by have := h.1.size; omega) hn).trans (h.2 g hg hn)⟩
theorem Blk.nr {B bx : Nat} {w w' : World} {g : Nat} {T : TypeId} {cs : Array Value} (h : Blk w g T cs) (hn : Nr B bx w w') (hne : g ≠ bx) : Blk w' g T cs := (hn.2 g (lt_of_block h) hne).trans h
def NumsPost (B bx : Nat) (w : World) (k : Nat) (ws : List ByteArray) (e : Ending) (w' : World) : Prop :=
 Nr B bx w w' /\ ((allD k ws = true /\ ∃ A, e = .returned (.tuple #[.slice A ws.length ws.length, .bool true]) /\ OwnI w' w.heap.size (.slice A ws.length ws.length) (valD ws)) ∨ (allD k ws = false /\ e = .returned (.tuple #[.slice none 0 0, .bool false])))
set_option maxHeartbeats 4000000 in
set_option maxRecDepth 100000 in
theorem numbers_any (B bx g o m : Nat) (ws : List ByteArray) (k : Nat) (w : World) (h : WordsAt w bx g o m ws) (hB : B <= bx) (hm : m <= 100000) (hk : k <= 18) (hws : ∀ s ∈ ws, s.size <= 100000) :
  Calls Tryz.prog 238 #[.pointer (some ⟨bx, 0, none⟩), .func (.func 208) #[] #[], .int .i64 k] w (NumsPost B bx w k ws) := by
 obtain ⟨i0, hi, hz0, hz1, hz2⟩ := info_parts infoInt; have hlen := h.2.1.1; have hbx : bx < w.heap.size := lt_of_block h.1; have H := lh h; have HWS := lh hws; have HLEN := lh hlen; have eI := enters_integer; have HG : Hid (0 < m -> g < w.heap.size) := fun hm => h.lt hm
 clear h hws hlen
 go_enter Tryz.func238, Tryz.ntmps238
 go_wp2_with fail
 refine (left_any bx g o m ws _ H.out).mono ?_; rintro e w' ⟨rfl, rfl⟩
 go_wp2_with (at_make; refine wpList_make_full _ rfl _ _ 22 rfl w.heap.size 3 i0 (.int .i64 0) 1 Tryz.underlying22 hi hz0 hz1 _ _ _ _ m rfl rfl rfl rfl (by rw [hz2]; omega) (by unfold maxLen; omega) (by simp) ?_; intro w1 hown hg1)
 have hO : OwnI w1 w.heap.size (.slice (some ⟨w.heap.size, 0, none⟩) m m) (putL (valD ws) 0) := by
  unfold OwnI; rw [putL_zero, valD_len, HLEN.out, List.length_replicate, <- made_zero]
  simpa using hown
 have hb1 : Below w.heap.size w w1 := Below.grown (Below.refl _ _) hg1 (Nat.le_refl _) (fun k hk => by cases hk); have hW1 : WordsAt w1 bx g o m ws := H.out.later hb1; have hB1 : Nr B bx w w1 := Nr.of hb1 (by omega); clear hown hg1 hb1
 go_loopw [9, 10, 11, 17] (fun _ _ _ i wr => ∃ j o' : Nat, j <= m /\ i = .int .i64 j /\ OwnI wr w.heap.size (.slice (some ⟨w.heap.size, 0, none⟩) m m) (putL (valD ws) j) /\ WordsAt wr bx g o' (m - j) (ws.drop j) /\ allD k (ws.take j) = true /\ Nr B bx w wr) (fun _ _ _ i _ => m - (intOf i).toNat)
 case atStart => exact ⟨0, o, Nat.zero_le _, rfl, hO, hW1, rfl, hB1⟩
 case round =>
  clear hO hW1 hB1; obtain ⟨j, o', hj, rfl, hown, hW, hall, hbw⟩ := hrel
  by_cases hlt : j < m
  ·have hjl : j < ws.length := by rw [HLEN.out]; exact hlt
   obtain ⟨x, hx⟩ : ∃ x, x = ws[j] := ⟨_, rfl⟩; have hd : ws.drop j = x :: ws.drop (j + 1) := by rw [hx]; exact List.drop_eq_getElem_cons hjl
   rw [hd, show m - j = (m - (j + 1)) + 1 by omega] at hW; have hxs : x.size <= 100000 := HWS.out x (by rw [hx]; exact List.getElem_mem hjl); have hW2 := hW.nxt; have hb2 : Nr B bx w (wr.setCell ⟨bx, 0, none⟩ (.slice (some ⟨g, nxO o' (m - (j + 1)), none⟩) (m - (j + 1)) (m - (j + 1)))) := hbw.box hB _ _; have hO2 := hown.far (p := ⟨bx, 0, none⟩) (by show w.heap.size ≠ bx; omega) (.slice (some ⟨g, nxO o' (m - (j + 1)), none⟩) (m - (j + 1)) (m - (j + 1))); have HW := lh hW; have HW2 := lh hW2; have HB2 := lh hb2; have HO2 := lh hO2; have hsz : B <= wr.heap.size := by have := hbw.1.size; omega
   have htk : allD k (ws.take (j + 1)) = digB k x.data.toList := by
    unfold allD at hall ⊢; rw [List.take_succ_eq_append_getElem hjl, List.all_append, hall, <- hx]
    simp
   have HTK := lh htk; have HX := lh hx; have HN : Hid (m - (j + 1) <= 1000000) := by show _ <= _; omega
   clear hx hd hW hW2 hb2 hO2 hall hbw hown htk; obtain ⟨q, hq⟩ : ∃ q, q = m - (j + 1) := ⟨_, rfl⟩; rw [<- hq] at HW HW2 HB2 HO2 HN; have HQ := lh hq; clear hq
   go_wp2_with fail
   refine (next_any bx g o' q x _ _ HN.out HW.out).mono ?_; rintro e w2 ⟨rfl, rfl⟩; have HI := lh (integer_any x k (wr.setCell ⟨bx, 0, none⟩ (.slice (some ⟨g, nxO o' q, none⟩) q q)) hk hxs); obtain ⟨D, hD⟩ : ∃ D, D = digB k x.data.toList := ⟨_, rfl⟩; rw [<- hD] at HI HTK; have HDD := lh hD; clear hD
   cases hDD : D with
   | false =>
     subst hDD
     go_wp2_with fail
     refine HI.out.mono ?_; rintro e w3 ⟨rfl, hb3⟩; have HB3 : Hid (Nr B bx w w3) := HB2.out.later (by simp; omega) hb3; clear hb3; go_wp2
     go_ret2
     refine ⟨HB3.out, .inr ⟨?_, rfl⟩⟩; rw [Bool.eq_false_iff]; intro ht; have h2 := HTK.out; unfold allD at ht h2; rw [<- List.take_append_drop (j + 1) ws, List.all_append, h2] at ht
     simp at ht
   | true =>
     subst hDD
     go_wp2_with fail
     refine HI.out.mono ?_; rintro e w3 ⟨rfl, hb3⟩; have HB3 : Hid (Nr B bx w w3) := HB2.out.later (by simp; omega) hb3; have hO3 := HO2.out.below hb3; have hW3 := HW2.out.later hb3; have hs := hO3.store j (intV k x)
     have e1 : intV k x = (valD ws)[j]'(by rw [valD_len]; exact hjl) := by
      unfold intV valD; rw [if_pos HDD.out.symm, List.getElem_map, HX.out]
     rw [e1, putL_set] at hs; rw [<- e1] at hs; have hcell := hO3.parts.2.2.1 j hlt; have hfz := hO3.parts.2.2.2 j; have HS := lh hs; have HW3 := lh hW3; obtain ⟨V, hV⟩ : ∃ V, V = intV k x := ⟨_, rfl⟩; obtain ⟨U, hU⟩ : ∃ U, U = (putL (valD ws) j).getD j 0 := ⟨_, rfl⟩; rw [<- hV] at HS ⊢; rw [<- hU] at hcell; clear hb3 hO3 hW3 hs e1 hV hU; go_wp2; go_roundw
     case rel => exact ⟨j + 1, nxO o' q, by omega, by go_num, HS.out, by
      have h5 : WordsAt _ bx g (nxO o' q) q (ws.drop (j + 1)) := ⟨HW3.out.1.far (p := ⟨w.heap.size, j, none⟩) (by show bx ≠ w.heap.size; omega) (.int .i64 V), HW3.out.2.1.set (p := ⟨w.heap.size, j, none⟩) (by have := HG.out (by omega); show g ≠ w.heap.size; omega) _, HW3.out.2.2⟩; rw [<- HQ.out]; exact h5, HTK.out, HB3.out.fresh (by omega) (p := ⟨w.heap.size, j, none⟩) (Nat.le_refl _) _⟩
     case measure => simp [intOf]; omega
  ·obtain rfl : j = m := by omega
   have HO := lh hown; have HB := lh hbw; have HA := lh hall; clear hW hown hbw hall; go_wp2
   go_ret2
   have e1 := HA.out; rw [List.take_of_length_le (by rw [HLEN.out]; omega)] at e1; have h2 := HO.out; rw [show putL (valD ws) j = valD ws by rw [show j = (valD ws).length by rw [valD_len, HLEN.out]]; exact putL_all _] at h2; exact ⟨HB.out, .inl ⟨e1, some ⟨w.heap.size, 0, none⟩, by rw [HLEN.out]; rfl, by rw [HLEN.out]; exact h2⟩⟩
def wordsL (s : ByteArray) : List ByteArray := sepL 32 0 (lineBd s)
theorem wordsL_cons (s : ByteArray) : ∃ x ws, wordsL s = x :: ws := by
 cases h : wordsL s with
 | nil =>
   have := sepL_len 32 0 (lineBd s); unfold wordsL at h; rw [h] at this
   simp at this
 | cons x ws => exact ⟨x, ws, rfl⟩
theorem flat_le_len (L : List (List UInt8)) (x : List UInt8) (h : x ∈ L) : x.length <= L.flatten.length := by
 induction L with
 | nil => simp at h
 | cons y L ih =>
   rw [List.flatten_cons, List.length_append]; rcases List.mem_cons.1 h with rfl | h
   ·omega
   ·have := ih h; omega
theorem sepL_size (b : UInt8) (s : ByteArray) : ∀ x ∈ sepL b 0 s, x.size <= s.size := by
 intro x hx; obtain ⟨p, hp, rfl⟩ := List.mem_map.1 hx; have hb := congrArg List.length (cutSt_back b s.data.toList); rw [List.length_append] at hb; have hl : s.data.toList.length = s.size := rfl
 show p.toArray.size <= s.size
 rw [List.size_toArray]; rcases List.mem_append.1 hp with hp | hp
 ·obtain ⟨q, hq, rfl⟩ := List.mem_map.1 hp; have := flat_le_len _ _ (List.mem_map.2 ⟨q, hq, rfl⟩ : q ++ [b] ∈ (cutSt b s.data.toList).1.map (· ++ [b])); rw [List.length_append] at this; have e : (q ++ [b].take 0).length = q.length := by simp
  omega
 ·simp only [List.mem_singleton] at hp; rw [hp]
  omega
theorem wordsL_size (s : ByteArray) : ∀ x ∈ wordsL s, x.size <= s.size := fun x hx => Nat.le_trans (sepL_size 32 _ x hx) (lineBd_le s)
theorem wordsL_le (s : ByteArray) : (wordsL s).length <= s.size + 1 := Nat.le_trans (sepL_le 32 0 _) (by have := lineBd_le s; omega)
theorem toBA_list (l : List UInt8) : (⟨l.toArray⟩ : ByteArray).data.toList = l := by simp
end Go.Proofs.YtmafmebcgmegeaaGreatDoor
