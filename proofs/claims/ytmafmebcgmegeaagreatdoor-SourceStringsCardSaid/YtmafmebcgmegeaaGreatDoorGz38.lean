/- Part. -/
import Derived.Test.YtmafmebcgmegeaaGreatDoorGz1
import Derived.Test.YtmafmebcgmegeaaGreatDoorGz29
import Derived.Test.YtmafmebcgmegeaaGreatDoorGz22
namespace Go.Proofs.YtmafmebcgmegeaaGreatDoor
open Go.RowKit Go.Sort
set_option maxHeartbeats 4000000 in
set_option maxRecDepth 100000 in
theorem refDig_any (s : ByteArray) (w : World) (hs : s.size <= 100000) :
  Calls Tryz.prog 156 #[.string s] w fun e w' => e = .returned (.tuple #[.int .i64 (intV 12 s), .bool (digB 12 s.data.toList)]) /\ w = w' := by
 obtain ⟨D, hD⟩ : ∃ D, D = digB 12 s.data.toList := ⟨_, rfl⟩; obtain ⟨V, hV⟩ : ∃ V, V = intV 12 s := ⟨_, rfl⟩; rw [<- hD, <- hV]; have HNO : Hid (digB 12 s.data.toList = false -> V = 0 /\ D = false) := fun h => ⟨hV.trans (digB_no h), hD.trans h⟩
 have HD := lh hD; have HV := lh hV; clear hD hV
 by_cases h0 : s.size = 0
 ·have H := lh (HNO.out (by unfold digB; rw [List.eq_nil_of_length_eq_zero (l := s.data.toList) h0]; rfl)); have he : s.toList = [] := empty_toList h0; clear h0 hs
  go_enter Tryz.func156, Tryz.ntmps156
  go_wp2
  go_ret2
  exact ⟨ret_ib H.out.1.symm H.out.2.symm, rfl⟩
 ·have hne : s.toList.isEmpty = false := nonempty_toList h0
  by_cases h1 : 12 < s.size
  ·have H := lh (HNO.out (by rw [Bool.eq_false_iff]; intro hd; have := digB_len hd; have e : s.data.toList.length = s.size := rfl; omega)); have hd : decide ((12 : Int) < (s.size : Int)) = true := by simp; omega
   go_enter Tryz.func156, Tryz.ntmps156
   go_wp2
   go_ret2
   exact ⟨ret_ib H.out.1.symm H.out.2.symm, rfl⟩
  ·have hd : decide ((12 : Int) < (s.size : Int)) = false := by simp; omega
   have hp : 0 < s.size := by omega
   by_cases hbad : (s[0]'hp).toNat = 48 /\ 1 < s.size
   ·obtain ⟨h48, hs1⟩ := hbad
    have H := lh (HNO.out (by
     rw [Bool.eq_false_iff]; intro hd; unfold digB at hd; simp only [Bool.and_eq_true, decide_eq_true_eq, Bool.not_eq_true'] at hd
     have e : s.data.toList.head? = some 48 := by
      rw [List.head?_eq_getElem?, get_list s 0 hp]; exact congrArg some (UInt8.toNat_inj.1 (by rw [h48]; rfl))
     have hl : s.data.toList.length = s.size := rfl; have := hd.1.2; rw [e] at this
     simp at this
     omega))
    have e48 : (((s[0]'hp).toNat : Int) == 48) = true := by rw [h48]; rfl
    have d1 : decide ((1 : Int) < (s.size : Int)) = true := by simp; omega
    clear HNO hs1 h48
    go_enter Tryz.func156, Tryz.ntmps156
    go_wp2
    go_ret2
    exact ⟨ret_ib H.out.1.symm H.out.2.symm, rfl⟩
   ·have HB : Hid (∀ h : 0 < s.size, (s[0]'h).toNat = 48 -> s.size = 1) := by
     show ∀ h : 0 < s.size, _
     intro h e
     by_cases e1 : s.size = 1
     ·exact e1
     ·exact absurd ⟨e, by omega⟩ hbad
    have e48 : (decide ((1 : Int) < (s.size : Int)) = true /\ (((s[0]'hp).toNat : Int) == 48) = false) ∨ decide ((1 : Int) < (s.size : Int)) = false := by
     by_cases e : 1 < s.size
     ·refine Or.inl ⟨by simp; omega, beq_eq_false_iff_ne.2 (fun e2 => hbad ⟨by omega, e⟩)⟩
     ·exact Or.inr (by simp; omega)
    have h18 : s.size <= 18 := by omega
    clear hbad; rcases e48 with ⟨d1, e48⟩ | d1
    all_goals
     go_enter Tryz.func156, Tryz.ntmps156
     go_wp2
     clear d1 hne hd
     try clear e48
     go_loop [4, 5] (fun n i => ∃ pos : Nat, pos <= s.size /\ i = .int .i64 pos /\ n = .int .i64 (digV (s.data.toList.take pos)) /\ Hid (∀ j (h : j < s.size), j < pos -> 48 <= (s[j]'h).toNat /\ (s[j]'h).toNat <= 57)) (fun _ i => s.size - (intOf i).toNat)
     case atStart => exact ⟨0, Nat.zero_le _, rfl, rfl, fun j h hj => by omega⟩
     case round =>
      obtain ⟨pos, hpos, rfl, rfl, hz⟩ := hrel
      by_cases hp2 : pos < s.size
      ·obtain ⟨b, hb⟩ : ∃ b, b = (s[pos]'hp2).toNat := ⟨_, rfl⟩; have hb256 : b < 256 := by rw [hb]; exact (s[pos]'hp2).toNat_lt
       by_cases hdg : 48 <= b /\ b <= 57
       ·obtain ⟨d1, d2⟩ := hdg
        have good : Hid (∀ j (h : j < s.size), j < pos + 1 -> 48 <= (s[j]'h).toNat /\ (s[j]'h).toNat <= 57) := by
         show ∀ j (h : j < s.size), _
         intro j h hj
         by_cases hjp : j < pos
         ·exact hz.out j h hjp
         ·obtain rfl : j = pos := by omega
          rw [<- hb]; exact ⟨d1, d2⟩
        have hbd := digV_take_bd s (pos + 1) (by omega) h18 good.out; have hbd0 := digV_take_bd s pos (by omega) h18 hz.out; have hst := digV_take s pos hp2; rw [<- hb] at hst; obtain ⟨N, hN⟩ : ∃ N, N = digV (s.data.toList.take pos) := ⟨_, rfl⟩; rw [<- hN] at hst hbd0 ⊢; have HST := lh hst; obtain ⟨n0, _⟩ := hbd0; have n1 : N <= 100000000000000000 := by omega
        have HBV := lh hb; have t1 : decide ((((s[pos]'hp2).toNat : Nat) : Int) < 48) = false := by rw [<- hb]; simp; omega
        have t2 : decide ((57 : Int) < (((s[pos]'hp2).toNat : Nat) : Int)) = false := by rw [<- hb]; simp; omega
        have b1 : 48 <= (s[pos]'hp2).toNat := by omega
        have b2 : (s[pos]'hp2).toNat <= 57 := by omega
        clear hz hst hbd hN; clear hb; go_wp2
        go_round
        case rel => exact ⟨pos + 1, by omega, by go_num, by rw [HST.out, HBV.out], good⟩
        case measure => simp [intOf]; omega
       ·have bad : Hid (V = 0 /\ D = false) := HNO.out (digB_bad pos hp2 (by rw [<- hb]; exact hdg)); rcases (show b < 48 ∨ 57 < b by omega) with hr | hr
        ·have t1 : decide ((((s[pos]'hp2).toNat : Nat) : Int) < 48) = true := by rw [<- hb]; simp; omega
         clear hb hz; go_wp2
         go_ret2
         exact ⟨ret_ib bad.out.1.symm bad.out.2.symm, rfl⟩
        ·have t1 : decide ((((s[pos]'hp2).toNat : Nat) : Int) < 48) = false := by rw [<- hb]; simp; omega
         have t2 : decide ((57 : Int) < (((s[pos]'hp2).toNat : Nat) : Int)) = true := by rw [<- hb]; simp; omega
         clear hb hz; go_wp2
         go_ret2
         exact ⟨ret_ib bad.out.1.symm bad.out.2.symm, rfl⟩
      ·have e1 : digB 12 s.data.toList = true := digB_good h0 (by omega) HB.out (fun i h => hz.out i h (by omega))
       have HE : Hid (V = digV (s.data.toList.take pos) /\ D = true) := by
        show _ /\ _
        refine ⟨?_, HD.out.trans e1⟩; rw [HV.out]; unfold intV; rw [if_pos e1, List.take_of_length_le (show s.data.toList.length <= pos from by have e : s.data.toList.length = s.size := rfl; omega)]
       clear hz e1; go_wp2
       go_ret2
       exact ⟨ret_ib HE.out.1.symm HE.out.2.symm, rfl⟩
/-! ### Split -/
theorem cut_take (b : UInt8) (s : ByteArray) (i : Nat) (h : i < s.size) : cutSt b (s.data.toList.take (i + 1)) = cutStep b (cutSt b (s.data.toList.take i)) (s[i]'h) := by
 rw [List.take_succ_eq_append_getElem (by exact h), cutSt_snoc]
 rfl
theorem extract_cur (b : UInt8) (s : ByteArray) (i : Nat) (h : i <= s.size) : s.extract (i - (cutSt b (s.data.toList.take i)).2.length) i = (⟨(cutSt b (s.data.toList.take i)).2.toArray⟩ : ByteArray) := by
 have hl : s.data.toList.length = s.size := rfl; have hlen : (s.data.toList.take i).length = i := by rw [List.length_take]; omega
 obtain ⟨p, hp⟩ := cutSt_suffix b (s.data.toList.take i)
 have h1 : (s.extract (i - (cutSt b (s.data.toList.take i)).2.length) i).data.toList = (cutSt b (s.data.toList.take i)).2 := by
  rw [Lib.extract_data]
  have h2 : (s.data.toList.take i).drop (i - (cutSt b (s.data.toList.take i)).2.length) = (cutSt b (s.data.toList.take i)).2 := by
   have hpl := congrArg List.length hp; rw [List.length_append, hlen] at hpl; have e : i - (cutSt b (s.data.toList.take i)).2.length = p.length := by omega
   rw [e]
   conv => lhs; rw [hp]
   exact List.drop_left' rfl
  first
   | exact h2
   | (rw [<- List.drop_take]; exact h2)
   | (rw [List.drop_take]; exact h2)
   | (rw [List.take_drop] ; exact h2)
 cases ha : s.extract (i - (cutSt b (s.data.toList.take i)).2.length) i with
 | mk a =>
   rw [ha] at h1
   have : a = (cutSt b (s.data.toList.take i)).2.toArray := by
    apply Array.toList_inj.1
    rw [h1]
   rw [this]
def doneB (b : UInt8) (s : ByteArray) (i : Nat) : List ByteArray := (cutSt b (s.data.toList.take i)).1.map fun l => (⟨l.toArray⟩ : ByteArray)
def curB (b : UInt8) (s : ByteArray) (i : Nat) : ByteArray := ⟨(cutSt b (s.data.toList.take i)).2.toArray⟩
def fromN (b : UInt8) (s : ByteArray) (i : Nat) : Nat := i - (cutSt b (s.data.toList.take i)).2.length
theorem fromN_le (b : UInt8) (s : ByteArray) (i : Nat) : fromN b s i <= i := Nat.sub_le _ _
theorem split_hit {b : UInt8} {s : ByteArray} {i : Nat} (h : i < s.size) (e : s[i]'h = b) : doneB b s (i + 1) = doneB b s i ++ [curB b s i] /\ fromN b s (i + 1) = i + 1 := by
 unfold doneB fromN curB; rw [cut_take b s i h, e]; have : cutStep b (cutSt b (s.data.toList.take i)) b = ((cutSt b (s.data.toList.take i)).1 ++ [(cutSt b (s.data.toList.take i)).2], []) := cutStep_hit b _ _; rw [this]
 simp
theorem split_miss {b : UInt8} {s : ByteArray} {i : Nat} (h : i < s.size) (e : s[i]'h ≠ b) : doneB b s (i + 1) = doneB b s i /\ fromN b s (i + 1) = fromN b s i := by
 unfold doneB fromN; rw [cut_take b s i h]; have : cutStep b (cutSt b (s.data.toList.take i)) (s[i]'h) = ((cutSt b (s.data.toList.take i)).1, (cutSt b (s.data.toList.take i)).2 ++ [s[i]'h]) := cutStep_miss e _ _; rw [this]
 simp
theorem split_end (b : UInt8) (s : ByteArray) : sepL b 0 s = doneB b s s.size ++ [curB b s s.size] := by
 have e : s.data.toList.take s.size = s.data.toList := List.take_of_length_le (Nat.le_refl _); unfold sepL doneB curB; rw [e]
 simp
theorem doneB_len (b : UInt8) (s : ByteArray) (i : Nat) : (doneB b s i).length <= i := by
 have h := congrArg List.length (cutSt_back b (s.data.toList.take i)); rw [List.length_append, List.length_take] at h
 have : ∀ L : List (List UInt8), L.length <= (L.map (· ++ [b])).flatten.length := by
  intro L
  induction L with
  | nil => simp
  | cons x L ih => rw [List.map_cons, List.flatten_cons, List.length_append, List.length_cons]; simp only [List.length_append, List.length_singleton]; omega
 have := this (cutSt b (s.data.toList.take i)).1; simp only [doneB, List.length_map]
 omega
theorem OwnS.push {w1 : World} {base : Nat} {v' : Value} {l : List ByteArray} {x : ByteArray} (h : w1.ownsRow base 9 1 v' (l.length + 1) (l.map Value.string ++ [.string x])) : OwnS w1 base v' (l ++ [x]) := by
 unfold OwnS; rw [List.length_append, List.map_append]; exact h
set_option maxHeartbeats 4000000 in
set_option maxRecDepth 100000 in
theorem refSplit_any (b : UInt8) (s : ByteArray) (w : World) (hs : s.size <= 100000) :
  Calls Tryz.prog 84 #[.string s, .int .u8 (b.toNat : Int)] w fun e w' => ∃ v, e = .returned v /\ OwnS w' w.heap.size v (sepL b 0 s) /\ Below w.heap.size w w' := by
 obtain ⟨i0, hi, hz0, hz1, hz2⟩ := info_parts infoS; obtain ⟨bn, hbn⟩ : ∃ bn, bn = b.toNat := ⟨_, rfl⟩; rw [<- hbn]; have hb256 : bn < 256 := by rw [hbn]; exact b.toNat_lt
 have HBN := lh hbn; clear hbn
 go_enter Tryz.func84, Tryz.ntmps84
 go_wp2
 go_loopw [5, 6, 7] (fun v f i wr => ∃ pos : Nat, pos <= s.size /\ i = .int .i64 pos /\ f = .int .i64 (fromN b s pos) /\ OwnS wr w.heap.size v (doneB b s pos) /\ Below w.heap.size w wr) (fun _ _ i _ => s.size - (intOf i).toNat)
 case atStart => exact ⟨0, Nat.zero_le _, rfl, rfl, World.ownsRow_nil _ _ _ _, Below.refl _ _⟩
 case round =>
  obtain ⟨pos, hpos, rfl, rfl, hown, hb⟩ := hrel; have hf := fromN_le b s pos; have hxc := extract_cur b s pos hpos; have hdl := doneB_len b s pos; obtain ⟨f, hfe⟩ : ∃ f, f = fromN b s pos := ⟨_, rfl⟩; rw [show pos - (cutSt b (s.data.toList.take pos)).2.length = fromN b s pos from rfl, <- hfe] at hxc; rw [<- hfe] at hf ⊢; have HF := lh hfe; have HO := lh hown; have HB := lh hb; clear hfe hb hown
  by_cases hlt : pos < s.size
  ·obtain ⟨c, hc⟩ : ∃ c, c = (s[pos]'hlt).toNat := ⟨_, rfl⟩
   by_cases he : c = bn
   ·have heq : s[pos]'hlt = b := UInt8.toNat_inj.1 (by rw [<- hc, he, HBN.out]); obtain ⟨s1, s2⟩ := split_hit hlt heq; have S1 := lh s1; have S2 := lh s2; have t1 : (((((s[pos]'hlt).toNat : Nat) : Int)) == (bn : Int)) = true := by rw [<- hc, he]; simp
    obtain ⟨X, hX⟩ : ∃ X, X = curB b s pos := ⟨_, rfl⟩; replace hxc : s.extract f pos = X := by rw [hX]; exact hxc
    rw [<- hX] at S1; have hO3 : Hid (wr.ownsRow w.heap.size 9 1 u5 (doneB b s pos).length ((doneB b s pos).map Value.string)) := HO.out; obtain ⟨dl, hdl2⟩ : ∃ dl, dl = (doneB b s pos).length := ⟨_, rfl⟩; rw [<- hdl2] at hO3 hdl; have HDL := lh hdl2; have hfi : (0 : Int) <= f := by omega
    have sz := HB.out.size; clear heq s1 s2 hX he hc hdl2
    go_wp2_with (at_builtin; refine wpList_append_own _ rfl _ _ 155 rfl w.heap.size 9 i0 (.string ByteArray.empty) 1 16 Tryz.underlying155 hi hz0 hz1 hz2 rfl (by decide) _ _ _ rfl (World.ownsRow.alloc hO3.out _) ⟨wr.heap.size, 0, none⟩ 1 1 [.string X] rfl rfl (cell_one_new _ _ _) (by simp [Value.oneCell']) (by unfold maxLen; omega) (by omega) (by simp; omega) ?_; intro v' w3 hown' hgrow _)
    have R : Hid (OwnS w3 w.heap.size v' (doneB b s (pos + 1))) := by
     show OwnS _ _ _ _
     rw [S1.out]; exact OwnS.push (by rw [<- HDL.out]; exact hown')
    have B3 : Hid (Below w.heap.size w w3) := Below.grown (HB.out.alloc HB.out.size _) hgrow (by simp; omega) (fun j hj => (hO3.out.lt j hj).1); clear hown' hgrow; go_wp2; go_roundw
    case rel => exact ⟨pos + 1, by omega, by go_num, by rw [S2.out]; go_num, R.out, B3.out⟩
    case measure => simp [intOf]; omega
   ·have heq : s[pos]'hlt ≠ b := fun e => he (by rw [hc, e, HBN.out])
    obtain ⟨s1, s2⟩ := split_miss hlt heq; have S1 := lh s1; have S2 := lh s2; have t1 : (((((s[pos]'hlt).toNat : Nat) : Int)) == (bn : Int)) = false := by rw [<- hc, beq_eq_false_iff_ne]; omega
    clear heq s1 s2 he hc hxc; go_wp2; go_roundw
    case rel => exact ⟨pos + 1, by omega, by go_num, by rw [S2.out, <- HF.out], by rw [S1.out]; exact HO.out, HB.out⟩
    case measure => simp [intOf]; omega
  ·obtain rfl : pos = s.size := by omega
   have HE := lh (split_end b s); obtain ⟨X, hX⟩ : ∃ X, X = curB b s s.size := ⟨_, rfl⟩; replace hxc : s.extract f s.size = X := by rw [hX]; exact hxc
   rw [<- hX] at HE; have hO3 : Hid (wr.ownsRow w.heap.size 9 1 u5 (doneB b s s.size).length ((doneB b s s.size).map Value.string)) := HO.out; obtain ⟨dl, hdl2⟩ : ∃ dl, dl = (doneB b s s.size).length := ⟨_, rfl⟩; rw [<- hdl2] at hO3 hdl; have HDL := lh hdl2; have sz := HB.out.size; clear hX hdl2
   go_wp2_with (at_builtin; refine wpList_append_own _ rfl _ _ 155 rfl w.heap.size 9 i0 (.string ByteArray.empty) 1 16 Tryz.underlying155 hi hz0 hz1 hz2 rfl (by decide) _ _ _ rfl (World.ownsRow.alloc hO3.out _) ⟨wr.heap.size, 0, none⟩ 1 1 [.string X] rfl rfl (cell_one_new _ _ _) (by simp [Value.oneCell']) (by unfold maxLen; omega) (by omega) (by simp; omega) ?_; intro v' w3 hown' hgrow _)
   have R : Hid (OwnS w3 w.heap.size v' (sepL b 0 s)) := by
    show OwnS _ _ _ _
    rw [HE.out]; exact OwnS.push (by rw [<- HDL.out]; exact hown')
   have B3 : Hid (Below w.heap.size w w3) := Below.grown (HB.out.alloc HB.out.size _) hgrow (by simp; omega) (fun j hj => (hO3.out.lt j hj).1); clear hown' hgrow; go_wp2; go_ret; exact ⟨_, rfl, R.out, B3.out⟩
/-! ### Text -/
set_option maxHeartbeats 4000000 in
set_option maxRecDepth 100000 in
theorem refText_any (n : Nat) (w : World) (hn : n <= 9223372036854775807) :
  Calls Tryz.prog 209 #[.int .i64 n] w fun e w' => e = .returned (.string (itoaB n)) /\ Below w.heap.size w w' := by
 have hit : itoaB (n : Int) = ⟨(Lib.decDigits n).toArray⟩ := by unfold itoaB; rw [Lib.itoa_nonneg]
 rw [hit]
 by_cases h0 : n = 0
 ·subst h0; have e : (⟨(Lib.decDigits 0).toArray⟩ : ByteArray) = ⟨#[48]⟩ := by rw [Lib.decDigits_one (by omega)]; rfl
  rw [e]; clear hit e
  go_enter Tryz.func209, Tryz.ntmps209
  go_wp2
  go_ret
  exact ⟨rfl, Below.refl _ _⟩
 ·have hne : ((n : Int) == 0) = false := by rw [beq_eq_false_iff_ne]; omega
  clear hit
  go_enter Tryz.func209, Tryz.ntmps209
  go_wp2
  clear hne
  go_loopw [3, 4] (fun sv kv wr => ∃ (k : Nat) (l : List UInt8), kv = .int .i64 k /\ k <= n /\ sv = .string ⟨l.toArray⟩ /\ l.length <= 30 /\ Hid ((k = 0 -> l = Lib.decDigits n) /\ (0 < k -> Lib.decDigits n = Lib.decDigits k ++ l)) /\ Below w.heap.size w wr) (fun _ k _ => (intOf k).toNat)
  case atStart => exact ⟨n, [], rfl, Nat.le_refl _, rfl, by simp, ⟨fun h => absurd h h0, fun _ => by simp⟩, Below.refl _ _⟩
  case round =>
   obtain ⟨k, l, rfl, hk, rfl, hl, hrel2, hb⟩ := hrel; have HB := lh hb; clear hb
   by_cases hk0 : k = 0
   ·subst hk0; have hl2 := hrel2.out.1 rfl; subst hl2; clear hrel2; go_wp2; go_ret; exact ⟨rfl, HB.out⟩
   ·have hkk : ((k : Int) == 0) = false := by rw [beq_eq_false_iff_ne]; omega
    have hkn : ((k : Int) != 0) = true := by simp [hk0]
    have hk9 : k <= 9223372036854775807 := by omega
    have hm : max ((k : Int) % 10) (-((k : Int) % 10)) = (k : Int) % 10 := by omega
    obtain ⟨C, hC⟩ : ∃ C : UInt8, C = UInt8.ofNat (48 + k % 10) := ⟨_, rfl⟩; have hCn : (C.toNat : Int) = 48 + (k : Int) % 10 := by rw [hC, UInt8.toNat_ofNat']; omega
    have hcv : ∀ T, (convert 226 9 (.slice (some ⟨wr.heap.size, 0, none⟩) 1 1)).run Tryz.prog (wr.alloc (.cells #[.int .u8 (48 + (k : Int) % 10)] T)) = .ok (.string ⟨#[C]⟩) (wr.alloc (.cells #[.int .u8 (48 + (k : Int) % 10)] T)) := fun T =>
     run_convert_bytes_back (wr.alloc (.cells #[.int .u8 (48 + (k : Int) % 10)] T)) 226 9 5 ⟨wr.heap.size, 0, none⟩ 1 [C] Tryz.underlying226 Tryz.underlying5 Tryz.underlying9 (fun j hj => by
      obtain rfl : j = 0 := by simpa using hj
      show (wr.alloc _).cell? ⟨wr.heap.size, 0, none⟩ = _
      rw [(Blk.new wr _ _).cell 0]
      simp [hCn])
    have k1 : ∀ w', (Op.stringOp .add ⟨#[C]⟩ ⟨l.toArray⟩).run Tryz.prog w' = .ok (.string ⟨(C :: l).toArray⟩) w' := fun w' => by
     have := run_string_add_sum (P := Tryz.prog) w' (⟨#[C]⟩ : ByteArray) ⟨l.toArray⟩ (by show 1 + l.toArray.size <= _; rw [List.size_toArray]; omega); rw [this]
     congr 2
    have hnext : Hid ((k / 10 = 0 -> C :: l = Lib.decDigits n) /\ (0 < k / 10 -> Lib.decDigits n = Lib.decDigits (k / 10) ++ C :: l)) := by
     have hd := hrel2.out.2 (by omega)
     by_cases h10 : k < 10
     ·refine ⟨fun _ => ?_, fun h => by omega⟩; rw [hd, Lib.decDigits_one h10, hC, Nat.mod_eq_of_lt h10]
      rfl
     ·refine ⟨fun h => by omega, fun _ => ?_⟩; rw [hd, dec_snoc k h10, hC, List.append_assoc]
      rfl
    have hlen : (C :: l).length <= 30 := by
     have hd : (Lib.decDigits n).length <= 20 := by rw [Lib.decDigits_length]; exact Lib.nDigits_le20 _ (by omega)
     have h2 := hnext.out; rcases Nat.eq_zero_or_pos (k / 10) with h3 | h3
     ·have := h2.1 h3; rw [this]; omega
     ·have := congrArg List.length (h2.2 h3); rw [List.length_append] at this; omega
    have HB2 : ∀ cs T, Hid (Below w.heap.size w (wr.alloc (.cells cs T))) := fun cs T => HB.out.alloc HB.out.size _
    have HKN : Hid (k / 10 <= n) := by show _ <= _; omega
    have HL := lh hlen; have HK0 : Hid (k / 10 < k) := by show _ < _; omega
    clear hCn hC hrel2 hlen; go_wp2; go_roundw
    case rel => exact ⟨k / 10, C :: l, by go_num, HKN.out, rfl, HL.out, hnext, (HB2 _ _).out⟩
    case measure => have := HK0.out; simp [intOf]; omega
theorem ba_eq {a b : ByteArray} (h : a.data.toList = b.data.toList) : a = b := by
 cases a with
 | mk a =>
   cases b with
   | mk b =>
     have : a = b := Array.toList_inj.1 h; rw [this]
end Go.Proofs.YtmafmebcgmegeaaGreatDoor
