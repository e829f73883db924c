/- The reference's Parse. -/
import Derived.Test.YtoipafnlcchmbaaGreatDoorQOv
namespace Go.Proofs.YtoipafnlcchmbaaGreatDoor
open Go.RowKit Go.Sort

def doneL (s : ByteArray) : List (List UInt8) := (cutSt 10 s.data.toList).1
def curL (s : ByteArray) : List UInt8 := (cutSt 10 s.data.toList).2
def rowB (s : ByteArray) (j : Nat) : ByteArray := ⟨((doneL s).getD j []).toArray⟩
theorem rowB_list (s : ByteArray) (j : Nat) : (rowB s j).data.toList = (doneL s).getD j [] := rfl
theorem linesOf_eq (s : ByteArray) : linesOf s.data.toList = (doneL s).map (· ++ [10]) ++ if curL s = [] then [] else [curL s] := rfl
theorem curL_free (s : ByteArray) : (10 : UInt8) ∉ curL s := (cutSt_free_all 10 s.data.toList).2
/-- The words of a line, two or not. -/
theorem words_two (w : List UInt8) (k : Nat) (x : ByteArray) : ((sepL 32 0 x).length ≠ 2 ∧ numB w k x.data.toList = false) ∨
    ∃ a d : ByteArray, sepL 32 0 x = [a, d] ∧ numB w k x.data.toList = ((a.toList == w) && digB k d.data.toList) ∧ numV x.data.toList = digV d.data.toList ∧ d.size ≤ x.size := by
  have hs := sepL_size 32 x
  have e : sepL 32 0 x = (cuts 32 x.data.toList).map fun l => (⟨l.toArray⟩ : ByteArray) := by unfold sepL cuts; simp
  unfold numB numV
  rw [e] at hs ⊢
  generalize cuts 32 x.data.toList = C at hs ⊢
  clear e
  rcases C with _ | ⟨a, _ | ⟨d, _ | ⟨c, r⟩⟩⟩
  · left; simp
  · left; simp
  · right
    refine ⟨⟨a.toArray⟩, ⟨d.toArray⟩, rfl, ?_, rfl, hs _ (by simp)⟩
    rw [ByteArray.toList_eq]
  · left; simp
theorem parseR_long {s : ByteArray} (h : 4096 < s.size) : parseR s = ([], 0, 26) := by
  unfold parseR parseW
  rw [if_pos (by exact h)]
theorem parseR_none {s : ByteArray} (h : s.size ≤ 4096) (h0 : doneL s = []) : parseR s = ([], 0, 25) := by
  unfold parseR parseW
  rw [if_neg (by show ¬ 4096 < s.size; omega), linesOf_eq, h0]
  by_cases hc : curL s = []
  · rw [if_pos hc]; rfl
  · rw [if_neg hc]
    show (if lnB energiesL 9 (curL s) = false then _ else _) = _
    rw [if_pos (lnB_open _ _ _ (curL_free s))]
theorem parseR_first {s : ByteArray} {d : List UInt8} {D : List (List UInt8)} (h : s.size ≤ 4096) (h0 : doneL s = d :: D) (hb : numB energiesL 9 d = false) : parseR s = ([], 0, 25) := by
  unfold parseR parseW
  rw [if_neg (by show ¬ 4096 < s.size; omega), linesOf_eq, h0]
  show (if lnB energiesL 9 (d ++ [10]) = false then _ else _) = _
  rw [if_pos (by rw [(lnB_ended _ _ _).1]; exact hb)]
/-- The lines behind the first one. -/
def restL (s : ByteArray) (D : List (List UInt8)) : List (List UInt8) := D.map (· ++ [10]) ++ if curL s = [] then [] else [curL s]
theorem badAt_app (w : List UInt8) (k : Nat) : ∀ (D : List (List UInt8)) (j : Nat) (R : List (List UInt8)), (∀ i, i < j → numB w k (D.getD i []) = true) → j ≤ D.length → badAt w k (D.map (· ++ [10]) ++ R) = j + badAt w k ((D.drop j).map (· ++ [10]) ++ R)
  | D, 0, R, _, _ => by simp
  | [], j + 1, R, _, h => by simp at h
  | d :: D, j + 1, R, hg, h => by
    have h0 : numB w k d = true := hg 0 (by omega)
    have ih := badAt_app w k D j R (fun i hi => by have := hg (i + 1) (by omega); simpa using this) (by simp at h; omega)
    rw [List.map_cons, List.cons_append, badAt_cons_good _ (by rw [(lnB_ended w k d).1]; exact h0), ih, List.drop_succ_cons]
    omega
theorem parseR_line {s : ByteArray} {d : List UInt8} {D : List (List UInt8)} {j : Nat} (h : s.size ≤ 4096) (h0 : doneL s = d :: D) (hb : numB energiesL 9 d = true) (hg : ∀ i, i < j → numB energyL 15 (D.getD i []) = true) (hj : j < D.length) (hbad : numB energyL 15 (D.getD j []) = false) :
    parseR s = ([], j + 1, 25) := by
  unfold parseR parseW
  rw [if_neg (by show ¬ 4096 < s.size; omega), linesOf_eq, h0]
  show (if lnB energiesL 9 (d ++ [10]) = false then _ else if badAt energyL 15 (restL s D) < (restL s D).length then ([], badAt energyL 15 (restL s D) + 1, 25) else _) = _
  have e : badAt energyL 15 (restL s D) = j := by
    unfold restL
    rw [badAt_app energyL 15 D j _ hg (by omega)]
    rw [List.drop_eq_getElem_cons hj, List.map_cons, List.cons_append]
    have hbad2 : numB energyL 15 D[j] = false := by simpa [List.getD_eq_getElem?_getD, List.getElem?_eq_getElem hj] using hbad
    rw [badAt_cons_bad _ (by rw [(lnB_ended _ _ _).1]; exact hbad2)]
    omega
  rw [if_neg (by rw [(lnB_ended _ _ _).1, hb]; simp), e, if_pos (by unfold restL; rw [List.length_append, List.length_map]; omega)]
theorem parseR_open {s : ByteArray} {d : List UInt8} {D : List (List UInt8)} (h : s.size ≤ 4096) (h0 : doneL s = d :: D) (hb : numB energiesL 9 d = true) (hg : ∀ i, i < D.length → numB energyL 15 (D.getD i []) = true) (hc : curL s ≠ []) :
    parseR s = ([], D.length + 1, 25) := by
  unfold parseR parseW
  rw [if_neg (by show ¬ 4096 < s.size; omega), linesOf_eq, h0]
  show (if lnB energiesL 9 (d ++ [10]) = false then _ else if badAt energyL 15 (restL s D) < (restL s D).length then ([], badAt energyL 15 (restL s D) + 1, 25) else _) = _
  have e : badAt energyL 15 (restL s D) = D.length := by
    unfold restL
    rw [badAt_app energyL 15 D D.length _ hg (Nat.le_refl _), List.drop_length, if_neg hc]
    rw [List.map_nil, List.nil_append, badAt_cons_bad _ (lnB_open _ _ _ (curL_free s))]
    rfl
  rw [if_neg (by rw [(lnB_ended _ _ _).1, hb]; simp), e, if_pos (by unfold restL; rw [if_neg hc, List.length_append, List.length_map]; simp)]
theorem parseR_whole {s : ByteArray} {d : List UInt8} {D : List (List UInt8)} (h : s.size ≤ 4096) (h0 : doneL s = d :: D) (hb : numB energiesL 9 d = true) (hg : ∀ i, i < D.length → numB energyL 15 (D.getD i []) = true) (hc : curL s = []) :
    parseR s = if numV d ≠ D.length then ([], D.length + 1, 2) else if checkEnergiesE (D.map numV) ≠ 0 then ([], D.length + 1, checkEnergiesE (D.map numV)) else (D.map numV, 0, 0) := by
  unfold parseR parseW
  rw [if_neg (by show ¬ 4096 < s.size; omega), linesOf_eq, h0]
  show (if lnB energiesL 9 (d ++ [10]) = false then _ else if badAt energyL 15 (restL s D) < (restL s D).length then ([], badAt energyL 15 (restL s D) + 1, 25) else if lnV (d ++ [10]) ≠ (restL s D).length then ([], (restL s D).length + 1, 2) else if checkEnergiesE ((restL s D).map lnV) ≠ 0 then ([], (restL s D).length + 1, checkEnergiesE ((restL s D).map lnV)) else ((restL s D).map lnV, 0, 0)) = _
  have er : restL s D = D.map (· ++ [10]) := by unfold restL; rw [if_pos hc, List.append_nil]
  have e : badAt energyL 15 (restL s D) = D.length := by
    unfold restL
    rw [badAt_app energyL 15 D D.length _ hg (Nat.le_refl _), List.drop_length, if_pos hc]
    rfl
  have el : (restL s D).length = D.length := by rw [er]; simp
  have ev : (restL s D).map lnV = D.map numV := by
    rw [er, List.map_map]
    exact List.map_congr_left fun p _ => (lnB_ended [] 0 p).2
  rw [if_neg (by rw [(lnB_ended _ _ _).1, hb]; simp), e, el, if_neg (by omega), (lnB_ended [] 0 d).2, ev]

def linesV (s : ByteArray) : List ByteArray := sepL 10 0 s
theorem linesV_len (s : ByteArray) : (linesV s).length = (doneL s).length + 1 := sepL_len 10 0 s
theorem linesV_row (s : ByteArray) (j : Nat) (h : j < (doneL s).length) : (linesV s)[j]? = some (rowB s j) := by
  unfold linesV sepL rowB
  rw [List.getElem?_map, List.getElem?_append_left (by rw [List.length_map]; exact h), List.getElem?_map, List.getD_eq_getElem?_getD]
  unfold doneL at h ⊢
  rw [List.getElem?_eq_getElem h]
  simp
theorem linesV_last (s : ByteArray) : (linesV s)[(doneL s).length]? = some ⟨(curL s).toArray⟩ := by
  unfold linesV sepL doneL curL
  rw [List.getElem?_map, List.getElem?_append_right (by rw [List.length_map]; exact Nat.le_refl _), List.length_map, Nat.sub_self]
  rfl
theorem rowB_size (s : ByteArray) (j : Nat) (h : j < (doneL s).length) : (rowB s j).size ≤ s.size := sepL_size 10 s _ (List.mem_of_getElem? (linesV_row s j h))
/-- What holds ahead of the line j. -/
def PInv (s : ByteArray) (j : Nat) (M : Int) (O : List Int) : Prop :=
  (j = 0 → M = 0 ∧ O = []) ∧ (0 < j → ∃ d D, doneL s = d :: D ∧ numB energiesL 9 d = true ∧ M = numV d ∧ O = (D.take (j - 1)).map numV ∧ ∀ i, i < j - 1 → numB energyL 15 (D.getD i []) = true)
theorem PInv.first {s : ByteArray} (h : 0 < (doneL s).length) (hb : numB energiesL 9 (rowB s 0).data.toList = true) : PInv s 1 (numV (rowB s 0).data.toList) [] := by
  refine ⟨fun e => by omega, fun _ => ?_⟩
  rw [rowB_list] at *
  cases hd : doneL s with
  | nil => rw [hd] at h; simp at h
  | cons d D =>
    rw [hd] at hb
    exact ⟨d, D, rfl, hb, rfl, by simp, fun i hi => by omega⟩
theorem PInv.next {s : ByteArray} {j : Nat} {M : Int} {O : List Int} (h : PInv s j M O) (hj : j < (doneL s).length) (h0 : 0 < j) (hb : numB energyL 15 (rowB s j).data.toList = true) : PInv s (j + 1) M (O ++ [numV (rowB s j).data.toList]) := by
  refine ⟨fun e => by omega, fun _ => ?_⟩
  obtain ⟨d, D, hd, h1, h2, h3, h4⟩ := h.2 h0
  rw [rowB_list, hd] at hb ⊢
  obtain ⟨i, rfl⟩ : ∃ i, j = i + 1 := ⟨j - 1, by omega⟩
  rw [hd] at hj
  simp only [List.length_cons] at hj
  rw [List.getD_cons_succ] at hb ⊢
  simp only [Nat.add_sub_cancel] at h3 h4 ⊢
  refine ⟨d, D, rfl, h1, h2, ?_, fun q hq => ?_⟩
  · rw [h3, List.take_succ_eq_append_getElem (by omega), List.map_append]
    simp [List.getD_eq_getElem?_getD, List.getElem?_eq_getElem (show i < D.length by omega)]
  · rcases Nat.lt_or_ge q i with hq2 | hq2
    · exact h4 q hq2
    · obtain rfl : q = i := by omega
      exact hb
theorem PInv.bad {s : ByteArray} {j : Nat} {M : Int} {O : List Int} (h : PInv s j M O) (hs : s.size ≤ 4096) (hj : j < (doneL s).length) (hb : (j = 0 → numB energiesL 9 (rowB s j).data.toList = false) ∧ (0 < j → numB energyL 15 (rowB s j).data.toList = false)) : parseR s = ([], j, 25) := by
  rcases Nat.eq_zero_or_pos j with h0 | h0
  · subst h0
    have hb := hb.1 rfl
    rw [rowB_list] at hb
    cases hd : doneL s with
    | nil => rw [hd] at hj; simp at hj
    | cons d D => rw [hd] at hb; exact parseR_first hs hd hb
  · have hb := hb.2 h0
    obtain ⟨d, D, hd, h1, h2, h3, h4⟩ := h.2 h0
    rw [rowB_list, hd] at hb
    obtain ⟨i, rfl⟩ : ∃ i, j = i + 1 := ⟨j - 1, by omega⟩
    rw [hd] at hj
    simp only [List.length_cons] at hj
    rw [List.getD_cons_succ] at hb
    exact parseR_line hs hd h1 (by simpa using h4) (by omega) hb
theorem PInv.open {s : ByteArray} {M : Int} {O : List Int} (h : PInv s (doneL s).length M O) (hs : s.size ≤ 4096) (hc : curL s ≠ []) : parseR s = ([], (doneL s).length, 25) := by
  rcases Nat.eq_zero_or_pos (doneL s).length with h0 | h0
  · rw [h0]; exact parseR_none hs (List.eq_nil_of_length_eq_zero h0)
  · obtain ⟨d, D, hd, h1, h2, h3, h4⟩ := h.2 h0
    rw [hd] at h4 ⊢
    exact parseR_open hs hd h1 (by simpa using h4) hc
theorem PInv.whole {s : ByteArray} {M : Int} {O : List Int} (h : PInv s (doneL s).length M O) (hs : s.size ≤ 4096) (h0 : s.size ≠ 0) (hc : curL s = []) :
    parseR s = if M ≠ O.length then ([], (doneL s).length, 2) else if checkEnergiesE O ≠ 0 then ([], (doneL s).length, checkEnergiesE O) else (O, 0, 0) := by
  have hp : 0 < (doneL s).length := by
    rcases Nat.eq_zero_or_pos (doneL s).length with h1 | h1
    · exfalso
      have hb := cutSt_back 10 s.data.toList
      rw [show (cutSt 10 s.data.toList).1 = [] from List.eq_nil_of_length_eq_zero h1, show (cutSt 10 s.data.toList).2 = [] from hc] at hb
      exact h0 (by have := congrArg List.length hb; exact this.symm)
    · exact h1
  obtain ⟨d, D, hd, h1, h2, h3, h4⟩ := h.2 hp
  rw [hd] at h3 h4 ⊢
  simp only [List.length_cons, Nat.add_sub_cancel, List.take_length] at h3 h4 ⊢
  rw [parseR_whole hs hd h1 h4 hc, h2, h3, List.length_map]

set_option maxHeartbeats 8000000 in
set_option maxRecDepth 100000 in
theorem refParse_any (s : ByteArray) (w : World) (hs : s.size ≤ 140737488351232) :
    Calls Tryz.prog 95 #[.string s] w (ParsePost w s) := by
  have hnil : ∀ W, Hid (IntsAt W none 0 []) := fun W => ⟨rfl, fun h => by omega⟩
  by_cases hlong : 4096 < s.size
  · have hd : decide ((4096 : Int) < (s.size : Int)) = true := by simp; omega
    have R := Lib.hid (parseR_long hlong)
    clear hlong
    go_enter Tryz.func95, Tryz.ntmps95
    go_wp2
    refine bodyPost_ret (v := .tuple #[.slice none 0 0, .int .i64 0, .int .i64 26]) (by simp [results, Tryz.results95, go_sem]) rfl (ParsePost.of R.out rfl (hnil _).out (fun _ => rfl) (Below.refl _ _))
  · have hd : decide ((4096 : Int) < (s.size : Int)) = false := by simp; omega
    have hsz : s.size ≤ 4096 := by omega
    by_cases h0 : s.size = 0
    · have he : s.toList = [] := empty_toList h0
      have R := Lib.hid (parseR_none hsz (by
        have : s.data.toList = [] := List.eq_nil_of_length_eq_zero h0
        unfold doneL; rw [this]; rfl))
      clear h0 hlong hs hsz
      go_enter Tryz.func95, Tryz.ntmps95
      go_wp2
      refine bodyPost_ret (v := .tuple #[.slice none 0 0, .int .i64 0, .int .i64 25]) (by simp [results, Tryz.results95, go_sem]) rfl (ParsePost.of R.out rfl (hnil _).out (fun _ => rfl) (Below.refl _ _))
    · have hne : s.toList.isEmpty = false := nonempty_toList h0
      obtain ⟨i0, hi, hz0, hz1, hz2⟩ := info_parts infoInt
      have HS10 := fun W => Lib.hid (refSplit_any 10 s W (by omega))
      rw [show ((10 : UInt8).toNat : Int) = 10 from rfl, show sepL 10 0 s = linesV s from rfl] at HS10
      have hlen := linesV_len s
      have hle := sepL_le 10 0 s
      obtain ⟨n, hn⟩ : ∃ n, n = (doneL s).length := ⟨_, rfl⟩
      rw [← hn] at hlen
      have hn2 : n ≤ 5000 := by
        have e : (sepL 10 0 s).length = n + 1 := hlen
        omega
      have HN := Lib.hid hn
      have HLEN := Lib.hid hlen
      have HSZ := Lib.hid hsz
      have H0 := Lib.hid h0
      clear hlen hle hn hlong hs hsz h0
      go_enter Tryz.func95, Tryz.ntmps95
      go_wp2_with fail
      refine (HS10 _).out.mono ?_
      rintro e w1 ⟨v, rfl, hO, hb⟩
      obtain ⟨A, c, rfl, hc, hA, hf⟩ := hO.form
      have HB := Lib.hid hb
      rw [HLEN.out] at hf hc ⊢
      obtain ⟨g, rfl, hg, hx⟩ := hf (by omega)
      have HX := Lib.hid hx
      clear hO hb hA hc hf hx hd hne
      go_wp2
      go_loopw [7, 8, 9, 10, 11, 12, 13, 14] (fun many out i _ _ _ _ _ wr => ∃ (j : Nat) (M : Int) (O : List Int), j ≤ n ∧ i = .int .i64 j ∧ many = .int .i64 M ∧ OwnI wr w1.heap.size out O ∧ Below w1.heap.size w1 wr ∧ Hid (PInv s j M O) ∧ O.length ≤ j) (fun _ _ i _ _ _ _ _ _ => n - (intOf i).toNat)
      case atStart => exact ⟨0, 0, [], Nat.zero_le _, rfl, rfl, OwnI.nil _ _, Below.refl _ _, ⟨fun _ => ⟨rfl, rfl⟩, fun h => by omega⟩, Nat.zero_le _⟩
      case round =>
        obtain ⟨j, M, O, hj, rfl, rfl, hown, hb1, hinv, hol⟩ := hrel
        have HBW : Hid (Below w.heap.size w wr) := HB.out.trans (hb1.mono HB.out.size)
        have HO := Lib.hid hown
        have HB1 := Lib.hid hb1
        by_cases hlt : j < n
        · have hjd : j < (doneL s).length := by rw [← HN.out]; exact hlt
          have hcell : wr.cell? ⟨g, j, none⟩ = some (.string (rowB s j)) := by
            have h1 := HX.out j _ (linesV_row s j hjd)
            rw [Nat.zero_add] at h1
            rw [hb1.cell (p := ⟨g, j, none⟩) hg]
            exact h1
          have hxs := rowB_size s j hjd
          obtain ⟨x, hx⟩ : ∃ x, x = rowB s j := ⟨_, rfl⟩
          rw [← hx] at hcell hxs
          have HXX := Lib.hid hx
          have hxs2 : x.size ≤ 4096 := Nat.le_trans hxs HSZ.out
          have HSP := fun W => Lib.hid (refSplit_any 32 x W (by omega))
          rw [show ((32 : UInt8).toNat : Int) = 32 from rfl] at HSP
          have HJD := Lib.hid hjd
          clear hxs hx hown hb1 hjd
          rcases Nat.eq_zero_or_pos j with hj0 | hj0
          · subst hj0
            rcases words_two energiesL 9 x with ⟨hw, hnb⟩ | ⟨a, d, hw, hnb, hnv, hds⟩
            · have R := Lib.hid (hinv.out.bad HSZ.out HJD.out ⟨fun _ => by rw [← HXX.out]; exact hnb, fun h => by omega⟩)
              obtain ⟨m, hm⟩ : ∃ m, m = (sepL 32 0 x).length := ⟨_, rfl⟩
              rw [← hm] at hw
              have HM := Lib.hid hm
              have hd2 : ((m : Int) != 2) = true := by simp; omega
              clear hnb hm hw
              go_wp2_with fail
              refine (HSP _).out.mono ?_
              rintro e w2 ⟨v, rfl, hO2, hb2⟩
              obtain ⟨A2, c2, rfl, _, _, _⟩ := hO2.at
              rw [← HM.out]
              have HB2 : Hid (Below w.heap.size w w2) := HBW.out.trans (hb2.mono HBW.out.size)
              clear hO2 hb2
              go_wp2
              refine bodyPost_ret (v := .tuple #[.slice none 0 0, .int .i64 0, .int .i64 25]) (by simp [results, Tryz.results95, go_sem]) rfl (ParsePost.of R.out rfl (hnil _).out (fun _ => rfl) HB2.out)
            · have HW2 := Lib.hid hw
              obtain ⟨D, hD⟩ : ∃ D, D = digB 9 d.data.toList := ⟨_, rfl⟩
              have HDG := fun W => Lib.hid (refDigits_any d W (by omega))
              rw [← hD] at HDG hnb
              have HNB := Lib.hid hnb
              have HIV : Hid (D = true → intV 9 d = numV x.data.toList) := fun h => by unfold intV; rw [if_pos (by rw [← hD]; exact h), hnv]
              have HBAD : Hid (numB energiesL 9 x.data.toList = false → parseR s = ([], 0, 25)) := fun h => hinv.out.bad HSZ.out HJD.out ⟨fun _ => by rw [← HXX.out]; exact h, fun h => by omega⟩
              have HGOOD : Hid (numB energiesL 9 x.data.toList = true → PInv s 1 (numV x.data.toList) []) := fun h => by
                rw [HXX.out] at h ⊢
                exact PInv.first HJD.out h
              have HOO : Hid (O = []) := (hinv.out.1 rfl).2
              obtain ⟨V, hV⟩ : ∃ V, V = intV 9 d := ⟨_, rfl⟩
              rw [← hV] at HDG HIV
              clear hw hnb hnv hds hD hV
              go_wp2_with fail
              refine (HSP _).out.mono ?_
              rintro e w2 ⟨v, rfl, hO2, hb2⟩
              obtain ⟨A2, c2, rfl, hc2, hA2, hf2⟩ := hO2.form
              rw [HW2.out] at hf2 hc2 ⊢
              obtain ⟨g2, rfl, hg2, hx2⟩ := hf2 (by simp)
              have q0 : w2.cell? ⟨g2, 0, none⟩ = some (.string a) := hx2 0 a rfl
              have q1 : w2.cell? ⟨g2, 1, none⟩ = some (.string d) := hx2 1 d rfl
              have e2 : [a, d].length = 2 := rfl
              rw [e2] at hc2 ⊢
              have HB2 : Hid (Below w.heap.size w w2) := HBW.out.trans (hb2.mono HBW.out.size)
              have HB3 : Hid (Below w1.heap.size w1 w2) := HB1.out.trans (hb2.mono HB1.out.size)
              have HO2 := Lib.hid (HO.out.below hb2)
              clear hO2 hb2 hf2 hx2 hc2 hA2 e2
              cases D with
              | false =>
                have R := HBAD.out (by rw [HNB.out]; simp)
                have RR := Lib.hid R
                clear R
                go_wp2_with fail
                refine (HDG _).out.mono ?_
                rintro e w3 ⟨rfl, rfl⟩
                go_wp2
                refine bodyPost_ret (v := .tuple #[.slice none 0 0, .int .i64 0, .int .i64 25]) (by simp [results, Tryz.results95, go_sem]) rfl (ParsePost.of RR.out rfl (hnil _).out (fun _ => rfl) HB2.out)
              | true =>
                obtain ⟨E, hE⟩ : ∃ E, E = (a.toList == energiesL) := ⟨_, rfl⟩
                have HE := Lib.hid hE
                clear hE
                cases E with
                | false =>
                  have R := HBAD.out (by rw [HNB.out, ← HE.out]; simp)
                  have RR := Lib.hid R
                  have hd2 : (a.toList == [101, 110, 101, 114, 103, 105, 101, 115]) = false := HE.out.symm
                  clear R
                  go_wp2_with fail
                  refine (HDG _).out.mono ?_
                  rintro e w3 ⟨rfl, rfl⟩
                  go_wp2
                  refine bodyPost_ret (v := .tuple #[.slice none 0 0, .int .i64 0, .int .i64 25]) (by simp [results, Tryz.results95, go_sem]) rfl (ParsePost.of RR.out rfl (hnil _).out (fun _ => rfl) HB2.out)
                | true =>
                  have hd2 : (a.toList == [101, 110, 101, 114, 103, 105, 101, 115]) = true := HE.out.symm
                  have HG2 := Lib.hid (HGOOD.out (by rw [HNB.out, ← HE.out]; simp))
                  rw [← HIV.out rfl] at HG2
                  have HO3 : Hid (OwnI w2 w1.heap.size u8 []) := by show OwnI _ _ _ _; have := HO2.out; rwa [HOO.out] at this
                  go_wp2_with fail
                  refine (HDG _).out.mono ?_
                  rintro e w3 ⟨rfl, rfl⟩
                  go_wp2
                  go_roundw
                  case rel => exact ⟨1, V, [], by omega, by go_num, rfl, HO3.out, HB3.out, HG2, by simp⟩
                  case measure => simp [intOf]; omega
          · rcases words_two energyL 15 x with ⟨hw, hnb⟩ | ⟨a, d, hw, hnb, hnv, hds⟩
            · have R := Lib.hid (hinv.out.bad HSZ.out HJD.out ⟨fun h => by omega, fun _ => by rw [← HXX.out]; exact hnb⟩)
              obtain ⟨m, hm⟩ : ∃ m, m = (sepL 32 0 x).length := ⟨_, rfl⟩
              rw [← hm] at hw
              have HM := Lib.hid hm
              have hd2 : ((m : Int) != 2) = true := by simp; omega
              clear hnb hm hw
              go_wp2_with fail
              refine (HSP _).out.mono ?_
              rintro e w2 ⟨v, rfl, hO2, hb2⟩
              obtain ⟨A2, c2, rfl, _, _, _⟩ := hO2.at
              rw [← HM.out]
              have HB2 : Hid (Below w.heap.size w w2) := HBW.out.trans (hb2.mono HBW.out.size)
              clear hO2 hb2
              go_wp2
              refine bodyPost_ret (v := .tuple #[.slice none 0 0, .int .i64 j, .int .i64 25]) (by simp [results, Tryz.results95, go_sem]) rfl (ParsePost.of R.out rfl (hnil _).out (fun _ => rfl) HB2.out)
            · have HW2 := Lib.hid hw
              obtain ⟨D, hD⟩ : ∃ D, D = digB 15 d.data.toList := ⟨_, rfl⟩
              have HDG := fun W => Lib.hid (refLong_any d W (by omega))
              rw [← hD] at HDG hnb
              have HNB := Lib.hid hnb
              have HIV : Hid (D = true → intV 15 d = numV x.data.toList) := fun h => by unfold intV; rw [if_pos (by rw [← hD]; exact h), hnv]
              have HBAD : Hid (numB energyL 15 x.data.toList = false → parseR s = ([], j, 25)) := fun h => hinv.out.bad HSZ.out HJD.out ⟨fun h => by omega, fun _ => by rw [← HXX.out]; exact h⟩
              have HGOOD : Hid (numB energyL 15 x.data.toList = true → PInv s (j + 1) M (O ++ [numV x.data.toList])) := fun h => by
                rw [HXX.out] at h ⊢
                exact hinv.out.next HJD.out hj0 h
              obtain ⟨V, hV⟩ : ∃ V, V = intV 15 d := ⟨_, rfl⟩
              rw [← hV] at HDG HIV
              clear hw hnb hnv hds hD hV
              go_wp2_with fail
              refine (HSP _).out.mono ?_
              rintro e w2 ⟨v, rfl, hO2, hb2⟩
              obtain ⟨A2, c2, rfl, hc2, hA2, hf2⟩ := hO2.form
              rw [HW2.out] at hf2 hc2 ⊢
              obtain ⟨g2, rfl, hg2, hx2⟩ := hf2 (by simp)
              have q0 : w2.cell? ⟨g2, 0, none⟩ = some (.string a) := hx2 0 a rfl
              have q1 : w2.cell? ⟨g2, 1, none⟩ = some (.string d) := hx2 1 d rfl
              have e2 : [a, d].length = 2 := rfl
              rw [e2] at hc2 ⊢
              have HB2 : Hid (Below w.heap.size w w2) := HBW.out.trans (hb2.mono HBW.out.size)
              have HB3 : Hid (Below w1.heap.size w1 w2) := HB1.out.trans (hb2.mono HB1.out.size)
              have HO2 := Lib.hid (HO.out.below hb2)
              clear hO2 hb2 hf2 hx2 hc2 hA2 e2
              cases D with
              | false =>
                have R := HBAD.out (by rw [HNB.out]; simp)
                have RR := Lib.hid R
                clear R
                go_wp2_with fail
                refine (HDG _).out.mono ?_
                rintro e w3 ⟨rfl, rfl⟩
                go_wp2
                refine bodyPost_ret (v := .tuple #[.slice none 0 0, .int .i64 j, .int .i64 25]) (by simp [results, Tryz.results95, go_sem]) rfl (ParsePost.of RR.out rfl (hnil _).out (fun _ => rfl) HB2.out)
              | true =>
                obtain ⟨E, hE⟩ : ∃ E, E = (a.toList == energyL) := ⟨_, rfl⟩
                have HE := Lib.hid hE
                clear hE
                cases E with
                | false =>
                  have R := HBAD.out (by rw [HNB.out, ← HE.out]; simp)
                  have RR := Lib.hid R
                  have hd2 : (a.toList == [101, 110, 101, 114, 103, 121]) = false := HE.out.symm
                  clear R
                  go_wp2_with fail
                  refine (HDG _).out.mono ?_
                  rintro e w3 ⟨rfl, rfl⟩
                  go_wp2
                  refine bodyPost_ret (v := .tuple #[.slice none 0 0, .int .i64 j, .int .i64 25]) (by simp [results, Tryz.results95, go_sem]) rfl (ParsePost.of RR.out rfl (hnil _).out (fun _ => rfl) HB2.out)
                | true =>
                  have hd2 : (a.toList == [101, 110, 101, 114, 103, 121]) = true := HE.out.symm
                  have HG2 := Lib.hid (HGOOD.out (by rw [HNB.out, ← HE.out]; simp))
                  rw [← HIV.out rfl] at HG2
                  have hO3 : Hid (w2.ownsRow w1.heap.size 3 1 u8 O.length (O.map (Value.int .i64))) := HO2.out
                  obtain ⟨ol, hol2⟩ : ∃ ol, ol = O.length := ⟨_, rfl⟩
                  rw [← hol2] at hO3 hol
                  have HOL := Lib.hid hol2
                  have sz2 := HB3.out.size
                  clear hol2
                  go_wp2_with fail
                  refine (HDG _).out.mono ?_
                  rintro e w3 ⟨rfl, rfl⟩
                  go_wp2_with (at_builtin; refine wpList_append_own _ rfl _ _ 26 rfl w1.heap.size 3 i0 (.int .i64 0) 1 8 Tryz.underlying26 hi hz0 hz1 hz2 rfl (by decide) _ _ _ rfl (World.ownsRow.alloc hO3.out _) ⟨w2.heap.size, 0, none⟩ 1 1 [.int .i64 V] rfl rfl (cell_one_new _ _ _) (by simp [Value.oneCell']) (by unfold maxLen; omega) (by omega) (by simp; omega) ?_; intro v' w4 hown' hgrow _)
                  have R : Hid (OwnI w4 w1.heap.size v' (O ++ [V])) := by
                    show OwnI _ _ _ _
                    unfold OwnI
                    rw [List.length_append, ← HOL.out, List.map_append]
                    exact hown'
                  have B3 : Hid (Below w1.heap.size w1 w4) := Below.grown (HB3.out.alloc HB3.out.size _) hgrow (by simp; omega) (fun j hj => (hO3.out.lt j hj).1)
                  clear hown' hgrow
                  go_wp2
                  go_roundw
                  case rel => exact ⟨j + 1, M, O ++ [V], by omega, by go_num, rfl, R.out, B3.out, HG2, by rw [List.length_append, ← HOL.out]; simp; omega⟩
                  case measure => simp [intOf]; omega
        · obtain rfl : j = n := by omega
          have hcell : wr.cell? ⟨g, j, none⟩ = some (.string ⟨(curL s).toArray⟩) := by
            have h1 := HX.out j _ (by rw [HN.out]; exact linesV_last s)
            rw [Nat.zero_add] at h1
            rw [hb1.cell (p := ⟨g, j, none⟩) hg]
            exact h1
          have hinv2 : Hid (PInv s (doneL s).length M O) := by show PInv _ _ _ _; rw [← HN.out]; exact hinv.out
          obtain ⟨c', hc'⟩ : ∃ c' : ByteArray, c' = ⟨(curL s).toArray⟩ := ⟨_, rfl⟩
          rw [← hc'] at hcell
          have hcl : c'.data.toList = curL s := by rw [hc']
          have tl : c'.toList = c'.data.toList := ByteArray.toList_eq c'
          clear hown hb1 hc'
          by_cases hcur : curL s = []
          · have t0 : c'.toList = [] := by rw [tl, hcl, hcur]
            have W := Lib.hid (hinv2.out.whole HSZ.out H0.out hcur)
            rw [← HN.out] at W
            obtain ⟨A, cc, rfl, hA⟩ := HO.out.shape
            have HI := Lib.hid HO.out.at_
            have HAA := Lib.hid hA
            obtain ⟨ol, hol2⟩ : ∃ ol, ol = O.length := ⟨_, rfl⟩
            rw [← hol2] at hol HI W ⊢
            have HOL := Lib.hid hol2
            obtain ⟨E, hE⟩ : ∃ E, E = checkEnergiesE O := ⟨_, rfl⟩
            rw [← hE] at W
            have HE := Lib.hid hE
            have hol3 : ol ≤ 140737488351232 := by omega
            clear tl hcl hcur hA hol2 hE
            obtain ⟨b, hb⟩ : ∃ b : Bool, b = ((ol : Int) != M) := ⟨_, rfl⟩
            have HBB := Lib.hid hb
            have hbm : Hid (b = true ↔ M ≠ (ol : Int)) := by
              show _ ↔ _
              rw [hb]; simp; exact ⟨fun h e => h e.symm, fun h e => h e.symm⟩
            have hbe : ((ol : Int) != M) = b := hb.symm
            clear hb
            cases b with
            | true =>
              have R : Hid (parseR s = ([], j, 2)) := by show _ = _; rw [W.out, if_pos (hbm.out.1 rfl)]
              have e3 : firstE [2, E] = 2 := by simp [firstE]
              have E3 := Lib.hid e3
              clear e3
              go_wp2_with fail
              refine (refWhen_any true 2 _).mono ?_
              rintro e w3 ⟨rfl, rfl⟩
              go_wp2_with fail
              refine (refCheckEnergies_any A ol cc O _ hol3 HI.out).mono ?_
              rintro e w3 ⟨rfl, rfl⟩
              rw [← HE.out]
              go_wp2_with fail
              refine (refFirst2 _ _ 2 E _ (by go_simp) (by go_simp)).mono ?_
              rw [E3.out]
              rintro e w3 ⟨rfl, rfl⟩
              go_wp2
              refine bodyPost_ret (v := .tuple #[.slice none 0 0, .int .i64 j, .int .i64 2]) (by simp [results, Tryz.results95, go_sem]) rfl (ParsePost.of R.out rfl (hnil _).out (fun _ => rfl) (HBW.out.alloc HBW.out.size _))
            | false =>
              by_cases hE0 : E = 0
              · have R : Hid (parseR s = (O, 0, 0)) := by show _ = _; rw [W.out, if_neg (fun h => by have := hbm.out.2 h; cases this), if_neg (by simpa using hE0)]
                have e3 : firstE [0, E] = 0 := by simp [firstE, hE0]
                have E3 := Lib.hid e3
                clear e3 hE0
                go_wp2_with fail
                refine (refWhen_any false 2 _).mono ?_
                rintro e w3 ⟨rfl, rfl⟩
                go_wp2_with fail
                refine (refCheckEnergies_any A ol cc O _ hol3 HI.out).mono ?_
                rintro e w3 ⟨rfl, rfl⟩
                rw [← HE.out]
                go_wp2_with fail
                refine (refFirst2 _ _ 0 E _ (by go_simp) (by go_simp)).mono ?_
                rw [E3.out]
                rintro e w3 ⟨rfl, rfl⟩
                go_wp2
                refine bodyPost_ret (v := .tuple #[.slice A ol cc, .int .i64 0, .int .i64 0]) (by simp [results, Tryz.results95, go_sem]) rfl (ParsePost.of R.out (by rw [HOL.out]; rfl) ?_ HAA.out (HBW.out.alloc HBW.out.size _))
                rw [← HOL.out]
                exact HI.out.keep ((Below.refl _ _).alloc (Nat.le_refl _) _)
              · have R : Hid (parseR s = ([], j, E)) := by show _ = _; rw [W.out, if_neg (fun h => by have := hbm.out.2 h; cases this), if_pos hE0]
                have e3 : firstE [0, E] = E := by simp [firstE]; exact fun h => h.symm
                have q1 : (E != 0) = true := by simp [hE0]
                have E3 := Lib.hid e3
                clear e3 hE0
                go_wp2_with fail
                refine (refWhen_any false 2 _).mono ?_
                rintro e w3 ⟨rfl, rfl⟩
                go_wp2_with fail
                refine (refCheckEnergies_any A ol cc O _ hol3 HI.out).mono ?_
                rintro e w3 ⟨rfl, rfl⟩
                rw [← HE.out]
                go_wp2_with fail
                refine (refFirst2 _ _ 0 E _ (by go_simp) (by go_simp)).mono ?_
                rw [E3.out]
                rintro e w3 ⟨rfl, rfl⟩
                go_wp2
                refine bodyPost_ret (v := .tuple #[.slice none 0 0, .int .i64 j, .int .i64 E]) (by simp [results, Tryz.results95, go_sem]) rfl (ParsePost.of R.out rfl (hnil _).out (fun _ => rfl) (HBW.out.alloc HBW.out.size _))
          · have t0 : c'.toList.isEmpty = false := by
              rw [tl, hcl]
              cases h : curL s with
              | nil => exact absurd h hcur
              | cons _ _ => rfl
            have R := Lib.hid (hinv2.out.open HSZ.out hcur)
            rw [← HN.out] at R
            clear tl hcl hcur
            go_wp2
            refine bodyPost_ret (v := .tuple #[.slice none 0 0, .int .i64 j, .int .i64 25]) (by simp [results, Tryz.results95, go_sem]) rfl (ParsePost.of R.out rfl (hnil _).out (fun _ => rfl) HBW.out)
end Go.Proofs.YtoipafnlcchmbaaGreatDoor
