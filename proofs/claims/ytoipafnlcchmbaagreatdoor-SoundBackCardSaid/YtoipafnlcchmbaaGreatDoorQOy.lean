/- The reading of lines: the integers of a line. -/
import Derived.Test.YtoipafnlcchmbaaGreatDoorQOx
import Derived.Test.YtoipafnlcchmbaaGreatDoorQB
namespace Go.Proofs.YtoipafnlcchmbaaGreatDoor
open Go.RowKit Go.Sort

theorem OwnI.far {w : World} {base : Nat} {g n c : Nat} {zs : List Int} (h : OwnI w base (.slice (some ⟨g, 0, none⟩) n c) zs) {p : Addr} (hp : g ≠ p.block) (u : Value) : OwnI (w.setCell p u) base (.slice (some ⟨g, 0, none⟩) n c) zs := by
  have hb : ∀ k, k ≠ p.block → (w.setCell p u).heap[k]? = w.heap[k]? := fun k hk => Below.heap_setCell w p u k hk
  refine World.ownsRow.kept h (row := some p.block) ⟨rfl, rfl, rfl, by simp, fun k _ hk => hb k (fun e => hk (by rw [e]))⟩ ?_
  exact .inr (by simp [Value.ownBlock]; exact hp)
theorem WordsAt.later {w w' : World} {bx g o n : Nat} {l : List ByteArray} (h : WordsAt w bx g o n l) (hb : Below w.heap.size w w') : WordsAt w' bx g o n l :=
  ⟨h.1.below hb, h.2.1.keep hb (Nat.le_refl _), h.2.2⟩
theorem WordsAt.lt {w : World} {bx g o n : Nat} {l : List ByteArray} (h : WordsAt w bx g o n l) (hn : 0 < n) : g < w.heap.size := by
  obtain ⟨g', o', e, hg, _⟩ := h.2.1.2 hn
  have e := Option.some.inj e
  injection e with e1
  omega
theorem enters_integer (args : Array Value) (W : World) : (callFunc 199 args).run Tryz.prog W = .ok (.enter 199 args) W := by kernel_rfl

def putL (v : List Int) (k : Nat) : List Int := v.take k ++ List.replicate (v.length - k) 0
theorem putL_len (v : List Int) (k : Nat) (h : k ≤ v.length) : (putL v k).length = v.length := by simp [putL]; omega
theorem putL_set (v : List Int) (k : Nat) (h : k < v.length) : (putL v k).set k (v[k]'h) = putL v (k + 1) := by
  apply List.ext_getElem?
  intro i
  unfold putL
  rw [List.getElem?_set]
  by_cases hi : k = i
  · subst hi
    rw [if_pos rfl, if_pos (by simp; omega), List.getElem?_append_left (by simp; omega), List.getElem?_take, if_pos (by omega), List.getElem?_eq_getElem h]
  · rw [if_neg hi]
    by_cases hlt : i < k
    · rw [List.getElem?_append_left (by simp; omega), List.getElem?_append_left (by simp; omega), List.getElem?_take, List.getElem?_take, if_pos hlt, if_pos (by omega)]
    · rw [List.getElem?_append_right (by simp; omega), List.getElem?_append_right (by simp; omega), List.getElem?_replicate, List.getElem?_replicate]
      simp only [List.length_take]
      by_cases hl : i < v.length
      · rw [if_pos (by omega), if_pos (by omega)]
      · rw [if_neg (by omega), if_neg (by omega)]
theorem putL_all (v : List Int) : putL v v.length = v := by simp [putL]
theorem putL_zero (v : List Int) : putL v 0 = List.replicate v.length 0 := by simp [putL]

def allD (k : Nat) (ws : List ByteArray) : Bool := ws.all fun s => digB k s.data.toList
def valD (ws : List ByteArray) : List Int := ws.map fun s => digV s.data.toList
theorem valD_len (ws : List ByteArray) : (valD ws).length = ws.length := by simp [valD]
def NumsPost (B : Nat) (w : World) (k : Nat) (ws : List ByteArray) (e : Ending) (w' : World) : Prop :=
  Below B w w' ∧ ((allD k ws = true ∧ ∃ A, e = .returned (.tuple #[.slice A ws.length ws.length, .bool true]) ∧ IntsAt w' A ws.length (valD ws)) ∨ (allD k ws = false ∧ e = .returned (.tuple #[.slice none 0 0, .bool false])))

set_option maxHeartbeats 4000000 in
set_option maxRecDepth 100000 in
theorem numbers_any (B bx g o m : Nat) (ws : List ByteArray) (k : Nat) (w : World) (h : WordsAt w bx g o m ws) (hB : B ≤ bx) (hm : m ≤ 100000) (hk : k ≤ 18) (hws : ∀ s ∈ ws, s.size ≤ 100000) :
    Calls Tryz.prog 210 #[.pointer (some ⟨bx, 0, none⟩), .func (.func 199) #[] #[], .int .i64 k] w (NumsPost B w k ws) := by
  obtain ⟨i0, hi, hz0, hz1, hz2⟩ := info_parts infoInt
  have hlen := h.2.1.1
  have hbx : bx < w.heap.size := lt_of_block h.1
  have H := Lib.hid h
  have HWS := Lib.hid hws
  have HLEN := Lib.hid hlen
  have eI := enters_integer
  have HG : Hid (0 < m → g < w.heap.size) := fun hm => h.lt hm
  clear h hws hlen
  go_enter Tryz.func210, Tryz.ntmps210
  go_wp2_with fail
  refine (left_any bx g o m ws _ H.out).mono ?_
  rintro e w' ⟨rfl, rfl⟩
  go_wp2_with (at_make; refine wpList_make_full _ rfl _ _ 26 rfl w.heap.size 3 i0 (.int .i64 0) 1 Tryz.underlying26 hi hz0 hz1 _ _ _ _ m rfl rfl rfl rfl (by rw [hz2]; omega) (by unfold maxLen; omega) (by simp) ?_; intro w1 hown hg1)
  have hO : OwnI w1 w.heap.size (.slice (some ⟨w.heap.size, 0, none⟩) m m) (putL (valD ws) 0) := by
    unfold OwnI
    rw [putL_zero, valD_len, HLEN.out, List.length_replicate, ← made_zero]
    simpa using hown
  have hb1 : Below w.heap.size w w1 := Below.grown (Below.refl _ _) hg1 (Nat.le_refl _) (fun k hk => by cases hk)
  have hW1 : WordsAt w1 bx g o m ws := H.out.later hb1
  have hB1 : Below B w w1 := hb1.mono (by omega)
  clear hown hg1 hb1
  go_loopw [9, 10, 11, 17] (fun _ _ _ i wr => ∃ j o' : Nat, j ≤ m ∧ i = .int .i64 j ∧ OwnI wr w.heap.size (.slice (some ⟨w.heap.size, 0, none⟩) m m) (putL (valD ws) j) ∧ WordsAt wr bx g o' (m - j) (ws.drop j) ∧ allD k (ws.take j) = true ∧ Below B w wr) (fun _ _ _ i _ => m - (intOf i).toNat)
  case atStart => exact ⟨0, o, Nat.zero_le _, rfl, hO, hW1, rfl, hB1⟩
  case round =>
    clear hO hW1 hB1
    obtain ⟨j, o', hj, rfl, hown, hW, hall, hbw⟩ := hrel
    by_cases hlt : j < m
    · have hjl : j < ws.length := by rw [HLEN.out]; exact hlt
      obtain ⟨x, hx⟩ : ∃ x, x = ws[j] := ⟨_, rfl⟩
      have hd : ws.drop j = x :: ws.drop (j + 1) := by rw [hx]; exact List.drop_eq_getElem_cons hjl
      rw [hd, show m - j = (m - (j + 1)) + 1 by omega] at hW
      have hxs : x.size ≤ 100000 := HWS.out x (by rw [hx]; exact List.getElem_mem hjl)
      have hW2 := hW.nxt
      have hb2 : Below B w (wr.setCell ⟨bx, 0, none⟩ (.slice (some ⟨g, nxO o' (m - (j + 1)), none⟩) (m - (j + 1)) (m - (j + 1)))) := hbw.setCell (p := ⟨bx, 0, none⟩) hB _
      have hO2 := hown.far (p := ⟨bx, 0, none⟩) (by show w.heap.size ≠ bx; omega) (.slice (some ⟨g, nxO o' (m - (j + 1)), none⟩) (m - (j + 1)) (m - (j + 1)))
      have HW := Lib.hid hW
      have HW2 := Lib.hid hW2
      have HB2 := Lib.hid hb2
      have HO2 := Lib.hid hO2
      have hsz : B ≤ wr.heap.size := by have := hbw.size; omega
      have htk : allD k (ws.take (j + 1)) = digB k x.data.toList := by
        unfold allD at hall ⊢
        rw [List.take_succ_eq_append_getElem hjl, List.all_append, hall, ← hx]
        simp
      have HTK := Lib.hid htk
      have HX := Lib.hid hx
      have HN : Hid (m - (j + 1) ≤ 1000000) := by show _ ≤ _; omega
      clear hx hd hW hW2 hb2 hO2 hall hbw hown htk
      obtain ⟨q, hq⟩ : ∃ q, q = m - (j + 1) := ⟨_, rfl⟩
      rw [← hq] at HW HW2 HB2 HO2 HN
      have HQ := Lib.hid hq
      clear hq
      go_wp2_with fail
      refine (next_any bx g o' q x _ _ HN.out HW.out).mono ?_
      rintro e w2 ⟨rfl, rfl⟩
      have HI := Lib.hid (integer_any x k (wr.setCell ⟨bx, 0, none⟩ (.slice (some ⟨g, nxO o' q, none⟩) q q)) hk hxs)
      obtain ⟨D, hD⟩ : ∃ D, D = digB k x.data.toList := ⟨_, rfl⟩
      rw [← hD] at HI HTK
      have HDD := Lib.hid hD
      clear hD
      cases hDD : D with
      | false =>
        subst hDD
        go_wp2_with fail
        refine HI.out.mono ?_
        rintro e w3 ⟨rfl, hb3⟩
        have HB3 : Hid (Below B w w3) := HB2.out.trans (hb3.mono (by simp; omega))
        clear hb3
        go_wp2
        go_ret2
        refine ⟨HB3.out, .inr ⟨?_, rfl⟩⟩
        rw [Bool.eq_false_iff]
        intro ht
        have h2 := HTK.out
        unfold allD at ht h2
        rw [← List.take_append_drop (j + 1) ws, List.all_append, h2] at ht
        simp at ht
      | true =>
        subst hDD
        go_wp2_with fail
        refine HI.out.mono ?_
        rintro e w3 ⟨rfl, hb3⟩
        have HB3 : Hid (Below B w w3) := HB2.out.trans (hb3.mono (by simp; omega))
        have hO3 := HO2.out.below hb3
        have hW3 := HW2.out.later hb3
        have hs := hO3.store j (intV k x)
        have e1 : intV k x = (valD ws)[j]'(by rw [valD_len]; exact hjl) := by
          unfold intV valD
          rw [if_pos HDD.out.symm, List.getElem_map, HX.out]
        rw [e1, putL_set] at hs
        rw [← e1] at hs
        have hcell := hO3.parts.2.2.1 j hlt
        have hfz := hO3.parts.2.2.2 j
        have HS := Lib.hid hs
        have HW3 := Lib.hid hW3
        obtain ⟨V, hV⟩ : ∃ V, V = intV k x := ⟨_, rfl⟩
        obtain ⟨U, hU⟩ : ∃ U, U = (putL (valD ws) j).getD j 0 := ⟨_, rfl⟩
        rw [← hV] at HS ⊢
        rw [← hU] at hcell
        clear hb3 hO3 hW3 hs e1 hV hU
        go_wp2
        go_roundw
        case rel => exact ⟨j + 1, nxO o' q, by omega, by go_num, HS.out, by
          have h5 : WordsAt _ bx g (nxO o' q) q (ws.drop (j + 1)) := ⟨HW3.out.1.far (p := ⟨w.heap.size, j, none⟩) (by show bx ≠ w.heap.size; omega) (.int .i64 V), HW3.out.2.1.set (p := ⟨w.heap.size, j, none⟩) (by have := HG.out (by omega); show g ≠ w.heap.size; omega) _, HW3.out.2.2⟩
          rw [← HQ.out]; exact h5, HTK.out, HB3.out.setCell (p := ⟨w.heap.size, j, none⟩) (by show B ≤ w.heap.size; omega) _⟩
        case measure => simp [intOf]; omega
    · obtain rfl : j = m := by omega
      have HO := Lib.hid hown
      have HB := Lib.hid hbw
      have HA := Lib.hid hall
      clear hW hown hbw hall
      go_wp2
      go_ret2
      have e1 := HA.out
      rw [List.take_of_length_le (by rw [HLEN.out]; omega)] at e1
      have h2 := HO.out
      rw [show putL (valD ws) j = valD ws by rw [show j = (valD ws).length by rw [valD_len, HLEN.out]]; exact putL_all _] at h2
      exact ⟨HB.out, .inl ⟨e1, some ⟨w.heap.size, 0, none⟩, by rw [HLEN.out]; rfl, by rw [HLEN.out]; exact h2.at_⟩⟩

/-- The words of a line without its end. -/
def wordsL (s : ByteArray) : List ByteArray := sepL 32 0 (lineBd s)
theorem wordsL_cons (s : ByteArray) : ∃ x ws, wordsL s = x :: ws := by
  cases h : wordsL s with
  | nil =>
    have := sepL_len 32 0 (lineBd s)
    unfold wordsL at h
    rw [h] at this
    simp at this
  | cons x ws => exact ⟨x, ws, rfl⟩
theorem flat_le_len (L : List (List UInt8)) (x : List UInt8) (h : x ∈ L) : x.length ≤ L.flatten.length := by
  induction L with
  | nil => simp at h
  | cons y L ih =>
    rw [List.flatten_cons, List.length_append]
    rcases List.mem_cons.1 h with rfl | h
    · omega
    · have := ih h; omega
theorem sepL_size (b : UInt8) (s : ByteArray) : ∀ x ∈ sepL b 0 s, x.size ≤ s.size := by
  intro x hx
  obtain ⟨p, hp, rfl⟩ := List.mem_map.1 hx
  have hb := congrArg List.length (cutSt_back b s.data.toList)
  rw [List.length_append] at hb
  have hl : s.data.toList.length = s.size := rfl
  show p.toArray.size ≤ s.size
  rw [List.size_toArray]
  rcases List.mem_append.1 hp with hp | hp
  · obtain ⟨q, hq, rfl⟩ := List.mem_map.1 hp
    have := flat_le_len _ _ (List.mem_map.2 ⟨q, hq, rfl⟩ : q ++ [b] ∈ (cutSt b s.data.toList).1.map (· ++ [b]))
    rw [List.length_append] at this
    have e : (q ++ [b].take 0).length = q.length := by simp
    omega
  · simp only [List.mem_singleton] at hp
    rw [hp]
    omega
theorem wordsL_size (s : ByteArray) : ∀ x ∈ wordsL s, x.size ≤ s.size := fun x hx => Nat.le_trans (sepL_size 32 _ x hx) (lineBd_le s)
theorem wordsL_le (s : ByteArray) : (wordsL s).length ≤ s.size + 1 := Nat.le_trans (sepL_le 32 0 _) (by have := lineBd_le s; omega)
def lineOK (k : Nat) (wd s : ByteArray) : Bool := endedB s && (match wordsL s with | [] => false | x :: ws => (x.toList == wd.toList) && allD k ws)
def lineVals (s : ByteArray) : List Int := valD (wordsL s).tail
def IntsPost (w : World) (k : Nat) (wd s : ByteArray) (e : Ending) (w' : World) : Prop :=
  Below w.heap.size w w' ∧ ((lineOK k wd s = true ∧ ∃ A, e = .returned (.tuple #[.slice A (lineVals s).length (lineVals s).length, .bool true]) ∧ IntsAt w' A (lineVals s).length (lineVals s)) ∨ (lineOK k wd s = false ∧ e = .returned (.tuple #[.slice none 0 0, .bool false])))

set_option maxHeartbeats 4000000 in
set_option maxRecDepth 100000 in
theorem integers_any (s wd : ByteArray) (k : Nat) (w : World) (hk : k ≤ 18) (hs : s.size ≤ 90000) :
    Calls Tryz.prog 198 #[.string s, .string wd, .func (.func 199) #[] #[], .int .i64 k] w (IntsPost w k wd s) := by
  obtain ⟨x, ws, hx⟩ := wordsL_cons s
  have hle := wordsL_le s
  have hsz := wordsL_size s
  have H := Lib.hid (wordsOf_any s w (by omega))
  rw [show sepL 32 0 (lineBd s) = wordsL s from rfl] at H
  rw [hx] at H hle hsz
  have e1 : lineOK k wd s = (endedB s && ((x.toList == wd.toList) && allD k ws)) := by unfold lineOK; rw [hx]
  have e2 : lineVals s = valD ws := by unfold lineVals; rw [hx]; rfl
  have HE2 := Lib.hid e2
  obtain ⟨E, hE⟩ : ∃ E, E = endedB s := ⟨_, rfl⟩
  rw [← hE] at H e1
  have HE1 := Lib.hid e1
  have hlen : ws.length ≤ 90000 := by simp at hle; omega
  have HSZ : Hid (∀ y ∈ ws, y.size ≤ 100000) := by
    show ∀ y ∈ ws, _
    intro y hy
    have := hsz y (by simp [hy])
    omega
  clear hx hle hsz e1 e2 hE
  cases E with
  | false =>
    go_enter Tryz.func198, Tryz.ntmps198
    go_wp2_with fail
    refine H.out.mono ?_
    rintro e w1 ⟨g, hg, rfl, hS, hb⟩
    have HB := Lib.hid hb
    clear hS hb
    go_wp2
    go_ret2
    exact ⟨HB.out.alloc HB.out.size _, .inr ⟨HE1.out, rfl⟩⟩
  | true =>
    go_enter Tryz.func198, Tryz.ntmps198
    go_wp2_with fail
    refine H.out.mono ?_
    rintro e w1 ⟨g, hg, rfl, hS, hb⟩
    have hg1 : g < w1.heap.size := by
      obtain ⟨g', o', e, hg, _⟩ := hS.2 (by simp)
      have e := Option.some.inj e
      injection e with e1
      omega
    obtain ⟨n, hn⟩ : ∃ n, n = ws.length := ⟨_, rfl⟩
    have e3 : (x :: ws).length = n + 1 := by rw [hn]; rfl
    rw [e3] at hS ⊢
    have HN := Lib.hid hn
    have HB := Lib.hid hb
    have hbs := hb.size
    have hW : WordsAt (w1.alloc (.cells #[.slice (some ⟨g, 0, none⟩) (n + 1) (n + 1)] 296)) w1.heap.size g 0 (n + 1) (x :: ws) :=
      ⟨Blk.new _ _ _, hS.keep ((Below.refl _ w1).alloc (Nat.le_refl _) _) (Nat.le_refl _), by omega⟩
    have HW := Lib.hid hW
    have e4 : (w1.alloc (.cells #[.slice (some ⟨g, 0, none⟩) (n + 1) (n + 1)] 296)).setCell ⟨w1.heap.size, 0, none⟩ (.slice (some ⟨g, nxO 0 n, none⟩) n n) = w1.alloc (.cells #[.slice (some ⟨g, nxO 0 n, none⟩) n n] 296) := by go_simp
    have hW2 := hW.nxt
    rw [e4] at hW2
    have HW2 := Lib.hid hW2
    have hn2 : n ≤ 1000000 := by omega
    have hn3 : n ≤ 100000 := by omega
    clear hS hb hW hn e3 e4 hW2
    go_wp2_with fail
    refine (next_any _ g 0 n x ws _ hn2 HW.out).mono ?_
    rintro e w2 ⟨rfl, rfl⟩
    have HBB : Hid (Below w.heap.size w (w1.alloc (.cells #[.slice (some ⟨g, nxO 0 n, none⟩) n n] 296))) := HB.out.alloc HB.out.size _
    obtain ⟨D, hD⟩ : ∃ D, D = (x.toList == wd.toList) := ⟨_, rfl⟩
    have HE3 : Hid (lineOK k wd s = (D && allD k ws)) := by show _ = _; rw [HE1.out, hD]; simp
    have HD := Lib.hid hD
    clear hD
    cases D with
    | false =>
      have hd : (x.toList == wd.toList) = false := HD.out.symm
      go_wp2
      go_ret2
      exact ⟨HBB.out, .inr ⟨HE3.out, rfl⟩⟩
    | true =>
      have hd : (x.toList == wd.toList) = true := HD.out.symm
      go_wp2_with fail
      refine (numbers_any w.heap.size w1.heap.size g (nxO 0 n) n ws k _ HW2.out HB.out.size hn3 hk HSZ.out).mono ?_
      rintro e w3 ⟨hb3, hc⟩
      have HB3 : Hid (Below w.heap.size w w3) := HBB.out.trans hb3
      rcases hc with ⟨hc, A, rfl, hI⟩ | ⟨hc, rfl⟩
      · have HC := Lib.hid hc
        have HI := Lib.hid hI
        clear hc hI hb3
        go_wp2
        go_ret2
        refine ⟨HB3.out, .inl ⟨by rw [HE3.out, HC.out]; rfl, A, ?_, ?_⟩⟩
        · rw [HE2.out, valD_len]; rfl
        · rw [HE2.out, valD_len]; exact HI.out
      · have HC := Lib.hid hc
        clear hc hb3
        go_wp2
        go_ret2
        exact ⟨HB3.out, .inr ⟨by rw [HE3.out, HC.out]; rfl, rfl⟩⟩

/-- The integer of a line: a word and a numeral. -/
def numOK (k : Nat) (wd s : ByteArray) : Bool := lnB wd.data.toList k s.data.toList
def numVal (k : Nat) (wd s : ByteArray) : Int := if numOK k wd s = true then lnV s.data.toList else 0
theorem toBA_list (l : List UInt8) : (⟨l.toArray⟩ : ByteArray).data.toList = l := by simp
theorem numOK_eq (k : Nat) (wd s : ByteArray) : numOK k wd s = (lineOK k wd s && decide ((lineVals s).length = 1)) ∧ (numOK k wd s = true → lineVals s = [lnV s.data.toList]) := by
  unfold numOK lnB lnV lineOK lineVals endedB
  by_cases he : s.data.toList.getLast? = some 10
  · have hb : (lineBd s).data.toList = s.data.toList.dropLast := by unfold lineBd; rw [if_pos he, toBA_list]
    have hw : wordsL s = (cuts 32 s.data.toList.dropLast).map fun l => (⟨l.toArray⟩ : ByteArray) := by
      unfold wordsL sepL cuts
      rw [hb]
      simp
    rw [hw, he]
    unfold numB numV
    generalize cuts 32 s.data.toList.dropLast = C
    have tl : ∀ x : ByteArray, x.toList = x.data.toList := fun x => ByteArray.toList_eq x
    rcases C with _ | ⟨a, _ | ⟨d, _ | ⟨c, r⟩⟩⟩
    · simp
    · simp [valD]
    · simp [valD, allD, tl]
    · simp [valD]
  · have h1 : (s.data.toList.getLast? == some 10) = false := beq_eq_false_iff_ne.2 he
    rw [h1]
    simp
set_option maxHeartbeats 2000000 in
set_option maxRecDepth 100000 in
theorem number_any (s wd : ByteArray) (k : Nat) (w : World) (hk : k ≤ 18) (hs : s.size ≤ 90000) :
    Calls Tryz.prog 187 #[.string s, .string wd, .int .i64 k] w fun e w' => e = .returned (.tuple #[.int .i64 (numVal k wd s), .bool (numOK k wd s)]) ∧ Below w.heap.size w w' := by
  have H := Lib.hid (integers_any s wd k w hk hs)
  obtain ⟨h1, h2⟩ := numOK_eq k wd s
  have HV : Hid (numVal k wd s = if numOK k wd s = true then lnV s.data.toList else 0) := rfl
  obtain ⟨V, hV⟩ : ∃ V, V = numVal k wd s := ⟨_, rfl⟩
  obtain ⟨N, hN⟩ : ∃ N, N = numOK k wd s := ⟨_, rfl⟩
  rw [← hV, ← hN] at HV
  rw [← hN] at h1 h2
  rw [← hV, ← hN]
  have H1 := Lib.hid h1
  have H2 := Lib.hid h2
  clear h1 h2 hV hN
  go_enter Tryz.func187, Tryz.ntmps187
  go_wp2_with fail
  refine H.out.mono ?_
  rintro e w1 ⟨hb, hc⟩
  have HB := Lib.hid hb
  clear hb
  rcases hc with ⟨hc, A, rfl, hI⟩ | ⟨hc, rfl⟩
  · obtain ⟨n, hn⟩ : ∃ n, n = (lineVals s).length := ⟨_, rfl⟩
    rw [← hn] at hI ⊢
    by_cases hn1 : n = 1
    · subst hn1
      have hNT : Hid (N = true) := by show _ = _; rw [H1.out, hc, ← hn]; rfl
      have hL := H2.out hNT.out
      have hVV : Hid (V = lnV s.data.toList) := by show _ = _; rw [HV.out, if_pos hNT.out]
      rw [hL] at hI
      obtain ⟨b, off, rfl, hcc⟩ := hI.2 (by omega)
      have h0 := hcc 0 (by omega)
      simp only [List.getD_cons_zero, Nat.add_zero] at h0
      rw [← hVV.out] at h0
      clear hc hn hL hcc hI
      go_wp2
      go_ret2
      exact ⟨ret_ib rfl hNT.out.symm, HB.out⟩
    · have hNF : Hid (N = false) := by show _ = _; rw [H1.out, ← hn, decide_eq_false hn1]; simp
      have hVV : Hid (V = 0) := by show _ = _; rw [HV.out, hNF.out]; rfl
      have hd : ((n : Int) == 1) = false := by rw [beq_eq_false_iff_ne]; omega
      have hd2 : ((n : Int) != 1) = true := by simp; omega
      clear hc hn hI hn1
      go_wp2
      go_ret2
      exact ⟨ret_ib hVV.out.symm hNF.out.symm, HB.out⟩
  · have hNF : Hid (N = false) := by show _ = _; rw [H1.out, hc]; rfl
    have hVV : Hid (V = 0) := by show _ = _; rw [HV.out, hNF.out]; rfl
    clear hc
    go_wp2
    go_ret2
    exact ⟨ret_ib hVV.out.symm hNF.out.symm, HB.out⟩
set_option maxHeartbeats 1000000 in
theorem reader1_any (s wd : ByteArray) (k : Nat) (p1 p2 : Nat) (w : World) (hk : k ≤ 18) (hs : s.size ≤ 90000) (h1 : w.cell? ⟨p1, 0, none⟩ = some (.string wd)) (h2 : w.cell? ⟨p2, 0, none⟩ = some (.int .i64 k)) :
    Calls Tryz.prog 186 #[.string s, .pointer (some ⟨p1, 0, none⟩), .pointer (some ⟨p2, 0, none⟩)] w fun e w' => e = .returned (.tuple #[.int .i64 (numVal k wd s), .bool (numOK k wd s)]) ∧ Below w.heap.size w w' := by
  have H := Lib.hid (number_any s wd k w hk hs)
  obtain ⟨V, hV⟩ : ∃ V, V = numVal k wd s := ⟨_, rfl⟩
  obtain ⟨N, hN⟩ : ∃ N, N = numOK k wd s := ⟨_, rfl⟩
  rw [← hV, ← hN] at H ⊢
  clear hV hN
  go_enter Tryz.func186, Tryz.ntmps186
  go_wp2_with fail
  refine H.out.mono ?_
  rintro e w1 ⟨rfl, hb⟩
  have HB := Lib.hid hb
  clear hb
  go_wp2
  go_ret2
  exact ⟨rfl, HB.out⟩
end Go.Proofs.YtoipafnlcchmbaaGreatDoor
