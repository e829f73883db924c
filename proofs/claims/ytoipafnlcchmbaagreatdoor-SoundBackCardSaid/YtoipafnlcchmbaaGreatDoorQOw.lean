/- The reading of the strings of energies: Headed, Counted, Parse. -/
import Derived.Test.YtoipafnlcchmbaaGreatDoorQOz
import Derived.Test.YtoipafnlcchmbaaGreatDoorQA
namespace Go.Proofs.YtoipafnlcchmbaaGreatDoor
open Go.RowKit Go.Sort

def HeadPost (w : World) (k1 : Nat) (wd1 : ByteArray) (k2 : Nat) (wd2 s : ByteArray) (e : Ending) (w' : World) : Prop :=
  Below w.heap.size w w' ∧ ((4096 < s.size ∧ e = .returned (.tuple #[.int .i64 0, .slice none 0 0, .int .i64 0, .int .i64 26])) ∨
    (s.size ≤ 4096 ∧ (linesOf s.data.toList = [] ∨ ∃ d L, linesOf s.data.toList = d :: L ∧ lnB wd1.data.toList k1 d = false) ∧ e = .returned (.tuple #[.int .i64 0, .slice none 0 0, .int .i64 0, .int .i64 25])) ∨
    (s.size ≤ 4096 ∧ ∃ d L, linesOf s.data.toList = d :: L ∧ lnB wd1.data.toList k1 d = true ∧ badAt wd2.data.toList k2 L < L.length ∧ e = .returned (.tuple #[.int .i64 0, .slice none 0 0, .int .i64 ((badAt wd2.data.toList k2 L + 1 : Nat) : Int), .int .i64 25])) ∨
    (s.size ≤ 4096 ∧ ∃ d L A c, linesOf s.data.toList = d :: L ∧ lnB wd1.data.toList k1 d = true ∧ badAt wd2.data.toList k2 L = L.length ∧ e = .returned (.tuple #[.int .i64 (lnV d), .slice A L.length c, .int .i64 ((L.length + 1 : Nat) : Int), .int .i64 0]) ∧ IntsAt w' A L.length (L.map lnV) ∧ (A = none → c = 0)))
theorem extract_all (s : ByteArray) : s.extract 0 s.size = s := by
  have h : (s.extract 0 s.size).data.toList = s.data.toList := by
    rw [Lib.extract_from_zero]
    exact List.take_of_length_le (Nat.le_refl _)
  cases s with
  | mk a =>
    cases hb : ByteArray.extract ⟨a⟩ 0 (ByteArray.size ⟨a⟩) with
    | mk b =>
      rw [hb] at h
      have : b = a := Array.toList_inj.1 h
      rw [this]
set_option maxHeartbeats 4000000 in
set_option maxRecDepth 100000 in
theorem headed_any (s wd1 wd2 : ByteArray) (k1 k2 p1 p2 q1 q2 : Nat) (w : World) (hk1 : k1 ≤ 18) (hk2 : k2 ≤ 18) (hs : s.size ≤ 140737488351232) (hp1 : w.cell? ⟨p1, 0, none⟩ = some (.string wd1)) (hp2 : w.cell? ⟨p2, 0, none⟩ = some (.int .i64 k1)) (hq1 : w.cell? ⟨q1, 0, none⟩ = some (.string wd2)) (hq2 : w.cell? ⟨q2, 0, none⟩ = some (.int .i64 k2)) :
    Calls Tryz.prog 184 #[.string s, .func (.func 186) #[] #[.pointer (some ⟨p1, 0, none⟩), .pointer (some ⟨p2, 0, none⟩)], .func (.func 186) #[] #[.pointer (some ⟨q1, 0, none⟩), .pointer (some ⟨q2, 0, none⟩)]] w (HeadPost w k1 wd1 k2 wd2 s) := by
  by_cases hlong : 4096 < s.size
  · have hd : decide ((4096 : Int) < (s.size : Int)) = true := by simp; omega
    have HL := Lib.hid hlong
    clear hlong hp1 hp2 hq1 hq2
    go_enter Tryz.func184, Tryz.ntmps184
    go_wp2
    refine bodyPost_ret (v := .tuple #[.int .i64 0, .slice none 0 0, .int .i64 0, .int .i64 26]) (by simp [results, Tryz.results184, go_sem]) rfl ⟨Below.refl _ _, .inl ⟨HL.out, rfl⟩⟩
  · have hd : decide ((4096 : Int) < (s.size : Int)) = false := by simp; omega
    have hsz : s.size ≤ 4096 := by omega
    have P1 := Lib.hid hp1
    have P2 := Lib.hid hp2
    have Q1 := Lib.hid hq1
    have Q2 := Lib.hid hq2
    clear hlong hp1 hp2 hq1 hq2
    have HI : ∀ W, Hid (Calls Tryz.prog 196 #[.string s, .int .u8 10] W fun e w' => e = .returned (.int .i64 (Lib.index s.data.toList [10])) ∧ W = w') := fun W => by
      have := Tryz.strings_IndexByte s 10 W
      rw [show (10 : Int).toNat.toUInt8 = 10 from rfl, indexByte_one] at this
      exact Lib.hid (this.mono fun e w' h => ⟨h.1, h.2.symm⟩)
    rcases index_one 10 s.data.toList with ⟨hno, hi⟩ | ⟨p, q, hpq, hp, hi⟩
    · have hbad : linesOf s.data.toList = [] ∨ ∃ d L, linesOf s.data.toList = d :: L ∧ lnB wd1.data.toList k1 d = false := by
        by_cases h0 : s.data.toList = []
        · left; rw [h0]; rfl
        · right; exact ⟨_, _, linesOf_free _ hno h0, lnB_open _ _ _ hno⟩
      have HBAD := Lib.hid hbad
      rw [hi] at HI
      have HR := Lib.hid (reader1_any s wd1 k1 p1 p2 w hk1 (by omega) P1.out P2.out)
      have eok : numOK k1 wd1 s = false := by unfold numOK; exact lnB_open _ _ _ hno
      have evl : numVal k1 wd1 s = 0 := by unfold numVal; rw [eok]; rfl
      rw [eok, evl] at HR
      have hx := extract_all s
      clear hno hi hbad eok evl
      go_enter Tryz.func184, Tryz.ntmps184
      go_wp2_with fail
      refine (HI _).out.mono ?_
      rintro e w' ⟨rfl, rfl⟩
      go_wp2_with fail
      refine HR.out.mono ?_
      rintro e w1 ⟨rfl, hb⟩
      have HB := Lib.hid hb
      clear hb hx
      go_wp2
      refine bodyPost_ret (v := .tuple #[.int .i64 0, .slice none 0 0, .int .i64 0, .int .i64 25]) (by simp [results, Tryz.results184, go_sem]) rfl ⟨HB.out, .inr (.inl ⟨hsz, HBAD.out, rfl⟩)⟩
    · have hl : linesOf s.data.toList = (p ++ [10]) :: linesOf q := by rw [hpq]; exact linesOf_hit p q hp
      have hlen : p.length + 1 ≤ s.size := by
        have e : s.data.toList.length = s.size := rfl
        rw [← e, hpq]; simp
      obtain ⟨m, hm⟩ : ∃ m, m = p.length := ⟨_, rfl⟩
      rw [hi, ← hm] at HI
      obtain ⟨h1, hh1⟩ : ∃ h1, h1 = s.extract 0 (m + 1) := ⟨_, rfl⟩
      obtain ⟨h2, hh2⟩ : ∃ h2, h2 = s.extract (m + 1) s.size := ⟨_, rfl⟩
      have l1 : h1.data.toList = p ++ [10] := by
        rw [hh1, Lib.extract_from_zero, hpq, hm]
        rw [show p ++ 10 :: q = (p ++ [10]) ++ q by simp]
        rw [List.take_append_of_le_length (by simp)]
        exact List.take_of_length_le (by simp)
      have l2 : h2.data.toList = q := by
        rw [hh2, Lib.extract_to_end, hpq, hm]
        rw [show p ++ 10 :: q = (p ++ [10]) ++ q by simp]
        exact List.drop_left' (by simp)
      have z1 : h1.size ≤ 4096 := by
        have e : h1.data.toList.length = h1.size := rfl
        rw [← e, l1]; simp; omega
      have z2 : h2.size ≤ 4096 := by
        have e : h2.data.toList.length = h2.size := rfl
        have e2 : s.data.toList.length = s.size := rfl
        rw [hpq] at e2
        simp at e2
        rw [← e, l2]; omega
      have hm1 : m + 1 ≤ s.size := by omega
      have HR := Lib.hid (reader1_any h1 wd1 k1 p1 p2 w hk1 (by omega) P1.out P2.out)
      obtain ⟨d, hd1⟩ : ∃ d, d = p ++ [10] := ⟨_, rfl⟩
      rw [← hd1] at l1 hl
      have eok : numOK k1 wd1 h1 = lnB wd1.data.toList k1 d := by unfold numOK; rw [l1]
      have evl : numVal k1 wd1 h1 = if lnB wd1.data.toList k1 d = true then lnV d else 0 := by unfold numVal; rw [eok, l1]
      rw [eok, evl] at HR
      have HL := Lib.hid hl
      have x1 : s.extract 0 (m + 1) = h1 := hh1.symm
      have x2 : s.extract (m + 1) s.size = h2 := hh2.symm
      have HL2 := Lib.hid l2
      have hm2 : (0 : Int) ≤ m := by omega
      have hm3 : m ≤ 4096 := by omega
      obtain ⟨D, hD⟩ : ∃ D, D = lnB wd1.data.toList k1 d := ⟨_, rfl⟩
      rw [← hD] at HR
      have HD := Lib.hid hD
      clear hi hpq hp hl hm hh1 hh2 l1 l2 hd1 eok evl hD hlen
      cases D with
      | false =>
        rw [if_neg (by simp)] at HR
        go_enter Tryz.func184, Tryz.ntmps184
        go_wp2_with fail
        refine (HI _).out.mono ?_
        rintro e w' ⟨rfl, rfl⟩
        go_wp2_with fail
        refine HR.out.mono ?_
        rintro e w1 ⟨rfl, hb⟩
        have HB := Lib.hid hb
        clear hb
        go_wp2
        refine bodyPost_ret (v := .tuple #[.int .i64 0, .slice none 0 0, .int .i64 0, .int .i64 25]) (by simp [results, Tryz.results184, go_sem]) rfl ⟨HB.out, .inr (.inl ⟨hsz, .inr ⟨d, _, HL.out, HD.out.symm⟩, rfl⟩)⟩
      | true =>
        rw [if_pos rfl] at HR
        obtain ⟨V, hV⟩ : ∃ V, V = lnV d := ⟨_, rfl⟩
        rw [← hV] at HR
        have HV := Lib.hid hV
        clear hV
        go_enter Tryz.func184, Tryz.ntmps184
        go_wp2_with fail
        refine (HI _).out.mono ?_
        rintro e w' ⟨rfl, rfl⟩
        go_wp2_with fail
        refine HR.out.mono ?_
        rintro e w1 ⟨rfl, hb⟩
        have HB := Lib.hid hb
        have HRD := Lib.hid (read_any h2 wd2 k2 q1 q2 w1 hk2 z2 ((hb.cell (p := ⟨q1, 0, none⟩) (block_lt_of_cell Q1.out)).trans Q1.out) ((hb.cell (p := ⟨q2, 0, none⟩) (block_lt_of_cell Q2.out)).trans Q2.out))
        clear hb
        go_wp2_with fail
        refine HRD.out.mono ?_
        rintro e w2 ⟨hb2, hc⟩
        have HB2 : Hid (Below w.heap.size w w2) := HB.out.trans (hb2.mono HB.out.size)
        rcases hc with ⟨hc, rfl⟩ | ⟨hc, v, rfl, hO⟩
        · have HC := Lib.hid hc
          have hlb := linesB_len h2
          rw [HL2.out] at hlb HC
          have HLB := Lib.hid hlb
          rw [HL2.out]
          obtain ⟨b, hb⟩ : ∃ b, b = badAt wd2.data.toList k2 (linesOf q) := ⟨_, rfl⟩
          rw [← hb] at HC ⊢
          have HBA := Lib.hid hb
          have hbl : b ≤ 5000 := by have := HC.out; have := linesB_le h2; omega
          clear hb hb2 hc hlb
          go_wp2
          refine bodyPost_ret (v := .tuple #[.int .i64 0, .slice none 0 0, .int .i64 ((b + 1 : Nat) : Int), .int .i64 25]) (by simp [results, Tryz.results184, go_sem]) rfl ⟨HB2.out, .inr (.inr (.inl ⟨hsz, d, _, HL.out, HD.out.symm, by rw [← HBA.out, ← HLB.out]; exact HC.out, by rw [← HBA.out]⟩))⟩
        · have HC := Lib.hid hc
          have hlb := linesB_len h2
          rw [HL2.out] at hlb HC
          obtain ⟨A, c, rfl, hA⟩ := hO.shape
          have hI := hO.at_
          have hvl := valsOf_len h2
          have hle := linesB_le h2
          rw [hvl] at hI ⊢
          obtain ⟨n, hn⟩ : ∃ n, n = (linesB h2).length := ⟨_, rfl⟩
          rw [← hn] at hI hlb hle HC ⊢
          have hvals : valsOf h2 = (linesOf q).map lnV := by unfold valsOf; rw [HL2.out]
          rw [hvals] at hI
          have HII := Lib.hid hI
          have HLB := Lib.hid hlb
          have HAA := Lib.hid hA
          have hn5 : n ≤ 5000 := by omega
          clear hb2 hc hO hI hvl hle hn hvals hA hlb
          go_wp2
          refine bodyPost_ret (v := .tuple #[.int .i64 V, .slice A n c, .int .i64 ((n + 1 : Nat) : Int), .int .i64 0]) (by simp [results, Tryz.results184, go_sem]) rfl ⟨HB2.out, .inr (.inr (.inr ⟨hsz, d, linesOf q, A, c, HL.out, HD.out.symm, by rw [HC.out]; exact HLB.out, ?_, ?_, HAA.out⟩))⟩
          · rw [← HV.out, ← HLB.out]
          · rw [← HLB.out]; exact HII.out

/-- What Counted returns, and what Parse makes of it. -/
def countR (cw ew : List UInt8) (s : List UInt8) : List Int × Nat × Int :=
  if 4096 < s.length then ([], 0, 26) else
  match linesOf s with
  | [] => ([], 0, 25)
  | d :: L => if lnB cw 9 d = false then ([], 0, 25) else
      if badAt ew 15 L < L.length then ([], badAt ew 15 L + 1, 25) else
      if lnV d ≠ L.length then ([], L.length + 1, 2) else (L.map lnV, L.length + 1, 0)
theorem countR_err (cw ew s : List UInt8) : (countR cw ew s).2.2 ≠ 0 → (countR cw ew s).1 = [] := by
  unfold countR
  split
  · intro _; rfl
  · split
    · intro _; rfl
    · split
      · intro _; rfl
      · split
        · intro _; rfl
        · split
          · intro _; rfl
          · intro h; exact absurd rfl h
theorem countR_len (cw ew : List UInt8) (s : ByteArray) : (countR cw ew s.data.toList).1.length ≤ 5000 := by
  have hle := linesB_le s
  rw [linesB_len] at hle
  have hl : s.data.toList.length = s.size := rfl
  unfold countR
  split
  · simp
  · rename_i h1
    cases hL : linesOf s.data.toList with
    | nil => simp
    | cons d L =>
      rw [hL] at hle
      simp only [List.length_cons] at hle
      dsimp only
      split
      · simp
      · split
        · simp
        · split
          · simp
          · simp only [List.length_map]; omega
theorem parseW_count (cw ew : List UInt8) (chk : List Int → Int) (s : List UInt8) (r : List Int × Nat × Int) (h : countR cw ew s = r) :
    parseW cw ew chk s = if r.2.2 ≠ 0 then r else if chk r.1 ≠ 0 then ([], r.2.1, chk r.1) else (r.1, 0, 0) := by
  unfold countR at h
  unfold parseW
  by_cases h1 : 4096 < s.length
  · rw [if_pos h1] at h; subst h; rw [if_pos h1]; rfl
  rw [if_neg h1] at h
  rw [if_neg h1]
  cases hL : linesOf s with
  | nil => rw [hL] at h; subst h; rfl
  | cons d L =>
    rw [hL] at h
    dsimp only at h ⊢
    by_cases h2 : lnB cw 9 d = false
    · rw [if_pos h2] at h; subst h; rw [if_pos h2]; rfl
    rw [if_neg h2] at h
    rw [if_neg h2]
    by_cases h3 : badAt ew 15 L < L.length
    · rw [if_pos h3] at h; subst h; rw [if_pos h3]; rfl
    rw [if_neg h3] at h
    rw [if_neg h3]
    by_cases h4 : lnV d ≠ L.length
    · rw [if_pos h4] at h; subst h; rw [if_pos h4]; rfl
    rw [if_neg h4] at h
    rw [if_neg h4]
    subst h
    simp
def CountPost (w : World) (cw ew : ByteArray) (s : ByteArray) (e : Ending) (w' : World) : Prop :=
  ∃ A c, e = .returned (.tuple #[.slice A (countR cw.data.toList ew.data.toList s.data.toList).1.length c, .int .i64 (countR cw.data.toList ew.data.toList s.data.toList).2.1, .int .i64 (countR cw.data.toList ew.data.toList s.data.toList).2.2]) ∧
    IntsAt w' A (countR cw.data.toList ew.data.toList s.data.toList).1.length (countR cw.data.toList ew.data.toList s.data.toList).1 ∧ (A = none → c = 0) ∧ Below w.heap.size w w'
theorem CountPost.of {w : World} {cw ew s : ByteArray} {e : Ending} {w' : World} {l : List Int} {i : Nat} {x : Int} (h : countR cw.data.toList ew.data.toList s.data.toList = (l, i, x)) {A : Option Addr} {c : Nat}
    (he : e = .returned (.tuple #[.slice A l.length c, .int .i64 i, .int .i64 x])) (hI : IntsAt w' A l.length l) (hA : A = none → c = 0) (hb : Below w.heap.size w w') : CountPost w cw ew s e w' := by
  unfold CountPost
  rw [h]
  exact ⟨A, c, he, hI, hA, hb⟩
set_option maxHeartbeats 4000000 in
set_option maxRecDepth 100000 in
theorem counted_any (s wd1 wd2 : ByteArray) (p1 p2 q1 q2 : Nat) (w : World) (hs : s.size ≤ 140737488351232) (hp1 : w.cell? ⟨p1, 0, none⟩ = some (.string wd1)) (hp2 : w.cell? ⟨p2, 0, none⟩ = some (.int .i64 (9 : Nat))) (hq1 : w.cell? ⟨q1, 0, none⟩ = some (.string wd2)) (hq2 : w.cell? ⟨q2, 0, none⟩ = some (.int .i64 (15 : Nat))) :
    Calls Tryz.prog 161 #[.string s, .func (.func 186) #[] #[.pointer (some ⟨p1, 0, none⟩), .pointer (some ⟨p2, 0, none⟩)], .func (.func 186) #[] #[.pointer (some ⟨q1, 0, none⟩), .pointer (some ⟨q2, 0, none⟩)]] w (CountPost w wd1 wd2 s) := by
  have H := Lib.hid (headed_any s wd1 wd2 9 15 p1 p2 q1 q2 w (by omega) (by omega) hs hp1 hp2 hq1 hq2)
  clear hp1 hp2 hq1 hq2
  have hsl : s.data.toList.length = s.size := rfl
  have HSL := Lib.hid hsl
  clear hsl hs
  go_enter Tryz.func161, Tryz.ntmps161
  go_wp2_with fail
  refine H.out.mono ?_
  rintro e w1 ⟨hb, hc⟩
  have HB := Lib.hid hb
  clear hb
  have hnil : Hid (IntsAt w1 none 0 []) := ⟨rfl, fun h => by omega⟩
  rcases hc with ⟨h1, rfl⟩ | ⟨h1, h2, rfl⟩ | ⟨h1, d, L, h2, h3, h4, rfl⟩ | ⟨h1, d, L, A, c, h2, h3, h4, rfl, h5, h6⟩
  · have R : Hid (countR wd1.data.toList wd2.data.toList s.data.toList = ([], 0, 26)) := by show _ = _; unfold countR; rw [if_pos (by rw [HSL.out]; exact h1)]
    clear h1
    go_wp2
    refine bodyPost_ret (v := .tuple #[.slice none 0 0, .int .i64 0, .int .i64 26]) (by simp [results, Tryz.results161, go_sem]) rfl (CountPost.of R.out rfl hnil.out (fun _ => rfl) HB.out)
  · have R : Hid (countR wd1.data.toList wd2.data.toList s.data.toList = ([], 0, 25)) := by
      show _ = _
      unfold countR
      rw [if_neg (by rw [HSL.out]; omega)]
      rcases h2 with h2 | ⟨d, L, h2, h3⟩
      · rw [h2]
      · rw [h2]; dsimp only; rw [if_pos h3]
    clear h1 h2
    go_wp2
    refine bodyPost_ret (v := .tuple #[.slice none 0 0, .int .i64 0, .int .i64 25]) (by simp [results, Tryz.results161, go_sem]) rfl (CountPost.of R.out rfl hnil.out (fun _ => rfl) HB.out)
  · have R : Hid (countR wd1.data.toList wd2.data.toList s.data.toList = ([], badAt wd2.data.toList 15 L + 1, 25)) := by
      show _ = _
      unfold countR
      rw [if_neg (by rw [HSL.out]; omega), h2]
      dsimp only
      rw [if_neg (by rw [h3]; simp), if_pos h4]
    obtain ⟨b, hb⟩ : ∃ b, b = badAt wd2.data.toList 15 L + 1 := ⟨_, rfl⟩
    rw [← hb] at R ⊢
    clear h1 h2 h3 h4 hb
    go_wp2
    refine bodyPost_ret (v := .tuple #[.slice none 0 0, .int .i64 b, .int .i64 25]) (by simp [results, Tryz.results161, go_sem]) rfl (CountPost.of R.out rfl hnil.out (fun _ => rfl) HB.out)
  · obtain ⟨V, hV⟩ : ∃ V, V = lnV d := ⟨_, rfl⟩
    obtain ⟨n, hn⟩ : ∃ n, n = L.length := ⟨_, rfl⟩
    rw [← hV, ← hn]
    have HI := Lib.hid h5
    have HA := Lib.hid h6
    by_cases hne : V = (n : Int)
    · have R : Hid (countR wd1.data.toList wd2.data.toList s.data.toList = (L.map lnV, n + 1, 0)) := by
        show _ = _
        unfold countR
        rw [if_neg (by rw [HSL.out]; omega), h2]
        dsimp only
        rw [if_neg (by rw [h3]; simp), if_neg (by omega), if_neg (by rw [← hV, ← hn]; simpa using hne), hn]
      have hl : Hid ((L.map lnV).length = n) := by show _ = _; rw [hn]; simp
      have hd : (V != (n : Int)) = false := by simp [hne]
      have HN := Lib.hid hn
      clear h1 h2 h3 h4 h5 h6 hV hn hne
      go_wp2
      refine bodyPost_ret (v := .tuple #[.slice A n c, .int .i64 ((n + 1 : Nat) : Int), .int .i64 0]) (by simp [results, Tryz.results161, go_sem]) rfl (CountPost.of R.out (by rw [hl.out]) (by rw [hl.out, HN.out]; exact HI.out) HA.out HB.out)
    · have R : Hid (countR wd1.data.toList wd2.data.toList s.data.toList = ([], n + 1, 2)) := by
        show _ = _
        unfold countR
        rw [if_neg (by rw [HSL.out]; omega), h2]
        dsimp only
        rw [if_neg (by rw [h3]; simp), if_neg (by omega), if_pos (by rw [← hV, ← hn]; exact hne), hn]
      have hd : (V != (n : Int)) = true := by simp [hne]
      clear h1 h2 h3 h4 h5 h6 hV hn hne
      go_wp2
      refine bodyPost_ret (v := .tuple #[.slice none 0 0, .int .i64 ((n + 1 : Nat) : Int), .int .i64 2]) (by simp [results, Tryz.results161, go_sem]) rfl (CountPost.of R.out rfl hnil.out (fun _ => rfl) HB.out)

/-- What Parse returns. -/
def parseR (s : ByteArray) : List Int × Nat × Int := parseW energiesL energyL checkEnergiesE s.data.toList
def ParsePost (w : World) (s : ByteArray) (e : Ending) (w' : World) : Prop :=
  ∃ A c, e = .returned (.tuple #[.slice A (parseR s).1.length c, .int .i64 (parseR s).2.1, .int .i64 (parseR s).2.2]) ∧ IntsAt w' A (parseR s).1.length (parseR s).1 ∧ (A = none → c = 0) ∧ Below w.heap.size w w'
theorem ParsePost.of {w : World} {s : ByteArray} {e : Ending} {w' : World} {l : List Int} {i : Nat} {x : Int} (h : parseR s = (l, i, x)) {A : Option Addr} {c : Nat}
    (he : e = .returned (.tuple #[.slice A l.length c, .int .i64 i, .int .i64 x])) (hI : IntsAt w' A l.length l) (hA : A = none → c = 0) (hb : Below w.heap.size w w') : ParsePost w s e w' := by
  unfold ParsePost
  rw [h]
  exact ⟨A, c, he, hI, hA, hb⟩
set_option maxHeartbeats 4000000 in
set_option maxRecDepth 100000 in
theorem Parse_any (s : ByteArray) (w : World) (hs : s.size ≤ 140737488351232) :
    Calls Tryz.prog 93 #[.string s] w (ParsePost w s) := by
  have HC := Lib.hid (parseW_count energiesL energyL checkEnergiesE s.data.toList _ rfl)
  have HSZ := Lib.hid hs
  clear hs
  go_enter Tryz.func93, Tryz.ntmps93
  go_wp2_with fail
  refine (reader_count _).mono ?_
  rintro e w1 ⟨p1, p2, rfl, hp1, hp2, c1, c2, hb1⟩
  have HB1 := Lib.hid hb1
  have C1 := Lib.hid c1
  have C2 := Lib.hid c2
  clear c1 c2 hb1
  go_wp2_with fail
  refine (reader_energy _).mono ?_
  rintro e w2 ⟨q1, q2, rfl, hq1, hq2, c3, c4, hb2⟩
  have HB2 : Hid (Below w.heap.size w w2) := HB1.out.trans (hb2.mono HB1.out.size)
  have HCC := Lib.hid (counted_any s ⟨#[101, 110, 101, 114, 103, 105, 101, 115]⟩ ⟨#[101, 110, 101, 114, 103, 121]⟩ p1 p2 q1 q2 w2 HSZ.out ((hb2.cell (p := ⟨p1, 0, none⟩) hp1).trans C1.out) ((hb2.cell (p := ⟨p2, 0, none⟩) hp2).trans C2.out) c3 c4)
  clear c3 c4 hb2 hp1 hp2 hq1 hq2
  go_wp2_with fail
  refine HCC.out.mono ?_
  rintro e w3 ⟨A, c, rfl, hI, hA, hb3⟩
  have HB3 : Hid (Below w.heap.size w w3) := HB2.out.trans (hb3.mono HB2.out.size)
  have e1 : (ByteArray.mk #[101, 110, 101, 114, 103, 105, 101, 115]).data.toList = energiesL := rfl
  have e2 : (ByteArray.mk #[101, 110, 101, 114, 103, 121]).data.toList = energyL := rfl
  rw [e1, e2] at hI ⊢
  have herr := countR_err energiesL energyL s.data.toList
  obtain ⟨R, hRR⟩ : ∃ R, R = countR energiesL energyL s.data.toList := ⟨_, rfl⟩
  have hR : parseR s = _ := parseW_count energiesL energyL checkEnergiesE s.data.toList R hRR.symm
  rw [← hRR] at hI herr ⊢
  have HLEN := Lib.hid (countR_len energiesL energyL s)
  have hRR2 := Lib.hid hRR.symm
  obtain ⟨l, i, x⟩ := R
  dsimp only at hI hR herr ⊢
  have HR := Lib.hid hR
  have HI := Lib.hid hI
  have HA := Lib.hid hA
  have HERR := Lib.hid herr
  obtain ⟨n, hn⟩ : ∃ n, n = l.length := ⟨_, rfl⟩
  rw [← hn] at HI ⊢
  have HN := Lib.hid hn
  obtain ⟨E, hE⟩ : ∃ E, E = checkEnergiesE l := ⟨_, rfl⟩
  have HE := Lib.hid hE
  clear hI hR herr hA hb3 e1 e2 hRR hn hE
  have hn2 : n ≤ 140737488351232 := by have := HLEN.out; rw [hRR2.out] at this; rw [HN.out]; dsimp only at this; omega
  by_cases hx : x = 0
  · subst hx
    by_cases hE0 : E = 0
    · have q1 : (firstE [0, E] != 0) = false := by rw [hE0]; rfl
      have RR : Hid (parseR s = (l, 0, 0)) := by show _ = _; rw [HR.out, if_neg (by simp), if_neg (by rw [← HE.out]; simpa using hE0)]
      have HE0 := Lib.hid hE0
      clear hE0
      go_wp2_with fail
      refine (checkEnergies_any A n c l _ hn2 HI.out).mono ?_
      rintro e w4 ⟨rfl, hb4⟩
      rw [← HE.out]
      have HB4 : Hid (Below w.heap.size w w4) := HB3.out.trans (hb4.mono HB3.out.size)
      have HI4 := Lib.hid (HI.out.keep hb4)
      clear hb4
      go_wp2_with fail
      refine (first2 _ _ 0 E _ (by go_simp) (by go_simp)).mono ?_
      rintro e w' ⟨rfl, rfl⟩
      obtain ⟨F, hF⟩ : ∃ F, F = firstE [0, E] := ⟨_, rfl⟩
      rw [← hF] at q1 ⊢
      clear hF
      go_wp2
      refine bodyPost_ret (v := .tuple #[.slice A n c, .int .i64 0, .int .i64 0]) (by simp [results, Tryz.results93, go_sem]) rfl (ParsePost.of RR.out (by rw [HN.out]; rfl) ?_ HA.out (HB4.out.alloc HB4.out.size _))
      rw [← HN.out]
      exact HI4.out.keep ((Below.refl _ _).alloc (Nat.le_refl _) _)
    · have RR : Hid (parseR s = ([], i, E)) := by show _ = _; rw [HR.out, if_neg (by simp), if_pos (by rw [← HE.out]; exact hE0), ← HE.out]
      have e3 : firstE [0, E] = E := by simp [firstE]; exact fun h => h.symm
      have q1 : (E != 0) = true := by simp [hE0]
      have E3 := Lib.hid e3
      clear hE0 e3
      go_wp2_with fail
      refine (checkEnergies_any A n c l _ hn2 HI.out).mono ?_
      rintro e w4 ⟨rfl, hb4⟩
      rw [← HE.out]
      have HB4 : Hid (Below w.heap.size w w4) := HB3.out.trans (hb4.mono HB3.out.size)
      clear hb4
      go_wp2_with fail
      refine (first2 _ _ 0 E _ (by go_simp) (by go_simp)).mono ?_
      rw [E3.out]
      rintro e w' ⟨rfl, rfl⟩
      go_wp2
      refine bodyPost_ret (v := .tuple #[.slice none 0 0, .int .i64 i, .int .i64 E]) (by simp [results, Tryz.results93, go_sem]) rfl (ParsePost.of RR.out rfl ⟨rfl, fun h => by simp at h⟩ (fun _ => rfl) (HB4.out.alloc HB4.out.size _))
  · have RR : Hid (parseR s = ([], i, x)) := by show _ = _; rw [HR.out, if_pos (by exact hx), HERR.out hx]
    have e3 : firstE [x, E] = x := by simp [firstE, hx]
    have q1 : (x != 0) = true := by simp [hx]
    have E3 := Lib.hid e3
    clear e3 hx
    go_wp2_with fail
    refine (checkEnergies_any A n c l _ hn2 HI.out).mono ?_
    rintro e w4 ⟨rfl, hb4⟩
    rw [← HE.out]
    have HB4 : Hid (Below w.heap.size w w4) := HB3.out.trans (hb4.mono HB3.out.size)
    clear hb4
    go_wp2_with fail
    refine (first2 _ _ x E _ (by go_simp) (by go_simp)).mono ?_
    rw [E3.out]
    rintro e w' ⟨rfl, rfl⟩
    go_wp2
    refine bodyPost_ret (v := .tuple #[.slice none 0 0, .int .i64 i, .int .i64 x]) (by simp [results, Tryz.results93, go_sem]) rfl (ParsePost.of RR.out rfl ⟨rfl, fun h => by simp at h⟩ (fun _ => rfl) (HB4.out.alloc HB4.out.size _))
end Go.Proofs.YtoipafnlcchmbaaGreatDoor
