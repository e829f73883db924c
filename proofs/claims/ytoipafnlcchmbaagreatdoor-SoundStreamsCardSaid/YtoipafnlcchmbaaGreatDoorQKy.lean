/- The program's Line and Joined, and the string of energies: Print. -/
import Derived.Test.YtoipafnlcchmbaaGreatDoorQKx
namespace Go.Proofs.YtoipafnlcchmbaaGreatDoor
open Go.RowKit Go.Sort

theorem join_flat (xs : List (List UInt8)) : Lib.join xs [] = xs.flatten := by
  cases xs with
  | nil => rfl
  | cons x r => rw [Lib.join_cons]; simp [Lib.joinTail]
theorem flat_le (M : Nat) : ∀ (xs : List (List UInt8)), (∀ x ∈ xs, x.length ≤ M) → xs.flatten.length ≤ xs.length * M
  | [], _ => by simp
  | x :: l, h => by
    have := flat_le M l (fun y hy => h y (by simp [hy]))
    have := h x (by simp)
    rw [List.flatten_cons, List.length_append, List.length_cons, Nat.succ_mul]
    omega
theorem lineB_len (wd : ByteArray) (n : Int) (h0 : 0 ≤ n) (h1 : n ≤ 9223372036854775807) (hw : wd.size ≤ 1000) : (lineB wd n).data.toList.length ≤ 1022 := by
  have hl := itoa_len n h0 h1
  have e : (lineB wd n).size = wd.size + 1 + (Lib.itoa n).length + 1 := by
    unfold lineB
    simp only [size_app]
    rfl
  have e2 : (lineB wd n).data.toList.length = (lineB wd n).size := rfl
  omega

/-- A line: a word, integers. -/
def joinTailB (zs : List Int) : List UInt8 := Lib.joinTail [32] (zs.map Lib.itoa)
def bareB (wd : ByteArray) (zs : List Int) : ByteArray := ⟨(Lib.join ((wd :: mapS itoaB zs).map (·.data.toList)) [32]).toArray⟩
def lineG (wd : ByteArray) (zs : List Int) : ByteArray := bareB wd zs ++ ⟨#[10]⟩
theorem bareB_list (wd : ByteArray) (zs : List Int) : (bareB wd zs).data.toList = wd.data.toList ++ joinTailB zs := by
  have e : (mapS itoaB zs).map (·.data.toList) = zs.map Lib.itoa := by
    unfold mapS
    rw [List.map_map]
    rfl
  unfold bareB joinTailB
  rw [List.map_cons, e, Lib.join_cons]
theorem bareB_size (wd : ByteArray) (zs : List Int) (hw : wd.size ≤ 1000) (hn : zs.length ≤ 1024) (hv : ∀ z ∈ zs, 0 ≤ z ∧ z ≤ 9223372036854775807) : (bareB wd zs).size ≤ 30000 := by
  have e : (bareB wd zs).size = (bareB wd zs).data.toList.length := rfl
  have e2 : wd.data.toList.length = wd.size := rfl
  rw [e, bareB_list, List.length_append, e2]
  have h := flat_le 21 ((zs.map Lib.itoa).map ([32] ++ ·)) (fun x hx => by
    obtain ⟨y, hy, rfl⟩ := List.mem_map.1 hx
    obtain ⟨z, hz, rfl⟩ := List.mem_map.1 hy
    have := itoa_len z (hv z hz).1 (hv z hz).2
    simp
    omega)
  simp only [List.length_map] at h
  have h2 : zs.length * 21 ≤ 1024 * 21 := Nat.mul_le_mul_right _ hn
  have h3 : (joinTailB zs).length = ((zs.map Lib.itoa).map ([32] ++ ·)).flatten.length := rfl
  omega
theorem lineG_one (wd : ByteArray) (n : Int) : lineG wd [n] = lineB wd n := by
  have h : (lineG wd [n]).data.toList = (lineB wd n).data.toList := by
    unfold lineG lineB
    simp [bareB_list, joinTailB, Lib.joinTail]
  cases ha : lineG wd [n] with
  | mk a =>
    cases hb : lineB wd n with
    | mk b =>
      rw [ha, hb] at h
      have : a = b := Array.toList_inj.1 h
      rw [this]

set_option maxHeartbeats 4000000 in
set_option maxRecDepth 100000 in
theorem Line_any (wd : ByteArray) (A : Option Addr) (n c : Nat) (zs : List Int) (w : World) (hz : IntsAt w A n zs) (hn : n ≤ 1024) (hv : ∀ z ∈ zs, 0 ≤ z ∧ z ≤ 9223372036854775807) (ht : Tab w) (hw : wd.size ≤ 1000) :
    Calls Tryz.prog 158 #[.string wd, .slice A n c] w fun e w' => e = .returned (.string (lineG wd zs)) ∧ Below w.heap.size w w' := by
  have HB0 : ∀ cs t, Hid (Below w.heap.size w (w.alloc (.cells cs t))) := fun cs t => Lib.hid ((Below.refl _ _).alloc (Nat.le_refl _) _)
  have HZ := Lib.hid hz
  have HV := Lib.hid hv
  have HT := Lib.hid ht
  have hsize := Lib.hid (bareB_size wd zs hw (by rw [hz.1]; exact hn) hv)
  have HVI : Hid (∀ i, i < n → 0 ≤ zs.getD i 0 ∧ zs.getD i 0 ≤ 9223372036854775807) := by
    show ∀ i, i < n → _
    intro i hi
    rw [← hz.1] at hi
    rw [List.getD_eq_getElem?_getD, List.getElem?_eq_getElem hi]
    exact hv _ (List.getElem_mem hi)
  have HN : Hid (zs.length = n) := hz.1
  obtain ⟨S, hS⟩ : ∃ S, S = bareB wd zs := ⟨_, rfl⟩
  have hG : lineG wd zs = S ++ ⟨#[10]⟩ := by rw [hS]; rfl
  have k1 : ∀ w', (Op.stringOp .add S ⟨#[10]⟩).run Tryz.prog w' = .ok (.string (S ++ ⟨#[10]⟩)) w' := fun w' => run_string_add_sum w' _ _ (by rw [hS]; have := hsize.out; show (bareB wd zs).size + 1 ≤ _; omega)
  rw [hG]
  have HSS := Lib.hid hS
  clear hz hv ht hS hG hw
  go_enter Tryz.func158, Tryz.ntmps158
  go_wp2_with fail
  refine (mapped_strs _ itoaB 9223372036854775807 (Int.le_refl _) enters_itoa (fun x W h0 h1 ht => itoa_any x h0 h1 W ht) A n c zs _ hn (HZ.out.keep (HB0 _ _).out) HVI.out (HT.out.keep (HB0 _ _).out)).mono ?_
  rintro e w1 ⟨v, rfl, hO, hb⟩
  obtain ⟨A1, c1, rfl, hA1, hc1, hS1⟩ := hO.at
  have hcell := hb.cell (p := ⟨w.heap.size, 0, none⟩) (by show w.heap.size < _; simp)
  have hcell : w1.cell? ⟨w.heap.size, 0, none⟩ = some (.string wd) := hcell.trans (by go_simp)
  have hsz := hb.size
  have hlt : w.heap.size < w1.heap.size := by simp at hsz; omega
  have HB1 : Hid (Below w.heap.size w w1) := (HB0 _ _).out.trans (hb.mono (by simp))
  have HA1 := Lib.hid hA1
  have HS1 := Lib.hid hS1
  have HC : Hid (w1.cell? ⟨w.heap.size, 0, none⟩ = some (.string wd)) := hcell
  have hlen := mapS_len itoaB zs
  rw [HN.out] at hlen
  have HL : Hid ((mapS itoaB zs).length = n) := hlen
  clear hO hb hA1 hS1 hcell hc1 hsz hlen
  obtain ⟨m, hm⟩ : ∃ m, m = (mapS itoaB zs).length := ⟨_, rfl⟩
  rw [← hm]
  have HM : Hid (m = n) := hm.trans HL.out
  have HS2 : Hid (StrsAt w1 A1 m (mapS itoaB zs)) := by show StrsAt _ _ _ _; rw [hm]; exact HS1.out
  clear hm HS1
  have HB1' : ∀ cs t, Hid (Below w1.heap.size w1 (w1.alloc (.cells cs t))) := fun cs t => Lib.hid ((Below.refl _ _).alloc (Nat.le_refl _) _)
  go_wp2_with fail
  refine (concat2_any w1.heap.size (some ⟨w.heap.size, 0, none⟩) A1 1 m 1 c1 [wd] (mapS itoaB zs) _ (by go_simp) (by go_simp) ⟨rfl, fun _ => ⟨w.heap.size, 0, rfl, by simp; omega, fun i x hx => ?_⟩⟩ (HS2.out.keep (HB1' _ _).out (Nat.le_refl _)) (fun e => by cases e) HA1.out (by rw [HM.out]; omega) (by omega)).mono ?_
  · have hi : i = 0 := by have := (List.getElem?_eq_some_iff.1 hx).1; simp at this; exact this
    subst hi
    have hx : x = wd := by simpa using hx.symm
    subst hx
    rw [(HB1' _ _).out.cell (p := ⟨w.heap.size, 0 + 0, none⟩) (by show w.heap.size < _; exact hlt)]
    exact HC.out
  rintro e w2 ⟨v2, rfl, hO2, hb2⟩
  obtain ⟨A2, c2, rfl, hcap, hA2, hcc⟩ := hO2.form
  have hpos : 0 < ([wd] ++ mapS itoaB zs).length := by simp
  obtain ⟨g, rfl, hg, hcc⟩ := hcc hpos
  have HB2 : Hid (Below w.heap.size w w2) := HB1.out.trans (((HB1' _ _).out.trans (hb2.mono (by simp))).mono (by omega))
  have J : Hid (Calls Tryz.prog 181 #[.slice (some ⟨g, 0, none⟩) ([wd] ++ mapS itoaB zs).length c2, .string ⟨#[32]⟩] w2 fun e w' => e = .returned (.string S) ∧ Below w2.heap.size w2 w') := by
    show Calls _ _ _ _ _
    rw [HSS.out]
    have e : (bareB wd zs).size = (Lib.join ((wd :: mapS itoaB zs).map (·.data.toList)) [32]).length := by simp [bareB, ByteArray.size]
    have h3 := hsize.out
    refine (Tryz.strings_Join g 0 c2 ([wd] ++ mapS itoaB zs) ⟨#[32]⟩ w2 (fun i x hx => hcc i x hx) hg ?_ hcap ?_).mono (fun e w' h => h)
    · rw [List.length_append, HL.out]; simp; omega
    · show (Lib.join ((wd :: mapS itoaB zs).map (·.data.toList)) [32]).length ≤ _
      omega
  clear hO2 hb2 hcap hA2 hcc hpos hg
  obtain ⟨m2, hm2⟩ : ∃ m2, m2 = ([wd] ++ mapS itoaB zs).length := ⟨_, rfl⟩
  rw [← hm2] at J ⊢
  clear hm2
  go_wp2_with fail
  refine J.out.mono ?_
  rintro e w3 ⟨rfl, hb3⟩
  have HB3 : Hid (Below w.heap.size w w3) := HB2.out.trans (hb3.mono HB2.out.size)
  clear hb3
  go_wp2
  go_ret
  exact ⟨rfl, HB3.out⟩

/-- Lines put together. -/
def joinB (l : List ByteArray) : ByteArray := ⟨(Lib.join (l.map (·.data.toList)) []).toArray⟩
def joinedV (s : ByteArray) : ByteArray := if 4096 < s.size then ⟨#[]⟩ else s
def joinedE (s : ByteArray) : Int := if 4096 < s.size then 26 else 0
theorem ret_str2 {a b : ByteArray} {x y : Int} (h : a = b) (h2 : x = y) : Ending.returned (.tuple #[.string a, .int .i64 x]) = .returned (.tuple #[.string b, .int .i64 y]) := by rw [h, h2]
set_option maxHeartbeats 2000000 in
set_option maxRecDepth 100000 in
theorem Joined_any (A : Option Addr) (n c : Nat) (l : List ByteArray) (w : World) (hs : StrsAt w A n l) (hp : 0 < n) (hn : n ≤ 100000) (hc : n ≤ c) (hj : (joinB l).size ≤ 100000000) :
    Calls Tryz.prog 159 #[.slice A n c] w fun e w' => e = .returned (.tuple #[.string (joinedV (joinB l)), .int .i64 (joinedE (joinB l))]) ∧ Below w.heap.size w w' := by
  obtain ⟨g, o, rfl, hg, hcc⟩ := hs.2 hp
  have hl := hs.1
  subst hl
  obtain ⟨S, hS⟩ : ∃ S, S = joinB l := ⟨_, rfl⟩
  have J : Hid (Calls Tryz.prog 181 #[.slice (some ⟨g, o, none⟩) l.length c, .string ⟨#[]⟩] w fun e w' => e = .returned (.string S) ∧ Below w.heap.size w w') := by
    show Calls _ _ _ _ _
    rw [hS]
    have e : (joinB l).size = (Lib.join (l.map (·.data.toList)) []).length := by simp [joinB, ByteArray.size]
    refine (Tryz.strings_Join g o c l ⟨#[]⟩ w (fun i x hx => hcc i x hx) hg (by omega) hc ?_).mono (fun e w' h => h)
    show (Lib.join (l.map (·.data.toList)) []).length ≤ _
    omega
  rw [← hS]
  clear hcc hs hp hn hj hS
  by_cases hlong : 4096 < S.size
  · have r1 : joinedV S = ⟨#[]⟩ := if_pos hlong
    have r2 : joinedE S = 26 := if_pos hlong
    rw [r1, r2]
    have hd : decide ((4096 : Int) < (S.size : Int)) = true := by simp; omega
    clear r1 r2
    go_enter Tryz.func159, Tryz.ntmps159
    go_wp2_with fail
    refine J.out.mono ?_
    rintro e w1 ⟨rfl, hb⟩
    have HB := Lib.hid hb
    clear hb
    go_wp2
    go_ret2
    exact ⟨rfl, HB.out⟩
  · have r1 : joinedV S = S := if_neg hlong
    have r2 : joinedE S = 0 := if_neg hlong
    rw [r1, r2]
    have hd : decide ((4096 : Int) < (S.size : Int)) = false := by simp; omega
    clear r1 r2
    go_enter Tryz.func159, Tryz.ntmps159
    go_wp2_with fail
    refine J.out.mono ?_
    rintro e w1 ⟨rfl, hb⟩
    have HB := Lib.hid hb
    clear hb
    go_wp2
    go_ret2
    exact ⟨rfl, HB.out⟩

theorem intsAt_new (w : World) (n : Int) (T : TypeId) : IntsAt (w.alloc (.cells #[.int .i64 n] T)) (some ⟨w.heap.size, 0, none⟩) 1 [n] :=
  ⟨rfl, fun _ => ⟨w.heap.size, 0, rfl, fun i hi => by
    obtain rfl : i = 0 := by omega
    show (w.alloc _).cell? ⟨w.heap.size, 0, none⟩ = some (.int .i64 n)
    go_simp⟩⟩
set_option maxHeartbeats 2000000 in
set_option maxRecDepth 100000 in
theorem print1_any (n : Int) (h0 : 0 ≤ n) (h1 : n ≤ 9223372036854775807) (w : World) (ht : Tab w) :
    Calls Tryz.prog 157 #[.int .i64 n] w fun e w' => e = .returned (.string (lineB energyB n)) ∧ Below w.heap.size w w' := by
  have HB0 : ∀ cs t, Hid (Below w.heap.size w (w.alloc (.cells cs t))) := fun cs t => Lib.hid ((Below.refl _ _).alloc (Nat.le_refl _) _)
  have HT := Lib.hid ht
  obtain ⟨L, hL⟩ : ∃ L, L = lineB energyB n := ⟨_, rfl⟩
  have HLn : Hid (∀ W T, Tab W → Calls Tryz.prog 158 #[.string ⟨#[101, 110, 101, 114, 103, 121]⟩, .slice (some ⟨W.heap.size, 0, none⟩) 1 1] (W.alloc (.cells #[.int .i64 n] T)) fun e w' => e = .returned (.string L) ∧ Below W.heap.size W w') := by
    show ∀ W T, _
    intro W T hT
    have hb : Below W.heap.size W (W.alloc (.cells #[.int .i64 n] T)) := (Below.refl _ _).alloc (Nat.le_refl _) _
    refine (Line_any energyB _ 1 1 [n] _ (intsAt_new W n T) (by omega) (fun z hz => by simp at hz; omega) (hT.keep hb) (by decide)).mono ?_
    rintro e w' ⟨rfl, hb2⟩
    rw [lineG_one, ← hL]
    exact ⟨rfl, hb.trans (hb2.mono (by simp))⟩
  rw [← hL]
  clear ht hL h0 h1
  go_enter Tryz.func157, Tryz.ntmps157
  go_wp2_with fail
  refine (HLn.out _ _ HT.out).mono ?_
  rintro e w' ⟨rfl, hb⟩
  have HB := Lib.hid hb
  clear hb
  go_wp2
  go_ret
  exact ⟨rfl, HB.out⟩
theorem enters_print1 (args : Array Value) (W : World) : (callFunc 157 args).run Tryz.prog W = .ok (.enter 157 args) W := by kernel_rfl

def linesL (zs : List Int) : List ByteArray := mapS (lineB energyB) zs
theorem linesL_len (zs : List Int) : (linesL zs).length = zs.length := mapS_len _ _
def countB : ByteArray := ⟨#[101, 110, 101, 114, 103, 105, 101, 115]⟩
def fullB (zs : List Int) : ByteArray := joinB (lineB countB zs.length :: linesL zs)
def printErr (zs : List Int) : Int := if checkEnergiesE zs = 0 then joinedE (fullB zs) else checkEnergiesE zs
def printVal (zs : List Int) : ByteArray := if checkEnergiesE zs = 0 then joinedV (fullB zs) else ⟨#[]⟩
theorem fullB_size (zs : List Int) (hv : ValidE zs) : (fullB zs).size ≤ 2000000 := by
  have e : (fullB zs).size = (Lib.join ((lineB countB zs.length :: linesL zs).map (·.data.toList)) []).length := by simp [fullB, joinB, ByteArray.size]
  rw [e, join_flat]
  have hl := hv.1
  have := flat_le 1022 ((lineB countB zs.length :: linesL zs).map (·.data.toList)) (fun x hx => by
    obtain ⟨s, hs, rfl⟩ := List.mem_map.1 hx
    rcases List.mem_cons.1 hs with rfl | hs
    · exact lineB_len _ _ (by omega) (by omega) (by decide)
    · obtain ⟨z, hz, rfl⟩ := List.mem_map.1 hs
      obtain ⟨i, hi, rfl⟩ := List.getElem_of_mem hz
      have := hv.2 i hi
      rw [List.getD_eq_getElem?_getD, List.getElem?_eq_getElem hi] at this
      simp only [Option.getD_some] at this
      exact lineB_len _ _ this.1 (by omega) (by decide))
  rw [List.length_map, List.length_cons, linesL_len] at this
  have h2 : (zs.length + 1) * 1022 ≤ 1025 * 1022 := Nat.mul_le_mul_right _ (by omega)
  omega

set_option maxHeartbeats 4000000 in
set_option maxRecDepth 100000 in
theorem Print_any (A : Option Addr) (n c : Nat) (zs : List Int) (w : World) (hn : n ≤ 140737488351232) (hz : IntsAt w A n zs) (ht : Tab w) :
    Calls Tryz.prog 92 #[.slice A n c] w fun e w' => e = .returned (.tuple #[.string (printVal zs), .int .i64 (printErr zs)]) ∧ Below w.heap.size w w' := by
  have HZ := Lib.hid hz
  have hl := Lib.hid hz.1
  have HT := Lib.hid ht
  clear hz ht
  obtain ⟨E, hE⟩ : ∃ E, E = checkEnergiesE zs := ⟨_, rfl⟩
  have HE := Lib.hid hE
  clear hE
  by_cases h : E = 0
  · have h1 : (E != 0) = false := by simp [h]
    have HV := Lib.hid (validE_of (HE.out.symm.trans h))
    have hn2 : n ≤ 1024 := by have := HV.out.1; rw [hl.out] at this; exact this
    have hn3 : n ≤ 9223372036854775807 := by omega
    obtain ⟨RE, hRE⟩ : ∃ RE, RE = joinedE (fullB zs) := ⟨_, rfl⟩
    obtain ⟨RV, hRV⟩ : ∃ RV, RV = joinedV (fullB zs) := ⟨_, rfl⟩
    have r1 : printErr zs = RE := by unfold printErr; rw [if_pos (by rw [← HE.out]; exact h), hRE]
    have r2 : printVal zs = RV := by unfold printVal; rw [if_pos (by rw [← HE.out]; exact h), hRV]
    rw [r1, r2]
    have HRE := Lib.hid hRE
    have HRV := Lib.hid hRV
    obtain ⟨L, hL⟩ : ∃ L, L = lineB countB n := ⟨_, rfl⟩
    have HL := Lib.hid hL
    have HLn : Hid (∀ W T, Tab W → Calls Tryz.prog 158 #[.string ⟨#[101, 110, 101, 114, 103, 105, 101, 115]⟩, .slice (some ⟨W.heap.size, 0, none⟩) 1 1] (W.alloc (.cells #[.int .i64 (n : Int)] T)) fun e w' => e = .returned (.string L) ∧ Below W.heap.size W w') := by
      show ∀ W T, _
      intro W T hT
      have hb : Below W.heap.size W (W.alloc (.cells #[.int .i64 n] T)) := (Below.refl _ _).alloc (Nat.le_refl _) _
      refine (Line_any countB _ 1 1 [(n : Int)] _ (intsAt_new W n T) (by omega) (fun z hz => by simp at hz; omega) (hT.keep hb) (by decide)).mono ?_
      rintro e w' ⟨rfl, hb2⟩
      rw [lineG_one, ← hL]
      exact ⟨rfl, hb.trans (hb2.mono (by simp))⟩
    clear r1 r2 h hRE hRV hL
    go_enter Tryz.func92, Tryz.ntmps92
    go_wp2_with fail
    refine (checkEnergies_any A n c zs w hn HZ.out).mono ?_
    rw [← HE.out]
    rintro e w1 ⟨rfl, hb⟩
    have HZ1 := Lib.hid (HZ.out.keep hb)
    have HT1 := Lib.hid (HT.out.keep hb)
    have HB := Lib.hid hb
    clear hb
    go_wp2_with fail
    refine (mapped_strs _ (lineB energyB) 10000000000000 (by omega) enters_print1 (fun x W h0 h1 ht => print1_any x h0 (by omega) W ht) A n c zs w1 hn2 HZ1.out (fun i hi => HV.out.2 i (by rw [hl.out]; exact hi)) HT1.out).mono ?_
    rintro e w2 ⟨v, rfl, hO, hb2⟩
    have HT2 := Lib.hid (HT1.out.keep hb2)
    have HB2 : Hid (Below w.heap.size w w2) := HB.out.trans (hb2.mono HB.out.size)
    have HO : Hid (OwnS w2 w1.heap.size v (linesL zs)) := hO
    clear hb2 hO
    go_wp2_with fail
    refine (HLn.out _ _ HT2.out).mono ?_
    rintro e w3 ⟨rfl, hb3⟩
    have HB3 : Hid (Below w.heap.size w w3) := HB2.out.trans (hb3.mono HB2.out.size)
    obtain ⟨A1, c1, rfl, hA1, hc1, hS1⟩ := (HO.out.later hb3 (Nat.le_refl _)).at
    have HA1 := Lib.hid hA1
    have HS1 := Lib.hid hS1
    clear hb3 hA1 hS1 hc1
    have hlen := linesL_len zs
    rw [hl.out] at hlen
    have HLL : Hid ((linesL zs).length = n) := hlen
    clear hlen
    obtain ⟨m, hm⟩ : ∃ m, m = (linesL zs).length := ⟨_, rfl⟩
    rw [← hm]
    have HM : Hid (m = n) := hm.trans HLL.out
    have HS2 : Hid (StrsAt w3 A1 m (linesL zs)) := by show StrsAt _ _ _ _; rw [hm]; exact HS1.out
    clear hm HS1
    have HB4 : ∀ cs t cs' t', Hid (Below w3.heap.size w3 ((w3.alloc (.cells cs t)).alloc (.cells cs' t'))) := fun cs t cs' t' => Lib.hid (((Below.refl _ _).alloc (Nat.le_refl _) _).alloc (by simp) _)
    go_wp2_with fail
    refine (concat2_any (w3.heap.size + 1) (some ⟨w3.heap.size, 0, none⟩) A1 1 m 1 c1 [L] (linesL zs) _ (by go_simp) (by go_simp) ⟨rfl, fun _ => ⟨w3.heap.size, 0, rfl, by simp; omega, fun i x hx => ?_⟩⟩ (HS2.out.keep (HB4 _ _ _ _).out (Nat.le_refl _)) (fun e => by cases e) HA1.out (by rw [HM.out]; omega) (by omega)).mono ?_
    · have hi : i = 0 := by have := (List.getElem?_eq_some_iff.1 hx).1; simp at this; exact this
      subst hi
      have hx : x = L := by simpa using hx.symm
      rw [hx]
      go_simp
    rintro e w4 ⟨v2, rfl, hO2, hb4⟩
    have HB5 : Hid (Below w.heap.size w w4) := HB3.out.trans (((HB4 _ _ _ _).out.trans (hb4.mono (by simp; omega))).mono HB3.out.size)
    obtain ⟨A2, c2, rfl, hA2, hc2, hS2⟩ := hO2.at
    have HJ := Lib.hid (Joined_any A2 ([L] ++ linesL zs).length c2 ([L] ++ linesL zs) w4 hS2 (by simp) (by rw [List.length_append, HLL.out]; simp; omega) hc2 (by
      have := fullB_size zs HV.out
      unfold fullB at this
      rw [hl.out, ← HL.out] at this
      show (joinB (L :: linesL zs)).size ≤ _
      omega))
    have e5 : joinB ([L] ++ linesL zs) = fullB zs := by unfold fullB; rw [hl.out, ← HL.out]; rfl
    rw [e5, ← HRE.out, ← HRV.out] at HJ
    clear hO2 hb4 hA2 hc2 hS2 e5
    obtain ⟨m2, hm2⟩ : ∃ m2, m2 = ([L] ++ linesL zs).length := ⟨_, rfl⟩
    rw [← hm2] at HJ ⊢
    clear hm2
    go_wp2_with fail
    refine HJ.out.mono ?_
    rintro e w5 ⟨rfl, hb5⟩
    have HB6 : Hid (Below w.heap.size w w5) := HB5.out.trans (hb5.mono HB5.out.size)
    clear hb5
    go_wp2
    go_ret2
    exact ⟨rfl, HB6.out⟩
  · have h1 : (E != 0) = true := by simp [h]
    have r1 : Hid (printErr zs = E) := by show _ = _; unfold printErr; rw [if_neg (by rw [← HE.out]; exact h)]; exact HE.out.symm
    have r2 : Hid (printVal zs = ⟨#[]⟩) := by show _ = _; unfold printVal; rw [if_neg (by rw [← HE.out]; exact h)]
    rw [r1.out, r2.out]
    clear h
    go_enter Tryz.func92, Tryz.ntmps92
    go_wp2_with fail
    refine (checkEnergies_any A n c zs w hn HZ.out).mono ?_
    rw [← HE.out]
    rintro e w1 ⟨rfl, hb⟩
    have HB := Lib.hid hb
    clear hb
    go_wp2
    go_ret2
    exact ⟨rfl, HB.out⟩
end Go.Proofs.YtoipafnlcchmbaaGreatDoor
