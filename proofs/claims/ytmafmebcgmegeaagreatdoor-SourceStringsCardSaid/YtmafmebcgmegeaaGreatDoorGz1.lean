/- Part. -/
import Derived.Test.YtmafmebcgmegeaaGreatDoorRows
import Derived.WalkKit
import Derived.WalkSpells
import Derived.WalkLawsBesides
import Derived.Lib.Hide
import Derived.Deep.QuietTactic
import Derived.BigQuiet
import Derived.StillTailTactics
import Derived.Outline
import Derived.Laws.RangeAny
import Derived.BigRegion
import Derived.RegionTactic
namespace Go.Proofs.YtmafmebcgmegeaaGreatDoor
open Go.RowKit
theorem lh {p : Prop} (h : p) : Go.RowKit.Hid p := Go.Lib.hid h
theorem ret_int {k : IntKind} {a b : Int} (h : a = b) : Ending.returned (.int k a) = .returned (.int k b) := by rw [h]
theorem ret_bool {a b : Bool} (h : a = b) : Ending.returned (.bool a) = .returned (.bool b) := by rw [h]
def withinE (n low high : Int) : Int := if n < low ∨ high < n then 3 else 0
set_option maxHeartbeats 400000 in
theorem within_any (n low high : Int) (w : World) :
  Calls Tryz.prog 157 #[.int .i64 n, .int .i64 low, .int .i64 high] w fun e w' => e = .returned (.int .i64 (withinE n low high)) /\ w = w' := by
 by_cases h1 : n < low
 ·have hr : withinE n low high = 3 := by simp [withinE, h1]
  rw [hr]; clear hr
  go_enter Tryz.func157, Tryz.ntmps157
  go_wp2
  go_ret
  exact ⟨rfl, rfl⟩
 ·by_cases h2 : high < n
  ·have hr : withinE n low high = 3 := by simp [withinE, h2]
   rw [hr]; clear hr
   go_enter Tryz.func157, Tryz.ntmps157
   go_wp2
   go_ret
   exact ⟨rfl, rfl⟩
  ·have hr : withinE n low high = 0 := by simp [withinE]; omega
   rw [hr]; clear hr
   go_enter Tryz.func157, Tryz.ntmps157
   go_wp2
   go_ret
   exact ⟨rfl, rfl⟩
def firstE : List Int -> Int
 | [] => 0
 | e :: l => if e = 0 then firstE l else e
theorem firstE_take (l : List Int) (k : Nat) (hk : k <= l.length) (hz : ∀ i, i < k -> l.getD i 0 = 0) : firstE l = firstE (l.drop k) := by
 induction k with
 | zero => rfl
 | succ k ih =>
   rw [ih (by omega) (fun i hi => hz i (by omega))]; have h := hz k (by omega); rw [List.drop_eq_getElem_cons (by omega)]; rw [List.getD_eq_getElem?_getD, List.getElem?_eq_getElem (by omega)] at h; simp only [Option.getD_some] at h
   simp [firstE, h]
theorem firstE_hit (l : List Int) (k : Nat) (hk : k < l.length) (hz : ∀ i, i < k -> l.getD i 0 = 0) (h : l.getD k 0 ≠ 0) : firstE l = l.getD k 0 := by
 rw [firstE_take l k (by omega) hz, List.drop_eq_getElem_cons (by omega)]; rw [List.getD_eq_getElem?_getD, List.getElem?_eq_getElem (by omega)] at h ⊢; simp only [Option.getD_some] at h ⊢
 simp [firstE, h]
theorem firstE_miss (l : List Int) (hz : ∀ i, i < l.length -> l.getD i 0 = 0) : firstE l = 0 := by
 rw [firstE_take l l.length (Nat.le_refl _) hz]
 simp [firstE]
set_option maxHeartbeats 400000 in
theorem first_any (g n c : Nat) (zs : List Int) (w : World) (hl : zs.length = n) (hn : n <= 4096)
  (hc : ∀ i, i < n -> w.cell? ⟨g, i, none⟩ = some (.int .i64 (zs.getD i 0))) :
  Calls Tryz.prog 87 #[.slice (some ⟨g, 0, none⟩) n c] w fun e w' => e = .returned (.int .i64 (firstE zs)) /\ w = w' := by
 have HL := lh hl; have HC := lh hc; clear hl hc
 go_enter Tryz.func87, Tryz.ntmps87
 go_wp2
 go_loop [7] (fun i => ∃ k : Nat, k <= n /\ i = .int .i64 k /\ Hid (∀ i, i < k -> zs.getD i 0 = 0)) (fun i => n - (intOf i).toNat)
 case atStart => exact ⟨0, Nat.zero_le _, rfl, fun i hi => by omega⟩
 case round =>
  obtain ⟨k, hk, rfl, hz⟩ := hrel
  by_cases hlt : k < n
  ·obtain ⟨x, hx⟩ : ∃ x, x = zs.getD k 0 := ⟨_, rfl⟩; have h0 := HC.out k hlt; rw [<- hx] at h0; have HX := lh hx; clear hx
   by_cases he : x = 0
   ·have h1 : (x != 0) = false := by simp [he]
    have HE := lh he; clear he; go_wp2
    go_round
    case rel =>
     refine ⟨k + 1, by omega, by go_num, fun i hi => ?_⟩
     by_cases hik : i < k
     ·exact hz.out i hik
     ·obtain rfl : i = k := by omega
      rw [<- HX.out]; exact HE.out
    case measure => simp [intOf]; omega
   ·have h1 : (x != 0) = true := by simp [he]
    have HE := lh he; clear he; go_wp2; go_ret; exact ⟨ret_int (by rw [firstE_hit zs k (by rw [HL.out]; exact hlt) hz.out (by rw [<- HX.out]; exact HE.out)]; exact HX.out), rfl⟩
  ·go_wp2
   go_ret
   exact ⟨ret_int (firstE_miss zs (fun i hi => hz.out i (by rw [HL.out] at hi; omega))).symm, rfl⟩
theorem first2 (g c : Nat) (x y : Int) (w : World) (h0 : w.cell? ⟨g, 0, none⟩ = some (.int .i64 x)) (h1 : w.cell? ⟨g, 1, none⟩ = some (.int .i64 y)) :
  Calls Tryz.prog 87 #[.slice (some ⟨g, 0, none⟩) 2 c] w fun e w' => e = .returned (.int .i64 (firstE [x, y])) /\ w = w' :=
 first_any g 2 c [x, y] w rfl (by omega) fun i hi => by
  match i, hi with
  | 0, _ => exact h0
  | 1, _ => exact h1
theorem first3 (g c : Nat) (x y z : Int) (w : World) (h0 : w.cell? ⟨g, 0, none⟩ = some (.int .i64 x)) (h1 : w.cell? ⟨g, 1, none⟩ = some (.int .i64 y)) (h2 : w.cell? ⟨g, 2, none⟩ = some (.int .i64 z)) :
  Calls Tryz.prog 87 #[.slice (some ⟨g, 0, none⟩) 3 c] w fun e w' => e = .returned (.int .i64 (firstE [x, y, z])) /\ w = w' :=
 first_any g 3 c [x, y, z] w rfl (by omega) fun i hi => by
  match i, hi with
  | 0, _ => exact h0
  | 1, _ => exact h1
  | 2, _ => exact h2
theorem first4 (g c : Nat) (x y z u : Int) (w : World) (h0 : w.cell? ⟨g, 0, none⟩ = some (.int .i64 x)) (h1 : w.cell? ⟨g, 1, none⟩ = some (.int .i64 y)) (h2 : w.cell? ⟨g, 2, none⟩ = some (.int .i64 z)) (h3 : w.cell? ⟨g, 3, none⟩ = some (.int .i64 u)) :
  Calls Tryz.prog 87 #[.slice (some ⟨g, 0, none⟩) 4 c] w fun e w' => e = .returned (.int .i64 (firstE [x, y, z, u])) /\ w = w' :=
 first_any g 4 c [x, y, z, u] w rfl (by omega) fun i hi => by
  match i, hi with
  | 0, _ => exact h0
  | 1, _ => exact h1
  | 2, _ => exact h2
  | 3, _ => exact h3
theorem within_st (n low high : Int) (w : World) :
  Calls Tryz.prog 157 #[.int .i64 n, .int .i64 low, .int .i64 high] w fun e w' => e = .returned (.int .i64 (withinE n low high)) /\ w' = w :=
 (within_any n low high w).mono fun _ _ ⟨h, e⟩ => ⟨h, e.symm⟩
theorem withinE_zero {n low high : Int} (h : withinE n low high = 0) : low <= n /\ n <= high := by
 unfold withinE at h; split at h <;> omega
theorem firstE2_zero {x y : Int} (h : firstE [x, y] = 0) : x = 0 /\ y = 0 := by
 unfold firstE at h; split at h
 ·unfold firstE at h; split at h <;> simp_all
 ·contradiction
def IntsAt (w : World) (A : Option Addr) (n : Nat) (zs : List Int) : Prop :=
 zs.length = n /\ (0 < n -> ∃ b off, A = some ⟨b, off, none⟩ /\ ∀ i, i < n -> w.cell? ⟨b, off + i, none⟩ = some (.int .i64 (zs.getD i 0)))
def firstInE (f : Int -> Int) (zs : List Int) : Int := firstE (zs.map f)
theorem getD_map (f : Int -> Int) (zs : List Int) (i : Nat) (h : i < zs.length) : (zs.map f).getD i 0 = f (zs.getD i 0) := by
 simp [List.getD_eq_getElem?_getD, List.getElem?_eq_getElem h]
theorem firstInE_hit (f : Int -> Int) (zs : List Int) (k : Nat) (hk : k < zs.length) (hz : ∀ i, i < k -> f (zs.getD i 0) = 0) (h : f (zs.getD k 0) ≠ 0) : firstInE f zs = f (zs.getD k 0) := by
 unfold firstInE; rw [firstE_hit (zs.map f) k (by simpa using hk) (fun i hi => by rw [getD_map f zs i (by omega)]; exact hz i hi) (by rw [getD_map f zs k hk]; exact h), getD_map f zs k hk]
theorem firstInE_miss (f : Int -> Int) (zs : List Int) (hz : ∀ i, i < zs.length -> f (zs.getD i 0) = 0) : firstInE f zs = 0 := by
 unfold firstInE; refine firstE_miss _ (fun i hi => ?_); rw [List.length_map] at hi; rw [getD_map f zs i hi]; exact hz i hi
set_option maxHeartbeats 400000 in
set_option maxRecDepth 100000 in
theorem firstIn_int (F : FuncId) (f : Int -> Int) (A : Option Addr) (n c : Nat) (zs : List Int) (w : World) (hn : n <= 140737488351232)
  (hE : ∀ (args : Array Value) (W : World), (callFunc F args).run Tryz.prog W = .ok (.enter F args) W)
  (hF : ∀ (x : Int) (W : World), Calls Tryz.prog F #[.int .i64 x] W fun e w' => e = .returned (.int .i64 (f x)) /\ W = w')
  (hz : IntsAt w A n zs) :
  Calls Tryz.prog 110 #[.slice A n c, .func (.func F) #[] #[]] w fun e w' => e = .returned (.int .i64 (firstInE f zs)) /\ w = w' := by
 obtain ⟨hl, hc⟩ := hz; have HL := lh hl; have HC := lh hc; have HF := lh hF; clear hl hc hF
 go_enter Tryz.func110, Tryz.ntmps110
 go_wp2
 go_loop [10] (fun i => ∃ k : Nat, k <= n /\ i = .int .i64 k /\ Hid (∀ i, i < k -> f (zs.getD i 0) = 0)) (fun i => n - (intOf i).toNat)
 case atStart => exact ⟨0, Nat.zero_le _, rfl, fun i hi => by omega⟩
 case round =>
  obtain ⟨k, hk, rfl, hz⟩ := hrel
  by_cases hlt : k < n
  ·obtain ⟨b, off, rfl, hcc⟩ := HC.out (by omega); obtain ⟨x, hx⟩ : ∃ x, x = zs.getD k 0 := ⟨_, rfl⟩; have h0 := hcc k hlt; clear hcc; rw [<- hx] at h0; have HX := lh hx; clear hx
   go_wp2_with fail
   refine (HF.out x _).mono ?_; rintro e w' ⟨rfl, rfl⟩; obtain ⟨y, hy⟩ : ∃ y, y = f x := ⟨_, rfl⟩; rw [<- hy]; have HY := lh hy; clear hy
   by_cases he : y = 0
   ·have h1 : (y != 0) = false := by simp [he]
    have HE := lh he; clear he; go_wp2
    go_round
    case rel =>
     refine ⟨k + 1, by omega, by go_num, fun i hi => ?_⟩
     by_cases hik : i < k
     ·exact hz.out i hik
     ·obtain rfl : i = k := by omega
      rw [<- HX.out, <- HY.out]; exact HE.out
    case measure => simp [intOf]; omega
   ·have h1 : (y != 0) = true := by simp [he]
    have HE := lh he; clear he; go_wp2; go_ret; exact ⟨ret_int (by rw [firstInE_hit f zs k (by rw [HL.out]; exact hlt) hz.out (by rw [<- HX.out, <- HY.out]; exact HE.out), <- HX.out]; exact HY.out), rfl⟩
  ·go_wp2
   go_ret
   exact ⟨ret_int (firstInE_miss f zs (fun i hi => hz.out i (by rw [HL.out] at hi; omega))).symm, rfl⟩
def atMostE (n : Nat) (limit : Int) : Int := if limit < (n : Int) then 5 else 0
theorem atMost_int (A : Option Addr) (n c : Nat) (limit : Int) (w : World) :
  Calls Tryz.prog 213 #[.slice A n c, .int .i64 limit] w fun e w' => e = .returned (.int .i64 (atMostE n limit)) /\ w = w' := by
 by_cases h : limit < (n : Int)
 ·have hr : atMostE n limit = 5 := by simp [atMostE, h]
  rw [hr]; clear hr
  go_enter Tryz.func213, Tryz.ntmps213
  go_wp2
  go_ret
  exact ⟨rfl, rfl⟩
 ·have hr : atMostE n limit = 0 := by simp [atMostE, h]
  rw [hr]; clear hr
  go_enter Tryz.func213, Tryz.ntmps213
  go_wp2
  go_ret
  exact ⟨rfl, rfl⟩
def checkEnergyE (e : Int) : Int := withinE e 0 10000000000000
theorem checkEnergy_any (x : Int) (w : World) :
  Calls Tryz.prog 96 #[.int .i64 x] w fun e w' => e = .returned (.int .i64 (checkEnergyE x)) /\ w = w' := by
 go_enter Tryz.func96, Tryz.ntmps96
 go_wp2_with fail
 refine (within_any _ _ _ _).mono ?_; rintro e w' ⟨rfl, rfl⟩; go_wp2; go_ret; exact ⟨rfl, rfl⟩
/-! The reference's small checks. -/
theorem refWhen_any (b : Bool) (x : Int) (w : World) :
  Calls Tryz.prog 105 #[.bool b, .int .i64 x] w fun e w' => e = .returned (.int .i64 (if b then x else 0)) /\ w = w' := by
 cases b
 ·simp only [Bool.false_eq_true, if_false]
  go_enter Tryz.func105, Tryz.ntmps105
  go_wp2
  go_ret
  exact ⟨rfl, rfl⟩
 ·simp only [if_true]
  go_enter Tryz.func105, Tryz.ntmps105
  go_wp2
  go_ret
  exact ⟨rfl, rfl⟩
set_option maxHeartbeats 400000 in
theorem refCheckRange_any (n low high : Int) (w : World) :
  Calls Tryz.prog 103 #[.int .i64 n, .int .i64 low, .int .i64 high] w fun e w' => e = .returned (.int .i64 (withinE n low high)) /\ w = w' := by
 by_cases h1 : n < low
 ·have hr : withinE n low high = 3 := by simp [withinE, h1]
  rw [hr]; clear hr
  go_enter Tryz.func103, Tryz.ntmps103
  go_wp2
  go_ret
  exact ⟨rfl, rfl⟩
 ·by_cases h2 : high < n
  ·have hr : withinE n low high = 3 := by simp [withinE, h2]
   rw [hr]; clear hr
   go_enter Tryz.func103, Tryz.ntmps103
   go_wp2
   go_ret
   exact ⟨rfl, rfl⟩
  ·have hr : withinE n low high = 0 := by simp [withinE]; omega
   rw [hr]; clear hr
   go_enter Tryz.func103, Tryz.ntmps103
   go_wp2
   go_ret
   exact ⟨rfl, rfl⟩
set_option maxHeartbeats 400000 in
theorem refFirst_any (g n c : Nat) (zs : List Int) (w : World) (hl : zs.length = n) (hn : n <= 4096)
  (hc : ∀ i, i < n -> w.cell? ⟨g, i, none⟩ = some (.int .i64 (zs.getD i 0))) :
  Calls Tryz.prog 99 #[.slice (some ⟨g, 0, none⟩) n c] w fun e w' => e = .returned (.int .i64 (firstE zs)) /\ w = w' := by
 have HL := lh hl; have HC := lh hc; clear hl hc
 go_enter Tryz.func99, Tryz.ntmps99
 go_wp2
 go_loop [3] (fun i => ∃ k : Nat, k <= n /\ i = .int .i64 k /\ Hid (∀ i, i < k -> zs.getD i 0 = 0)) (fun i => n - (intOf i).toNat)
 case atStart => exact ⟨0, Nat.zero_le _, rfl, fun i hi => by omega⟩
 case round =>
  obtain ⟨k, hk, rfl, hz⟩ := hrel
  by_cases hlt : k < n
  ·obtain ⟨x, hx⟩ : ∃ x, x = zs.getD k 0 := ⟨_, rfl⟩; have h0 := HC.out k hlt; rw [<- hx] at h0; have HX := lh hx; clear hx
   by_cases he : x = 0
   ·have h1 : (x != 0) = false := by simp [he]
    have HE := lh he; clear he; go_wp2
    go_round
    case rel =>
     refine ⟨k + 1, by omega, by go_num, fun i hi => ?_⟩
     by_cases hik : i < k
     ·exact hz.out i hik
     ·obtain rfl : i = k := by omega
      rw [<- HX.out]; exact HE.out
    case measure => simp [intOf]; omega
   ·have h1 : (x != 0) = true := by simp [he]
    have HE := lh he; clear he; go_wp2; go_ret; exact ⟨ret_int (by rw [firstE_hit zs k (by rw [HL.out]; exact hlt) hz.out (by rw [<- HX.out]; exact HE.out)]; exact HX.out), rfl⟩
  ·go_wp2
   go_ret
   exact ⟨ret_int (firstE_miss zs (fun i hi => hz.out i (by rw [HL.out] at hi; omega))).symm, rfl⟩
theorem refFirst3 (g c : Nat) (x y z : Int) (w : World) (h0 : w.cell? ⟨g, 0, none⟩ = some (.int .i64 x)) (h1 : w.cell? ⟨g, 1, none⟩ = some (.int .i64 y)) (h2 : w.cell? ⟨g, 2, none⟩ = some (.int .i64 z)) :
  Calls Tryz.prog 99 #[.slice (some ⟨g, 0, none⟩) 3 c] w fun e w' => e = .returned (.int .i64 (firstE [x, y, z])) /\ w = w' :=
 refFirst_any g 3 c [x, y, z] w rfl (by omega) fun i hi => by
  match i, hi with
  | 0, _ => exact h0
  | 1, _ => exact h1
  | 2, _ => exact h2
theorem refFirst4 (g c : Nat) (x y z u : Int) (w : World) (h0 : w.cell? ⟨g, 0, none⟩ = some (.int .i64 x)) (h1 : w.cell? ⟨g, 1, none⟩ = some (.int .i64 y)) (h2 : w.cell? ⟨g, 2, none⟩ = some (.int .i64 z)) (h3 : w.cell? ⟨g, 3, none⟩ = some (.int .i64 u)) :
  Calls Tryz.prog 99 #[.slice (some ⟨g, 0, none⟩) 4 c] w fun e w' => e = .returned (.int .i64 (firstE [x, y, z, u])) /\ w = w' :=
 refFirst_any g 4 c [x, y, z, u] w rfl (by omega) fun i hi => by
  match i, hi with
  | 0, _ => exact h0
  | 1, _ => exact h1
  | 2, _ => exact h2
  | 3, _ => exact h3
def letterB (r : Int) : Bool := decide (65 <= r /\ r <= 90 ∨ 97 <= r /\ r <= 122)
theorem letterB_true {r : Int} (h : 65 <= r /\ r <= 90 ∨ 97 <= r /\ r <= 122) : letterB r = true := decide_eq_true h
theorem letterB_false {r : Int} (h : ¬ (65 <= r /\ r <= 90 ∨ 97 <= r /\ r <= 122)) : letterB r = false := decide_eq_false h
set_option maxHeartbeats 400000 in
theorem isLetter_any (r : Int) (w : World) :
  Calls Tryz.prog 212 #[.int .i32 r] w fun e w' => e = .returned (.bool (letterB r)) /\ w = w' := by
 rcases (show (65 <= r /\ r <= 90) ∨ (97 <= r /\ r <= 122) ∨ r < 65 ∨ (90 < r /\ r < 97) ∨ 122 < r from by omega) with ⟨ha, hb⟩ | ⟨ha, hb⟩ | ha | ⟨ha, hb⟩ | ha
 all_goals
  obtain ⟨b, hbb⟩ : ∃ b, b = letterB r := ⟨_, rfl⟩; rw [<- hbb]; have HB := lh hbb; clear hbb
  go_enter Tryz.func212, Tryz.ntmps212
  go_wp2
  go_ret
  refine ⟨ret_bool ?_, rfl⟩; rw [HB.out]
  first
   | (refine (letterB_true ?_).symm; omega)
   | (refine (letterB_false ?_).symm; omega)
   | (unfold letterB; rw [Bool.eq_iff_iff]; simp; omega)
def okAt (c : Nat) (i : Nat) : Bool := decide (65 <= c /\ c <= 90 ∨ 97 <= c /\ c <= 122) || (decide (i ≠ 0) && (decide (48 <= c /\ c <= 57) || decide (c = 95)))
theorem okAt_true {c i : Nat} (h : (65 <= c /\ c <= 90 ∨ 97 <= c /\ c <= 122) ∨ (i ≠ 0 /\ (48 <= c /\ c <= 57 ∨ c = 95))) : okAt c i = true := by
 unfold okAt; simp only [Bool.or_eq_true, Bool.and_eq_true, decide_eq_true_eq]; exact h
theorem okAt_inv {c i : Nat} (h : okAt c i = true) : (65 <= c /\ c <= 90 ∨ 97 <= c /\ c <= 122) ∨ (i ≠ 0 /\ (48 <= c /\ c <= 57 ∨ c = 95)) := by
 unfold okAt at h; simpa only [Bool.or_eq_true, Bool.and_eq_true, decide_eq_true_eq] using h
def NameOk (s : ByteArray) : Prop := 1 <= s.size /\ s.size <= 24 /\ ∀ i (h : i < s.size), okAt (s[i]'h).toNat i = true
noncomputable def nameB (s : ByteArray) : Bool := @decide (NameOk s) (Classical.propDecidable _)
theorem nameB_true {s : ByteArray} (h : NameOk s) : nameB s = true := by unfold nameB; simp [h]
theorem nameB_false {s : ByteArray} (h : ¬ NameOk s) : nameB s = false := by unfold nameB; simp [h]
theorem nameB_bad {s : ByteArray} (k : Nat) (hk : k < s.size) (h : ¬ ((65 <= (s[k]'hk).toNat /\ (s[k]'hk).toNat <= 90 ∨ 97 <= (s[k]'hk).toNat /\ (s[k]'hk).toNat <= 122) ∨ (k ≠ 0 /\ (48 <= (s[k]'hk).toNat /\ (s[k]'hk).toNat <= 57 ∨ (s[k]'hk).toNat = 95)))) : nameB s = false :=
 nameB_false fun hn => h (okAt_inv (hn.2.2 k hk))
theorem empty_toList {s : ByteArray} (h : s.size = 0) : s.toList = [] := by
 rw [ByteArray.toList_eq]; exact List.eq_nil_of_length_eq_zero h
theorem nonempty_toList {s : ByteArray} (h : s.size ≠ 0) : s.toList.isEmpty = false := by
 rw [ByteArray.toList_eq]
 cases hl : s.data.toList with
 | nil => exact absurd (by show s.data.toList.length = 0; rw [hl]; rfl) h
 | cons _ _ => rfl
set_option maxHeartbeats 4000000 in
theorem isName_any (s : ByteArray) (w : World) (hs : s.size <= 140737488351232) :
  Calls Tryz.prog 171 #[.string s] w fun e w' => e = .returned (.bool (nameB s)) /\ Below w.heap.size w w' := by
 by_cases h0 : s.size = 0
 ·have H := lh (nameB_false (s := s) (fun h => by have := h.1; omega)); have he : s.toList = [] := empty_toList h0; clear h0 hs
  go_enter Tryz.func171, Tryz.ntmps171
  go_wp2
  go_ret
  exact ⟨ret_bool H.out.symm, Below.refl _ _⟩
 ·have hne : s.toList.isEmpty = false := nonempty_toList h0
  by_cases h1 : 24 < s.size
  ·have H := lh (nameB_false (s := s) (fun h => by have := h.2.1; omega))
   go_enter Tryz.func171, Tryz.ntmps171
   go_wp2
   go_ret
   exact ⟨ret_bool H.out.symm, Below.refl _ _⟩
  ·go_enter Tryz.func171, Tryz.ntmps171
   go_wp2
   clear hne
   go_loopw [3] (fun _ wr => ∃ pos : Nat, pos <= s.size /\ wr = w.iter s pos /\ Hid (∀ i (h : i < s.size), i < pos -> okAt (s[i]'h).toNat i = true)) (fun _ wr => s.size - wr.iterPos w.heap.size)
   case atStart => exact ⟨0, Nat.zero_le _, rfl, fun i h hi => by omega⟩
   case round =>
    obtain ⟨pos, hpos, rfl, hz⟩ := hrel
    by_cases hp : pos < s.size
    ·obtain ⟨b, hb⟩ : ∃ b, b = (s[pos]'hp).toNat := ⟨_, rfl⟩; have hb256 : b < 256 := by rw [hb]; exact (s[pos]'hp).toNat_lt
     have HB := lh hb
     by_cases ha : b < 128
     ·have hnx : ∀ ty, (Instr.next (.pointer (some ⟨w.heap.size, 0, none⟩)) true ty).run Tryz.prog (w.iter s pos) = .ok (.tuple #[.bool true, .int .i64 pos, .int .i32 b]) (w.iter s (pos + 1)) := fun ty => by
       rw [hb]; exact run_next_ascii w s pos ty hp (by rw [<- hb]; exact ha)
      have good : Hid (((65 <= b /\ b <= 90 ∨ 97 <= b /\ b <= 122) ∨ (pos ≠ 0 /\ (48 <= b /\ b <= 57 ∨ b = 95))) -> ∀ i (h : i < s.size), i < pos + 1 -> okAt (s[i]'h).toNat i = true) := by
       intro hg i h hi
       by_cases hip : i < pos
       ·exact hz.out i h hip
       ·obtain rfl : i = pos := by omega
        rw [hb] at hg; exact okAt_true hg
      have bad : Hid ((¬ ((65 <= b /\ b <= 90 ∨ 97 <= b /\ b <= 122) ∨ (pos ≠ 0 /\ (48 <= b /\ b <= 57 ∨ b = 95)))) -> nameB s = false) := by
       intro hg; exact nameB_bad pos hp (by rw [<- hb]; exact hg)
      clear hb hz; have hL : letterB (b : Int) = true ∨ letterB (b : Int) = false := by cases letterB (b : Int) <;> simp
      rcases (show (0 <= b /\ b < 48) ∨ (48 <= b /\ b <= 57) ∨ (57 < b /\ b < 65) ∨ (65 <= b /\ b <= 90) ∨ (90 < b /\ b < 95) ∨ (95 <= b /\ b <= 95) ∨ (95 < b /\ b < 97) ∨ (97 <= b /\ b <= 122) ∨ (122 < b /\ b < 128) from by omega) with ⟨hr, hr2⟩ | ⟨hr, hr2⟩ | ⟨hr, hr2⟩ | ⟨hr, hr2⟩ | ⟨hr, hr2⟩ | ⟨hr, hr2⟩ | ⟨hr, hr2⟩ | ⟨hr, hr2⟩ | ⟨hr, hr2⟩
      all_goals
       clear hL
       first
        | have hL := letterB_true (r := (b : Int)) (show _ by omega)
        | have hL := letterB_false (r := (b : Int)) (show _ by omega)
       first
        | have e95 : ((b : Int) == 95) = true := beq_iff_eq.2 (show _ by omega)
        | have e95 : ((b : Int) == 95) = false := beq_eq_false_iff_ne.2 (show _ by omega)
       first
        | have e57 : decide ((b : Int) <= 57) = true := decide_eq_true (show _ by omega)
        | have e57 : decide ((b : Int) <= 57) = false := decide_eq_false (show _ by omega)
       rcases Nat.lt_or_ge pos 1 with hp0 | hp0
       all_goals
        first
         | have e0 : ((pos : Int) == 0) = true := beq_iff_eq.2 (show _ by omega)
         | have e0 : ((pos : Int) == 0) = false := beq_eq_false_iff_ne.2 (show _ by omega)
        go_wp2_with (go_at_call 212; refine (isLetter_any _ _).mono ?_; rintro e w' ⟨rfl, rfl⟩)
        first
         | (go_roundw
            case rel => exact ⟨pos + 1, by omega, rfl, good.out (by omega)⟩
            case measure => simp; omega)
         | (go_ret
            exact ⟨ret_bool (bad.out (by omega)).symm, (Below.refl _ _).alloc (Nat.le_refl _) _⟩)
     ·have hd := decode_high s pos hp (by rw [<- hb]; omega); have hnx : ∀ ty, (Instr.next (.pointer (some ⟨w.heap.size, 0, none⟩)) true ty).run Tryz.prog (w.iter s pos) = _ := fun ty => run_next_any w s pos ty hp
      have bad : Hid (nameB s = false) := nameB_bad pos hp (by rw [<- hb]; omega); clear hb hz; obtain ⟨r, hr⟩ : ∃ r, r = (Utf8.decode s pos).1 := ⟨_, rfl⟩; rw [<- hr] at hnx hd; have hd1 : 128 <= r := hd.1; clear hr hd; have hL := letterB_false (r := (r : Int)) (show _ by omega); have e95 : ((r : Int) == 95) = false := beq_eq_false_iff_ne.2 (show _ by omega); have e57 : decide ((r : Int) <= 57) = false := decide_eq_false (show _ by omega); rcases Nat.lt_or_ge pos 1 with hp0 | hp0
      all_goals
       first
        | have e0 : ((pos : Int) == 0) = true := beq_iff_eq.2 (show _ by omega)
        | have e0 : ((pos : Int) == 0) = false := beq_eq_false_iff_ne.2 (show _ by omega)
       go_wp2_with (go_at_call 212; refine (isLetter_any _ _).mono ?_; rintro e w' ⟨rfl, rfl⟩)
       go_ret
       exact ⟨ret_bool bad.out.symm, (Below.refl _ _).alloc (Nat.le_refl _) _⟩
    ·have hnx : ∀ ty, (Instr.next (.pointer (some ⟨w.heap.size, 0, none⟩)) true ty).run Tryz.prog (w.iter s pos) = _ := fun ty => run_next_end w s pos ty hp
     have H : Hid (nameB s = true) := nameB_true ⟨by omega, by omega, fun i h => hz.out i h (by omega)⟩; clear hz; go_wp2; go_ret; exact ⟨ret_bool H.out.symm, (Below.refl _ _).alloc (Nat.le_refl _) _⟩
set_option maxHeartbeats 4000000 in
theorem refIsName_any (s : ByteArray) (w : World) (hs : s.size <= 140737488351232) :
  Calls Tryz.prog 169 #[.string s] w fun e w' => e = .returned (.bool (nameB s)) /\ w = w' := by
 by_cases h0 : s.size = 0
 ·have H := lh (nameB_false (s := s) (fun h => by have := h.1; omega))
  go_enter Tryz.func169, Tryz.ntmps169
  go_wp2
  go_ret
  exact ⟨ret_bool H.out.symm, rfl⟩
 ·by_cases h1 : 24 < s.size
  ·have H := lh (nameB_false (s := s) (fun h => by have := h.2.1; omega))
   go_enter Tryz.func169, Tryz.ntmps169
   go_wp2
   go_ret
   exact ⟨ret_bool H.out.symm, rfl⟩
  ·have hz0 : ((s.size : Int) == 0) = false := beq_eq_false_iff_ne.2 (show _ by omega)
   go_enter Tryz.func169, Tryz.ntmps169
   go_wp2
   clear hz0
   go_loop [3] (fun i => ∃ pos : Nat, pos <= s.size /\ i = .int .i64 pos /\ Hid (∀ i (h : i < s.size), i < pos -> okAt (s[i]'h).toNat i = true)) (fun i => s.size - (intOf i).toNat)
   case atStart => exact ⟨0, Nat.zero_le _, rfl, fun i h hi => by omega⟩
   case round =>
    obtain ⟨pos, hpos, rfl, hz⟩ := hrel
    by_cases hp : pos < s.size
    ·have hb256 : (s[pos]'hp).toNat < 256 := (s[pos]'hp).toNat_lt
     have good : Hid (((65 <= (s[pos]'hp).toNat /\ (s[pos]'hp).toNat <= 90 ∨ 97 <= (s[pos]'hp).toNat /\ (s[pos]'hp).toNat <= 122) ∨ (pos ≠ 0 /\ (48 <= (s[pos]'hp).toNat /\ (s[pos]'hp).toNat <= 57 ∨ (s[pos]'hp).toNat = 95))) -> ∀ i (h : i < s.size), i < pos + 1 -> okAt (s[i]'h).toNat i = true) := by
      intro hg i h hi
      by_cases hip : i < pos
      ·exact hz.out i h hip
      ·obtain rfl : i = pos := by omega
       exact okAt_true hg
     have bad : Hid ((¬ ((65 <= (s[pos]'hp).toNat /\ (s[pos]'hp).toNat <= 90 ∨ 97 <= (s[pos]'hp).toNat /\ (s[pos]'hp).toNat <= 122) ∨ (pos ≠ 0 /\ (48 <= (s[pos]'hp).toNat /\ (s[pos]'hp).toNat <= 57 ∨ (s[pos]'hp).toNat = 95)))) -> nameB s = false) := fun hg => nameB_bad pos hp hg
     clear hz; rcases (show (0 <= (s[pos]'hp).toNat /\ (s[pos]'hp).toNat < 48) ∨ (48 <= (s[pos]'hp).toNat /\ (s[pos]'hp).toNat <= 57) ∨ (57 < (s[pos]'hp).toNat /\ (s[pos]'hp).toNat < 65) ∨ (65 <= (s[pos]'hp).toNat /\ (s[pos]'hp).toNat <= 90) ∨ (90 < (s[pos]'hp).toNat /\ (s[pos]'hp).toNat < 95) ∨ (95 <= (s[pos]'hp).toNat /\ (s[pos]'hp).toNat <= 95) ∨ (95 < (s[pos]'hp).toNat /\ (s[pos]'hp).toNat < 97) ∨ (97 <= (s[pos]'hp).toNat /\ (s[pos]'hp).toNat <= 122) ∨ (122 < (s[pos]'hp).toNat /\ (s[pos]'hp).toNat < 256) from by omega) with ⟨hr, hr2⟩ | ⟨hr, hr2⟩ | ⟨hr, hr2⟩ | ⟨hr, hr2⟩ | ⟨hr, hr2⟩ | ⟨hr, hr2⟩ | ⟨hr, hr2⟩ | ⟨hr, hr2⟩ | ⟨hr, hr2⟩
     all_goals
      first
       | have e95 : (((s[pos]'hp).toNat : Int) == 95) = true := beq_iff_eq.2 (show _ by omega)
       | have e95 : (((s[pos]'hp).toNat : Int) == 95) = false := beq_eq_false_iff_ne.2 (show _ by omega)
      first
       | have e57 : decide (((s[pos]'hp).toNat : Int) <= 57) = true := decide_eq_true (show _ by omega)
       | have e57 : decide (((s[pos]'hp).toNat : Int) <= 57) = false := decide_eq_false (show _ by omega)
      first
       | have e90 : decide (((s[pos]'hp).toNat : Int) <= 90) = true := decide_eq_true (show _ by omega)
       | have e90 : decide (((s[pos]'hp).toNat : Int) <= 90) = false := decide_eq_false (show _ by omega)
      first
       | have e122 : decide (((s[pos]'hp).toNat : Int) <= 122) = true := decide_eq_true (show _ by omega)
       | have e122 : decide (((s[pos]'hp).toNat : Int) <= 122) = false := decide_eq_false (show _ by omega)
      rcases Nat.lt_or_ge pos 1 with hp0 | hp0
      all_goals
       first
        | have e0 : ((pos : Int) == 0) = true := beq_iff_eq.2 (show _ by omega)
        | have e0 : ((pos : Int) == 0) = false := beq_eq_false_iff_ne.2 (show _ by omega)
       go_wp2
       all_goals first
        | (go_round
           case rel => exact ⟨pos + 1, by omega, by go_num, good.out (by omega)⟩
           case measure => simp [intOf]; omega)
        | (go_ret
           exact ⟨ret_bool (bad.out (by omega)).symm, rfl⟩)
    ·have H : Hid (nameB s = true) := nameB_true ⟨by omega, by omega, fun i h => hz.out i h (by omega)⟩; clear hz; go_wp2; go_ret; exact ⟨ret_bool H.out.symm, rfl⟩
theorem ext_getD {xs ys : List Int} (hl : xs.length = ys.length) (h : ∀ i, i < xs.length -> xs.getD i 0 = ys.getD i 0) : xs = ys := by
 apply List.ext_getElem hl
 intro i h1 h2; have := h i h1
 simpa [List.getD_eq_getElem?_getD, List.getElem?_eq_getElem h1, List.getElem?_eq_getElem h2] using this
def sameB (xs ys : List Int) : Bool := decide (xs = ys)
theorem sameB_true {xs ys : List Int} (h : xs = ys) : sameB xs ys = true := decide_eq_true h
theorem sameB_false {xs ys : List Int} (h : xs ≠ ys) : sameB xs ys = false := decide_eq_false h
set_option maxHeartbeats 1000000 in
theorem sameInts_any (A B : Option Addr) (n m c d : Nat) (xs ys : List Int) (w : World) (hn : n <= 140737488351232) (hm : m <= 140737488351232) (hA : IntsAt w A n xs) (hB : IntsAt w B m ys) :
  Calls Tryz.prog 33 #[.slice A n c, .slice B m d] w fun e w' => e = .returned (.bool (sameB xs ys)) /\ ∃ q, w' = w.drewN q := by
 obtain ⟨ha, hca⟩ := hA; obtain ⟨hb, hcb⟩ := hB; have HA := lh ha; have HB := lh hb; have HCA := lh hca; have HCB := lh hcb; clear ha hb hca hcb
 by_cases hnm : n = m
 ·subst hnm
  go_enter Tryz.func33, Tryz.ntmps33
  go_wp2
  go_loopw [5] (fun i wr => ∃ k : Nat, k <= n /\ i = .int .i64 k /\ Hid (∀ i, i < k -> xs.getD i 0 = ys.getD i 0) /\ ∃ q, wr = w.drewN q) (fun i _ => n - (intOf i).toNat)
  case atStart => exact ⟨0, Nat.zero_le _, rfl, fun i hi => by omega, 0, rfl⟩
  case round =>
   obtain ⟨k, hk, rfl, hz, q, rfl⟩ := hrel
   by_cases hlt : k < n
   ·obtain ⟨b, off, rfl, hcc⟩ := HCA.out (by omega); obtain ⟨b2, off2, rfl, hcc2⟩ := HCB.out (by omega); obtain ⟨x, hx⟩ : ∃ x, x = xs.getD k 0 := ⟨_, rfl⟩; obtain ⟨y, hy⟩ : ∃ y, y = ys.getD k 0 := ⟨_, rfl⟩; have h0 := hcc k hlt; have h0' := hcc2 k hlt; rw [<- hx] at h0; rw [<- hy] at h0'; have HX := lh hx; have HY := lh hy; clear hx hy hcc hcc2; have hlt' : (k : Int) < (n : Int) := by omega
    by_cases he : x = y
    ·have h1 : (x != y) = false := by simp [he]
     have HE := lh he; clear he; go_wp2
     go_quiet (fail)
     go_wp2
     go_roundw
     case rel =>
      refine ⟨k + 1, by omega, by go_num, fun i hi => ?_, _, rfl⟩
      by_cases hik : i < k
      ·exact hz.out i hik
      ·obtain rfl : i = k := by omega
       rw [<- HX.out, <- HY.out]; exact HE.out
     case measure => simp [intOf]; omega
    ·have h1 : (x != y) = true := by simp [he]
     have HE := lh he; clear he; go_wp2
     go_quiet (fail)
     go_wp2
     go_ret
     exact ⟨ret_bool (sameB_false (fun h => HE.out (by rw [HX.out, HY.out, h]))).symm, _, World.drewN_drewN _ _ _⟩
   ·go_wp2
    go_ret
    exact ⟨ret_bool (sameB_true (ext_getD (HA.out.trans HB.out.symm) (fun i hi => hz.out i (by rw [HA.out] at hi; omega)))).symm, q, rfl⟩
 ·have hne : ((n : Int) != (m : Int)) = true := by simp; omega
  go_enter Tryz.func33, Tryz.ntmps33
  go_wp2
  go_ret
  exact ⟨ret_bool (sameB_false (fun h => hnm (by rw [<- HA.out, <- HB.out, h]))).symm, 0, rfl⟩
theorem refCheckRange_st (n low high : Int) (w : World) :
  Calls Tryz.prog 103 #[.int .i64 n, .int .i64 low, .int .i64 high] w fun e w' => e = .returned (.int .i64 (withinE n low high)) /\ w' = w :=
 (refCheckRange_any n low high w).mono fun _ _ ⟨h, e⟩ => ⟨h, e.symm⟩
theorem below_drewN' {B : Nat} {a w : World} (h : Below B a w) (n : Nat) : Below B a (w.drewN n) := ⟨h.os, h.tape, h.output, h.size, h.block⟩
theorem infoInt : (Tryz.prog.info? 3).map (fun i => (i.zero, i.size, i.bytes)) = some (some (.int .i64 0), 1, 8) := by kernel_rfl
def OwnI (w : World) (base : Nat) (v : Value) (zs : List Int) : Prop := w.ownsRow base 3 1 v zs.length (zs.map (Value.int .i64))
theorem OwnI.nil (w : World) (base : Nat) : OwnI w base (.slice none 0 0) [] := World.ownsRow_nil _ _ _ _
theorem OwnI.alloc {w : World} {base : Nat} {v : Value} {zs : List Int} (h : OwnI w base v zs) (o : Obj) : OwnI (w.alloc o) base v zs := World.ownsRow.alloc h o
theorem OwnI.form {w : World} {base : Nat} {v : Value} {zs : List Int} (h : OwnI w base v zs) :
  (v = .slice none 0 0 /\ zs = []) ∨ ∃ g cap, v = .slice (some ⟨g, 0, none⟩) zs.length cap /\ base <= g /\ g < w.heap.size /\ zs.length <= cap /\
   (∀ i, i < zs.length -> w.cell? ⟨g, i, none⟩ = some (.int .i64 (zs.getD i 0))) /\ (∀ i, w.frozen? ⟨g, i, none⟩ = false) := by
 have h0 := h; rcases h.2 with ⟨hv, hn⟩ | ⟨g, cap, cur, hv, hb, hg, hnc, hm, hs, ht⟩
 ·exact .inl ⟨hv, List.eq_nil_of_length_eq_zero hn⟩
 ·subst hv; refine .inr ⟨g, cap, rfl, hb, lt_of_block hg, hnc, fun i hi => ?_, fun i => World.ownsRow.frozenAt h0 i⟩; rw [World.ownsRow.cellAt h0 i (by omega)]
  simp [List.getElem?_eq_getElem hi]
theorem OwnI.at_ {w : World} {base : Nat} {A : Option Addr} {n c : Nat} {zs : List Int} (h : OwnI w base (.slice A n c) zs) : IntsAt w A n zs := by
 rcases h.form with ⟨hv, rfl⟩ | ⟨g, cap, hv, _, _, _, hc, _⟩
 ·simp only [Value.slice.injEq] at hv; obtain ⟨rfl, rfl, rfl⟩ := hv; exact ⟨rfl, fun h => by omega⟩
 ·simp only [Value.slice.injEq] at hv; obtain ⟨rfl, rfl, rfl⟩ := hv; exact ⟨rfl, fun _ => ⟨g, 0, rfl, fun i hi => by rw [Nat.zero_add]; exact hc i hi⟩⟩
theorem OwnI.mono {w : World} {base base' : Nat} {v : Value} {zs : List Int} (h : OwnI w base v zs) (hb : base' <= base) : OwnI w base' v zs := by
 rcases h with ⟨h1, h2 | ⟨g, cap, cur, hv, hg, r⟩⟩
 ·exact ⟨h1, .inl h2⟩
 ·exact ⟨h1, .inr ⟨g, cap, cur, hv, Nat.le_trans hb hg, r⟩⟩
theorem OwnI.parts {w : World} {base g n c : Nat} {zs : List Int} (h : OwnI w base (.slice (some ⟨g, 0, none⟩) n c) zs) :
  n = zs.length /\ g < w.heap.size /\ (∀ i, i < n -> w.cell? ⟨g, i, none⟩ = some (.int .i64 (zs.getD i 0))) /\ ∀ i, w.frozen? ⟨g, i, none⟩ = false := by
 rcases h.form with ⟨hv, _⟩ | ⟨g', cap, hv, _, hg, _, hc, hf⟩
 ·simp at hv
 ·simp only [Value.slice.injEq, Option.some.injEq, Addr.mk.injEq, and_true] at hv; obtain ⟨rfl, rfl, rfl⟩ := hv; exact ⟨rfl, hg, hc, hf⟩
theorem OwnI.below {w w' : World} {base : Nat} {v : Value} {zs : List Int} (h : OwnI w base v zs) (hb : Below w.heap.size w w') : OwnI w' base v zs := by
 refine World.ownsRow.kept h (row := none) ⟨hb.os, hb.tape, hb.output, hb.size, fun k hk _ => hb.block k hk⟩ ?_; rcases h.form with ⟨rfl, _⟩ | ⟨g, cap, rfl, _⟩
 ·exact .inl rfl
 ·exact .inr (by simp [Value.ownBlock])
theorem OwnI.store {w : World} {base g n c : Nat} {zs : List Int} (h : OwnI w base (.slice (some ⟨g, 0, none⟩) n c) zs) (j : Nat) (u : Int) :
  OwnI (w.setCell ⟨g, j, none⟩ (.int .i64 u)) base (.slice (some ⟨g, 0, none⟩) n c) (zs.set j u) := by
 have hn : n = zs.length := by
  rcases h.form with ⟨hv, _⟩ | ⟨g', cap, hv, _⟩
  ·simp at hv
  ·simp only [Value.slice.injEq] at hv; exact hv.2.1
 subst hn; have := (World.ownsRow.stored h j (.int .i64 u)).1; unfold OwnI; rw [List.length_set, List.map_set]; exact this
theorem IntsAt.keep {w w' : World} {A : Option Addr} {n : Nat} {zs : List Int} (h : IntsAt w A n zs) (hb : Below w.heap.size w w') : IntsAt w' A n zs := by
 refine ⟨h.1, fun hn => ?_⟩; obtain ⟨b, off, rfl, hc⟩ := h.2 hn
 exact ⟨b, off, rfl, fun i hi => by
  have h1 := hc i hi; rw [hb.cell (p := ⟨b, off + i, none⟩) (World.block_lt_of_cell? _ _ h1)]; exact h1⟩
/-! The permutation. -/
theorem made_zero (n : Nat) : (madeCells (Value.int .i64 0).cells (n * 1)).toList = (List.replicate n (0 : Int)).map (Value.int .i64) := by
 simp [madeCells, Value.cells, Nat.mod_one]
 apply List.ext_getElem
 ·simp
 ·intro i h1 h2; simp
/-! The reference. -/
def Blk (w : World) (g : Nat) (t : TypeId) (cs : Array Value) : Prop := w.heap[g]? = some (.cells cs t (0, 0))
theorem Blk.new (w : World) (t : TypeId) (cs : Array Value) : Blk (w.alloc (.cells cs t)) w.heap.size t cs := heap_alloc_new w _
theorem Blk.alloc {w : World} {g : Nat} {t : TypeId} {cs : Array Value} (h : Blk w g t cs) (o : Obj) : Blk (w.alloc o) g t cs := (Below.heap_alloc w o g (lt_of_block h)).trans h
theorem Blk.drew {w : World} {g : Nat} {t : TypeId} {cs : Array Value} (h : Blk w g t cs) : Blk w.drew g t cs := h
theorem Blk.drewN {w : World} {g : Nat} {t : TypeId} {cs : Array Value} (h : Blk w g t cs) (n : Nat) : Blk (w.drewN n) g t cs := h
theorem Blk.below {w w' : World} {g : Nat} {t : TypeId} {cs : Array Value} (h : Blk w g t cs) (hb : Below w.heap.size w w') : Blk w' g t cs := (hb.block g (lt_of_block h)).trans h
theorem Blk.cell {w : World} {g : Nat} {t : TypeId} {cs : Array Value} (h : Blk w g t cs) (i : Nat) : w.cell? ⟨g, i, none⟩ = cs[i]? := cell_of_row w g i cs t (0, 0) h
theorem Blk.frozen {w : World} {g : Nat} {t : TypeId} {cs : Array Value} (h : Blk w g t cs) (i : Nat) : w.frozen? ⟨g, i, none⟩ = false := by
 unfold Blk at h
 simp [World.frozen?, h]
theorem Blk.set_ {w : World} {g : Nat} {t : TypeId} {cs : Array Value} (h : Blk w g t cs) (i : Nat) (u : Value) : Blk (w.setCell ⟨g, i, none⟩ u) g t (cs.setIfInBounds i u) := by
 unfold Blk at h ⊢
 simp [World.setCell, Array.getElem?_modify, h]
theorem Blk.far {w : World} {g : Nat} {t : TypeId} {cs : Array Value} (h : Blk w g t cs) {p : Addr} (hp : g ≠ p.block) (u : Value) : Blk (w.setCell p u) g t cs := (Below.heap_setCell w p u g hp).trans h
end Go.Proofs.YtmafmebcgmegeaaGreatDoor
