/- What is heard on a day: structs of a tick and an energy. What is penalized, by the program. What is penalized: the map, and the whole. What is penalized, by the reference; copies of what is heard. -/
import Derived.Test.YtoipafnlcchmbaaGreatDoorQC
import Derived.Laws.EntriesVeiled
namespace Go.Proofs.YtoipafnlcchmbaaGreatDoor
open Go.RowKit

def HeardAt (w : World) (A : Option Addr) (n : Nat) (hs : List (Int × Int)) : Prop :=
  hs.length = n ∧ (0 < n → ∃ b off, A = some ⟨b, off, none⟩ ∧ ∀ i, i < n → w.cell? ⟨b, off + i * 2, none⟩ = some (.int .i64 (hs.getD i (0, 0)).1) ∧ w.cell? ⟨b, off + i * 2 + 1, none⟩ = some (.int .i64 (hs.getD i (0, 0)).2))
theorem HeardAt.keep {w w' : World} {A : Option Addr} {n : Nat} {zs : List (Int × Int)} (h : HeardAt w A n zs) (hb : Below w.heap.size w w') : HeardAt w' A n zs := by
  refine ⟨h.1, fun hn => ?_⟩
  obtain ⟨b, off, rfl, hc⟩ := h.2 hn
  refine ⟨b, off, rfl, fun i hi => ?_⟩
  have h1 := hc i hi
  rw [hb.cell (p := ⟨b, off + i * 2, none⟩) (World.block_lt_of_cell? _ _ h1.1), hb.cell (p := ⟨b, off + i * 2 + 1, none⟩) (World.block_lt_of_cell? _ _ h1.2)]
  exact h1

def heardE (h : Int × Int) : Int := firstE [withinE h.1 0 86399, checkEnergyE h.2]

theorem checkEnergy_st (x : Int) (w : World) :
    Calls Tryz.prog 41 #[.int .i64 x] w fun e w' => e = .returned (.int .i64 (checkEnergyE x)) ∧ w' = w :=
  (checkEnergy_any x w).mono fun _ _ ⟨h, e⟩ => ⟨h, e.symm⟩

set_option maxHeartbeats 400000 in
set_option maxRecDepth 100000 in
theorem heardCheck_any (t e : Int) (w : World) :
    Calls Tryz.prog 125 #[.agg #[.int .i64 t, .int .i64 e]] w fun x w' => x = .returned (.int .i64 (heardE (t, e))) ∧ Below w.heap.size w w' := by
  go_enter Tryz.func125, Tryz.ntmps125
  go_wp2_with fail
  refine wp_region_still_tail 6 (by kernel_rfl) (by kernel_rfl) ?_
  simp only [List.take_succ_cons, List.take_zero, List.drop_succ_cons, List.drop_zero]
  change wpStill _ _ (World.drew _) _ _ _
  repeat still_step
  still_call (within_st _ _ _ _)
  repeat still_step
  still_call (checkEnergy_st _ _)
  repeat still_step
  refine wpStill_nil ?_
  change wpList _ _ _ _ _ (World.drew _)
  go_wp2_with fail
  refine (first2 _ _ (withinE t 0 86399) (checkEnergyE e) _ (by go_simp) (by go_simp)).mono ?_
  rintro x w' ⟨rfl, rfl⟩
  go_wp2
  go_ret
  exact ⟨rfl, ((((Below.refl _ _).alloc (Nat.le_refl _) _).alloc (by simp) _).drew)⟩

def firstInH (hs : List (Int × Int)) : Int := firstE (hs.map heardE)
theorem getD_mapH (f : Int × Int → Int) (zs : List (Int × Int)) (i : Nat) (h : i < zs.length) : (zs.map f).getD i 0 = f (zs.getD i (0, 0)) := by
  simp [List.getD_eq_getElem?_getD, List.getElem?_eq_getElem h]
theorem firstInH_hit (zs : List (Int × Int)) (k : Nat) (hk : k < zs.length) (hz : ∀ i, i < k → heardE (zs.getD i (0, 0)) = 0) (h : heardE (zs.getD k (0, 0)) ≠ 0) : firstInH zs = heardE (zs.getD k (0, 0)) := by
  unfold firstInH
  rw [firstE_hit (zs.map heardE) k (by simpa using hk) (fun i hi => by rw [getD_mapH heardE zs i (by omega)]; exact hz i hi) (by rw [getD_mapH heardE zs k hk]; exact h), getD_mapH heardE zs k hk]
theorem firstInH_miss (zs : List (Int × Int)) (hz : ∀ i, i < zs.length → heardE (zs.getD i (0, 0)) = 0) : firstInH zs = 0 := by
  unfold firstInH
  refine firstE_miss _ (fun i hi => ?_)
  rw [List.length_map] at hi
  rw [getD_mapH heardE zs i hi]; exact hz i hi

set_option maxHeartbeats 1000000 in
set_option maxRecDepth 100000 in
theorem firstIn_heard (A : Option Addr) (n c : Nat) (hs : List (Int × Int)) (w : World) (hn : n ≤ 140737488351232) (hz : HeardAt w A n hs) :
    Calls Tryz.prog 124 #[.slice A n c, .func (.func 125) #[] #[]] w fun e w' => e = .returned (.int .i64 (firstInH hs)) ∧ Below w.heap.size w w' := by
  have HZ := Lib.hid hz
  clear hz
  go_enter Tryz.func124, Tryz.ntmps124
  go_wp2
  go_loopw [7, 10] (fun _ i wr => ∃ k : Nat, k ≤ n ∧ i = .int .i64 k ∧ Hid (∀ i, i < k → heardE (hs.getD i (0, 0)) = 0) ∧ Below w.heap.size w wr) (fun _ i _ => n - (intOf i).toNat)
  case atStart => exact ⟨0, Nat.zero_le _, rfl, fun i hi => by omega, Below.refl _ _⟩
  case round =>
    obtain ⟨k, hk, rfl, hz, hb⟩ := hrel
    have HB := Lib.hid hb
    by_cases hlt : k < n
    · obtain ⟨b, off, rfl, hcc⟩ := (HZ.out.keep hb).2 (by omega)
      clear hb
      obtain ⟨t, ht⟩ : ∃ t, t = (hs.getD k (0, 0)).1 := ⟨_, rfl⟩
      obtain ⟨e, he⟩ : ∃ e, e = (hs.getD k (0, 0)).2 := ⟨_, rfl⟩
      have c1 := (hcc k hlt).1
      have c2 := (hcc k hlt).2
      rw [← ht] at c1
      rw [← he] at c2
      have HP : Hid ((t, e) = hs.getD k (0, 0)) := by show _ = _; rw [ht, he]
      clear hcc ht he
      go_wp2_with fail
      refine (heardCheck_any t e _).mono ?_
      rintro x w1 ⟨rfl, hb1⟩
      have HB1 : Hid (Below w.heap.size w w1) := (HB.out.alloc HB.out.size _).trans (hb1.mono (by have := HB.out.size; simp; omega))
      clear hb1
      obtain ⟨y, hy⟩ : ∃ y, y = heardE (t, e) := ⟨_, rfl⟩
      rw [← hy]
      have HY := Lib.hid hy
      clear hy
      by_cases he : y = 0
      · have h1 : (y != 0) = false := by simp [he]
        have HE := Lib.hid he
        clear he
        go_wp2
        go_roundw
        case rel =>
          refine ⟨k + 1, by omega, by go_num, fun i hi => ?_, HB1.out⟩
          by_cases hik : i < k
          · exact hz.out i hik
          · obtain rfl : i = k := by omega
            rw [← HP.out, ← HY.out]; exact HE.out
        case measure => simp [intOf]; omega
      · have h1 : (y != 0) = true := by simp [he]
        have HE := Lib.hid he
        clear he
        go_wp2
        go_ret
        exact ⟨ret_int (by rw [firstInH_hit hs k (by rw [HZ.out.1]; exact hlt) hz.out (by rw [← HP.out, ← HY.out]; exact HE.out), ← HP.out]; exact HY.out), HB1.out⟩
    · clear hb
      go_wp2
      go_ret
      exact ⟨ret_int (firstInH_miss hs (fun i hi => hz.out i (by rw [HZ.out.1] at hi; omega))).symm, HB.out⟩

theorem atMost_heard (A : Option Addr) (n c : Nat) (limit : Int) (w : World) :
    Calls Tryz.prog 123 #[.slice A n c, .int .i64 limit] w fun e w' => e = .returned (.int .i64 (atMostE n limit)) ∧ w = w' := by
  by_cases h : limit < (n : Int)
  · have hr : atMostE n limit = 5 := by simp [atMostE, h]
    rw [hr]; clear hr
    go_enter Tryz.func123, Tryz.ntmps123
    go_wp2
    go_ret
    exact ⟨rfl, rfl⟩
  · have hr : atMostE n limit = 0 := by simp [atMostE, h]
    rw [hr]; clear hr
    go_enter Tryz.func123, Tryz.ntmps123
    go_wp2
    go_ret
    exact ⟨rfl, rfl⟩

/-- The table of penalties as it lies in memory. -/
def fnV (F : FuncId) : Value := .func (.func F) #[] #[]
def penCells : Array Value := #[.int .i64 82800, .func (.func 174) #[] #[], .int .i64 68400, .func (.func 173) #[] #[], .int .i64 25200, .func (.func 172) #[] #[], .int .i64 0, .func (.func 174) #[] #[]]

set_option maxHeartbeats 400000 in
theorem penalties_any (w : World) :
    Calls Tryz.prog 126 #[] w fun e w' => e = .returned (.slice (some ⟨w.heap.size, 0, none⟩) 4 4) ∧ w' = w.alloc (.cells penCells 212) := by
  go_enter Tryz.func126, Tryz.ntmps126
  go_wp2
  go_ret
  exact ⟨rfl, rfl⟩

theorem once_any (x : Int) (w : World) : Calls Tryz.prog 172 #[.int .i64 x] w fun e w' => e = .returned (.int .i64 x) ∧ w' = w := by
  go_enter Tryz.func172, Tryz.ntmps172
  go_wp2
  go_ret
  exact ⟨rfl, rfl⟩
theorem thrice_any (x : Int) (w : World) (h1 : 0 ≤ x) (h2 : x ≤ 10000000000000) : Calls Tryz.prog 173 #[.int .i64 x] w fun e w' => e = .returned (.int .i64 (3 * x)) ∧ w' = w := by
  go_enter Tryz.func173, Tryz.ntmps173
  go_wp2
  go_ret
  exact ⟨rfl, rfl⟩
theorem tenfold_any (x : Int) (w : World) (h1 : 0 ≤ x) (h2 : x ≤ 10000000000000) : Calls Tryz.prog 174 #[.int .i64 x] w fun e w' => e = .returned (.int .i64 (10 * x)) ∧ w' = w := by
  go_enter Tryz.func174, Tryz.ntmps174
  go_wp2
  go_ret
  exact ⟨rfl, rfl⟩

def leB (a b : Int) : Bool := decide (a ≤ b)

set_option maxHeartbeats 400000 in
theorem pen11_any (from_ tick : Int) (f : Value) (hb : Nat) (w : World) (h : w.cell? ⟨hb, 0, none⟩ = some (.int .i64 tick)) (hf : ∃ F, f = fnV F) :
    Calls Tryz.prog 130 #[.agg #[.int .i64 from_, f], .pointer (some ⟨hb, 0, none⟩)] w fun e w' => e = .returned (.bool (leB from_ tick)) ∧ Below w.heap.size w w' := by
  obtain ⟨F, rfl⟩ := hf
  unfold fnV
  obtain ⟨b, hbb⟩ : ∃ b, b = leB from_ tick := ⟨_, rfl⟩
  have HBB := Lib.hid hbb
  have hlt := World.block_lt_of_cell? _ _ h
  clear hbb
  go_enter Tryz.func130, Tryz.ntmps130
  go_wp2
  go_ret
  exact ⟨rfl, (Below.refl _ _).alloc (Nat.le_refl _) _⟩

end Go.Proofs.YtoipafnlcchmbaaGreatDoor
namespace Go.Proofs.YtoipafnlcchmbaaGreatDoor
open Go.RowKit

def fromAt : Nat → Int
  | 0 => 82800 | 1 => 68400 | 2 => 25200 | _ => 0
def idxOf (tick : Int) : Nat := if 82800 ≤ tick then 0 else if 68400 ≤ tick then 1 else if 25200 ≤ tick then 2 else 3
def penF (tick : Int) : Int := if 82800 ≤ tick then 10 else if 68400 ≤ tick then 3 else if 25200 ≤ tick then 1 else 10
theorem leB_true {a b : Int} (h : a ≤ b) : leB a b = true := decide_eq_true h
theorem leB_false {a b : Int} (h : ¬ a ≤ b) : leB a b = false := decide_eq_false h
theorem enters_pen11 (args : Array Value) (W : World) : (callFunc 130 args).run Tryz.prog W = .ok (.enter 130 args) W := by kernel_rfl

/-- The table lies in block g. -/
def PenAt (w : World) (g : Nat) : Prop := Blk w g 212 penCells

def penFn : Nat → FuncId
  | 0 => 174 | 1 => 173 | 2 => 172 | _ => 174
theorem PenAt.cells {w : World} {g : Nat} (h : PenAt w g) (k : Nat) (hk : k < 4) : w.cell? ⟨g, k * 2, none⟩ = some (.int .i64 (fromAt k)) ∧ w.cell? ⟨g, k * 2 + 1, none⟩ = some (fnV (penFn k)) := by
  rw [Blk.cell h (k * 2), Blk.cell h (k * 2 + 1)]
  match k, hk with
  | 0, _ => exact ⟨rfl, rfl⟩
  | 1, _ => exact ⟨rfl, rfl⟩
  | 2, _ => exact ⟨rfl, rfl⟩
  | 3, _ => exact ⟨rfl, rfl⟩

set_option maxHeartbeats 1000000 in
set_option maxRecDepth 100000 in
theorem indexFunc_any (g hb : Nat) (tick : Int) (w : World) (h0 : 0 ≤ tick) (hp : PenAt w g) (hc : w.cell? ⟨hb, 0, none⟩ = some (.int .i64 tick)) :
    Calls Tryz.prog 129 #[.slice (some ⟨g, 0, none⟩) 4 4, .func (.func 130) #[] #[.pointer (some ⟨hb, 0, none⟩)]] w fun e w' => e = .returned (.int .i64 (idxOf tick)) ∧ Below w.heap.size w w' := by
  have HP := Lib.hid hp
  have HC := Lib.hid hc
  clear hp hc
  go_enter Tryz.func129, Tryz.ntmps129
  go_wp2
  go_loopw [5, 8] (fun _ i wr => ∃ k : Nat, k ≤ 3 ∧ i = .int .i64 k ∧ Hid (∀ j, j < k → tick < fromAt j) ∧ Below w.heap.size w wr) (fun _ i _ => 4 - (intOf i).toNat)
  case atStart => exact ⟨0, Nat.zero_le _, rfl, fun i hi => by omega, Below.refl _ _⟩
  case round =>
    obtain ⟨k, hk, rfl, hz, hbw⟩ := hrel
    have HB := Lib.hid hbw
    have hP : PenAt wr g := by
      have := HP.out
      exact (hbw.block g (lt_of_block this)).trans this
    have hC : wr.cell? ⟨hb, 0, none⟩ = some (.int .i64 tick) := (hbw.cell (p := ⟨hb, 0, none⟩) (World.block_lt_of_cell? _ _ HC.out)).trans HC.out
    have c1 := (hP.cells k (by omega)).1
    have c2 := (hP.cells k (by omega)).2
    unfold fnV at c2
    have HCC := Lib.hid hC
    clear hP hC hbw
    obtain ⟨f, hf⟩ : ∃ f, f = fromAt k := ⟨_, rfl⟩
    obtain ⟨F, hF⟩ : ∃ F, F = penFn k := ⟨_, rfl⟩
    rw [← hf] at c1
    rw [← hF] at c2
    have HF := Lib.hid hf
    clear hf hF
    have hk4 : (k : Int) < 4 := by omega
    go_wp2_with fail
    refine (pen11_any f tick _ hb _ HCC.out ⟨F, rfl⟩).mono ?_
    rintro e w1 ⟨rfl, hb1⟩
    have HB1 : Hid (Below w.heap.size w w1) := HB.out.trans (hb1.mono HB.out.size)
    clear hb1
    by_cases hle : f ≤ tick
    · have hB := leB_true hle
      have HL := Lib.hid hle
      clear hle
      go_wp2
      go_ret
      refine ⟨ret_int ?_, HB1.out⟩
      have h1 := HL.out
      rw [HF.out] at h1
      have h2 := hz.out
      unfold idxOf
      match k, hk, h1, h2 with
      | 0, _, h1, _ => simp only [fromAt] at h1; rw [if_pos h1]
      | 1, _, h1, h2 => have := h2 0 (by omega); simp only [fromAt] at h1 this; rw [if_neg (Int.not_le.2 this), if_pos h1]
      | 2, _, h1, h2 => have := h2 0 (by omega); have t2 := h2 1 (by omega); simp only [fromAt] at h1 this t2; rw [if_neg (Int.not_le.2 this), if_neg (Int.not_le.2 t2), if_pos h1]
      | 3, _, h1, h2 => have := h2 0 (by omega); have t2 := h2 1 (by omega); have t3 := h2 2 (by omega); simp only [fromAt] at this t2 t3; rw [if_neg (Int.not_le.2 this), if_neg (Int.not_le.2 t2), if_neg (Int.not_le.2 t3)]
    · have hB := leB_false hle
      have hk3 : k < 3 := by
        rcases Nat.lt_or_ge k 3 with h | h
        · exact h
        · obtain rfl : k = 3 := by omega
          rw [HF.out] at hle
          exact absurd h0 hle
      have HL : Hid (¬ f ≤ tick) := hle
      clear hle
      go_wp2
      go_roundw
      case rel =>
        refine ⟨k + 1, by omega, by go_num, fun j hj => ?_, HB1.out⟩
        by_cases hjk : j < k
        · exact hz.out j hjk
        · obtain rfl : j = k := by omega
          rw [← HF.out]; exact HL.out
      case measure => simp [intOf]; omega

theorem idxOf_le (tick : Int) : idxOf tick ≤ 3 := by
  unfold idxOf
  split
  · omega
  · split
    · omega
    · split <;> omega

theorem penFn_any (tick x : Int) (w : World) (h1 : 0 ≤ x) (h2 : x ≤ 10000000000000) :
    Calls Tryz.prog (penFn (idxOf tick)) #[.int .i64 x] w fun e w' => e = .returned (.int .i64 (penF tick * x)) ∧ w' = w := by
  unfold idxOf penF
  split
  · exact tenfold_any x w h1 h2
  · split
    · exact thrice_any x w h1 h2
    · split
      · refine (once_any x w).mono fun e w' ⟨he, hw⟩ => ⟨by rw [he, Int.one_mul], hw⟩
      · exact tenfold_any x w h1 h2

theorem penF_bd (tick x : Int) (h1 : 0 ≤ x) (h2 : x ≤ 10000000000000) : 0 ≤ penF tick * x ∧ penF tick * x ≤ 100000000000000 := by
  unfold penF
  split
  · omega
  · split
    · omega
    · split <;> omega

theorem enters_once (args : Array Value) (W : World) : (callFunc 172 args).run Tryz.prog W = .ok (.enter 172 args) W := by kernel_rfl
theorem enters_thrice (args : Array Value) (W : World) : (callFunc 173 args).run Tryz.prog W = .ok (.enter 173 args) W := by kernel_rfl
theorem enters_tenfold (args : Array Value) (W : World) : (callFunc 174 args).run Tryz.prog W = .ok (.enter 174 args) W := by kernel_rfl
theorem enters_penFn (k : Nat) (args : Array Value) (W : World) : (callFunc (penFn k) args).run Tryz.prog W = .ok (.enter (penFn k) args) W := by
  unfold penFn
  split
  · exact enters_tenfold args W
  · exact enters_thrice args W
  · exact enters_once args W
  · exact enters_tenfold args W

set_option maxHeartbeats 1000000 in
set_option maxRecDepth 100000 in
theorem pen1_any (g pb : Nat) (tick x : Int) (w : World) (h0 : 0 ≤ tick) (h1 : 0 ≤ x) (h2 : x ≤ 10000000000000) (hp : PenAt w g) (hc : w.cell? ⟨pb, 0, none⟩ = some (.slice (some ⟨g, 0, none⟩) 4 4)) :
    Calls Tryz.prog 128 #[.agg #[.int .i64 tick, .int .i64 x], .pointer (some ⟨pb, 0, none⟩)] w fun e w' => e = .returned (.int .i64 (penF tick * x)) ∧ Below w.heap.size w w' := by
  have HP := Lib.hid hp
  have hlt := World.block_lt_of_cell? _ _ hc
  simp only at hlt
  have HC := Lib.hid hc
  have hcW := hc
  clear hp hc
  go_enter Tryz.func128, Tryz.ntmps128
  go_wp2_with fail
  refine (indexFunc_any g w.heap.size tick _ h0 (Blk.alloc HP.out _) (by go_simp)).mono ?_
  rintro e w1 ⟨rfl, hb1⟩
  have hp1 : PenAt w1 g := (Blk.alloc HP.out _).below hb1
  have c1 := (hp1.cells (idxOf tick) (by have := idxOf_le tick; omega)).1
  have c2 := (hp1.cells (idxOf tick) (by have := idxOf_le tick; omega)).2
  unfold fnV at c2
  have c3 : w1.cell? ⟨pb, 0, none⟩ = some (.slice (some ⟨g, 0, none⟩) 4 4) := by
    rw [hb1.cell (p := ⟨pb, 0, none⟩) (by simp; omega)]; go_simp
  have c4 : w1.cell? ⟨w.heap.size, 1, none⟩ = some (.int .i64 x) := by
    rw [hb1.cell (p := ⟨w.heap.size, 1, none⟩) (by simp)]; go_simp
  have HB1 : Hid (Below w.heap.size w w1) := ((Below.refl _ w).alloc (Nat.le_refl _) _).trans (hb1.mono (by simp))
  have hi := idxOf_le tick
  have hpf := Lib.hid (fun W => penFn_any tick x W h1 h2)
  have hen := enters_penFn (idxOf tick)
  obtain ⟨i, hi2⟩ : ∃ i, i = idxOf tick := ⟨_, rfl⟩
  rw [← hi2] at c1 c2 hi hpf hen ⊢
  clear hi2 hb1 hp1 hcW
  obtain ⟨F, hF⟩ : ∃ F, F = penFn i := ⟨_, rfl⟩
  rw [← hF] at c2 hpf hen
  clear hF
  have hi4 : (i : Int) < 4 := by omega
  go_wp2_with fail
  go_quiet (exact Calls.quiet_of_same (hpf.out _))
  go_wp2
  go_ret
  exact ⟨rfl, below_drewN' HB1.out _⟩

end Go.Proofs.YtoipafnlcchmbaaGreatDoor
namespace Go.Proofs.YtoipafnlcchmbaaGreatDoor
open Go.RowKit

theorem enters_pen1 (args : Array Value) (W : World) : (callFunc 128 args).run Tryz.prog W = .ok (.enter 128 args) W := by kernel_rfl
def penL (hs : List (Int × Int)) : List Int := hs.map fun h => penF h.1 * h.2
theorem penL_length (hs : List (Int × Int)) : (penL hs).length = hs.length := by simp [penL]
theorem penL_take (hs : List (Int × Int)) (k : Nat) (h : k < hs.length) : penL (hs.take (k + 1)) = penL (hs.take k) ++ [penF (hs.getD k (0, 0)).1 * (hs.getD k (0, 0)).2] := by
  unfold penL
  rw [List.take_succ_eq_append_getElem h, List.map_append]
  simp [List.getD_eq_getElem?_getD, List.getElem?_eq_getElem h]

def ValidH (hs : List (Int × Int)) : Prop := hs.length ≤ 1024 ∧ ∀ i, i < hs.length → 0 ≤ (hs.getD i (0, 0)).1 ∧ (hs.getD i (0, 0)).1 ≤ 86399 ∧ 0 ≤ (hs.getD i (0, 0)).2 ∧ (hs.getD i (0, 0)).2 ≤ 10000000000000

set_option maxHeartbeats 2000000 in
set_option maxRecDepth 100000 in
theorem mapped_heard (A : Option Addr) (n c g pb : Nat) (hs : List (Int × Int)) (w : World) (hz : HeardAt w A n hs) (hv : ValidH hs) (hp : PenAt w g) (hc : w.cell? ⟨pb, 0, none⟩ = some (.slice (some ⟨g, 0, none⟩) 4 4)) :
    Calls Tryz.prog 127 #[.slice A n c, .func (.func 128) #[] #[.pointer (some ⟨pb, 0, none⟩)]] w fun e w' => ∃ v, e = .returned v ∧ OwnI w' w.heap.size v (penL hs) ∧ Below w.heap.size w w' := by
  obtain ⟨i0, hi, hz0, hz1, hz2⟩ := info_parts infoInt
  have HZ := Lib.hid hz
  have HV := Lib.hid hv
  have HP := Lib.hid hp
  have HC := Lib.hid hc
  have hn : n ≤ 1024 := by have := hv.1; rw [hz.1] at this; exact this
  clear hz hv hp hc
  go_enter Tryz.func127, Tryz.ntmps127
  go_wp2_with (at_make; refine wpList_make_own _ rfl _ _ 26 rfl w.heap.size 3 i0 (.int .i64 0) 1 Tryz.underlying26 hi hz0 hz1 _ _ _ n rfl rfl rfl (by rw [hz2]; omega) (by unfold maxLen; omega) (by simp) ?_; intro w1 hown hg1)
  have hO : OwnI w1 w.heap.size (.slice (some ⟨w.heap.size, 0, none⟩) 0 n) (penL (hs.take 0)) := hown
  have hB1 : Below w.heap.size w w1 := Below.grown (Below.refl _ _) hg1 (Nat.le_refl _) (fun k hk => by cases hk)
  clear hown hg1
  go_loopw [5, 7, 13] (fun v _ i wr => ∃ k : Nat, k ≤ n ∧ i = .int .i64 k ∧ OwnI wr w.heap.size v (penL (hs.take k)) ∧ Below w.heap.size w wr) (fun _ _ i _ => n - (intOf i).toNat)
  case atStart => exact ⟨0, Nat.zero_le _, rfl, hO, hB1⟩
  case round =>
    clear hO hB1
    obtain ⟨k, hk, rfl, hown, hb⟩ := hrel
    have HB := Lib.hid hb
    have HO := Lib.hid hown
    by_cases hlt : k < n
    · obtain ⟨b, off, rfl, hcc⟩ := (HZ.out.keep hb).2 (by omega)
      have hvk := HV.out.2 k (by rw [HZ.out.1]; exact hlt)
      have HT := Lib.hid (penL_take hs k (by rw [HZ.out.1]; exact hlt))
      have hP : PenAt wr g := (hb.block g (lt_of_block HP.out)).trans HP.out
      have hC : wr.cell? ⟨pb, 0, none⟩ = some (.slice (some ⟨g, 0, none⟩) 4 4) := (hb.cell (p := ⟨pb, 0, none⟩) (World.block_lt_of_cell? _ _ HC.out)).trans HC.out
      have hpb := World.block_lt_of_cell? _ _ hC
      simp only at hpb
      obtain ⟨t, ht⟩ : ∃ t, t = (hs.getD k (0, 0)).1 := ⟨_, rfl⟩
      obtain ⟨e, he⟩ : ∃ e, e = (hs.getD k (0, 0)).2 := ⟨_, rfl⟩
      have c1 := (hcc k hlt).1
      have c2 := (hcc k hlt).2
      rw [← ht] at c1 hvk HT
      rw [← he] at c2 hvk HT
      have HPP := Lib.hid hP
      have HCC := Lib.hid hC
      clear hcc ht he hb hown hP hC
      obtain ⟨v1, v2, v3, v4⟩ := hvk
      go_wp2_with fail
      refine (pen1_any g pb t e _ v1 v3 v4 (Blk.alloc HPP.out _) (by rw [World.cell?_alloc_lt _ _ _ (by simp; omega)]; exact HCC.out)).mono ?_
      rintro x w2 ⟨rfl, hb2⟩
      have hO2 := (HO.out.alloc (.cells #[.int .i64 t, .int .i64 e] 158)).below hb2
      have sz2 := hb2.size
      simp only [World.size_alloc] at sz2
      have sz3 := HB.out.size
      have HB2 : Hid (Below w.heap.size w w2) := (HB.out.alloc HB.out.size _).trans (hb2.mono (by have := HB.out.size; simp; omega))
      have hO3 : w2.ownsRow w.heap.size 3 1 u5 k ((penL (hs.take k)).map (Value.int .i64)) := by
        have := hO2
        unfold OwnI at this
        rwa [penL_length, List.length_take, HZ.out.1, Nat.min_eq_left hk] at this
      clear hb2 hO2
      obtain ⟨p, hp⟩ : ∃ p, p = penF t * e := ⟨_, rfl⟩
      rw [← hp] at HT ⊢
      clear hp
      go_wp2_with (at_builtin; refine wpList_append_own _ rfl _ _ 26 rfl w.heap.size 3 i0 (.int .i64 0) 1 8 Tryz.underlying26 hi hz0 hz1 hz2 rfl (by decide) _ _ _ rfl (World.ownsRow.alloc hO3 _) ⟨w2.heap.size, 0, none⟩ 1 1 [.int .i64 p] rfl rfl (cell_one_new _ _ _) (by simp [Value.oneCell']) (by unfold maxLen; omega) (by omega) (by simp; omega) ?_; intro v' w3 hown' hgrow _)
      have R : OwnI w3 w.heap.size v' (penL (hs.take (k + 1))) := by
        unfold OwnI
        rw [HT.out, List.length_append, penL_length, List.length_take, HZ.out.1, Nat.min_eq_left hk, List.map_append]
        exact hown'
      have B3 : Below w.heap.size w w3 := Below.grown (HB2.out.alloc HB2.out.size _) hgrow (by simp; omega) (fun j hj => (hO3.lt j hj).1)
      clear hown' hgrow hO3
      go_wp2
      go_roundw
      case rel => exact ⟨k + 1, by omega, by go_num, R, B3⟩
      case measure => simp [intOf]; omega
    · clear hb hown
      go_wp2
      go_ret
      refine ⟨_, rfl, ?_, HB.out⟩
      have := HO.out
      rwa [List.take_of_length_le (by rw [HZ.out.1]; omega)] at this

def penPre (hs : List (Int × Int)) : Int := firstE [atMostE hs.length 1024, firstInH hs]
def penErr (hs : List (Int × Int)) : Int := if penPre hs = 0 then overE (sumL (penL hs)) else penPre hs
def penVal (hs : List (Int × Int)) : Int := if penPre hs = 0 then capE (sumL (penL hs)) else 0
theorem penPre_zero {hs : List (Int × Int)} (h : penPre hs = 0) : ValidH hs := by
  have h2 := firstE2_zero h
  refine ⟨?_, fun i hi => ?_⟩
  · have := h2.1
    unfold atMostE at this
    split at this <;> omega
  · have h3 : heardE (hs.getD i (0, 0)) = 0 := by
      refine firstE_zero h2.2 _ ?_
      rw [List.getD_eq_getElem?_getD, List.getElem?_eq_getElem hi]
      exact List.mem_map.2 ⟨_, List.getElem_mem hi, rfl⟩
    have h4 := firstE2_zero h3
    have h5 := withinE_zero h4.1
    have h6 := withinE_zero h4.2
    exact ⟨h5.1, h5.2, h6.1, h6.2⟩
theorem penL_bd {hs : List (Int × Int)} (hv : ValidH hs) (i : Nat) (hi : i < (penL hs).length) : 0 ≤ (penL hs).getD i 0 ∧ (penL hs).getD i 0 ≤ 100000000000000 := by
  rw [penL_length] at hi
  have := hv.2 i hi
  unfold penL
  rw [getD_mapH (fun h => penF h.1 * h.2) hs i hi]
  exact penF_bd _ _ this.2.2.1 this.2.2.2

set_option maxHeartbeats 2000000 in
set_option maxRecDepth 100000 in
theorem Penalized_any (A : Option Addr) (n c : Nat) (hs : List (Int × Int)) (w : World) (hn : n ≤ 140737488351232) (hz : HeardAt w A n hs) :
    Calls Tryz.prog 52 #[.slice A n c] w fun e w' => e = .returned (.tuple #[.int .i64 (penVal hs), .int .i64 (penErr hs)]) ∧ Below w.heap.size w w' := by
  have HZ := Lib.hid hz
  have hl := Lib.hid hz.1
  clear hz
  obtain ⟨E, hE⟩ : ∃ E, E = penPre hs := ⟨_, rfl⟩
  have HE := Lib.hid hE
  clear hE
  by_cases h : E = 0
  · have h1 : (E != 0) = false := by simp [h]
    have hp := Lib.hid (HE.out.symm.trans h)
    have HV := Lib.hid (penPre_zero hp.out)
    have r1 : Hid (penVal hs = capE (sumL (penL hs))) := by show _ = _; unfold penVal; rw [if_pos hp.out]
    have r2 : Hid (penErr hs = overE (sumL (penL hs))) := by show _ = _; unfold penErr; rw [if_pos hp.out]
    rw [r1.out, r2.out]
    have hn2 : n ≤ 1024 := by have := HV.out.1; rw [hl.out] at this; exact this
    clear h
    go_enter Tryz.func52, Tryz.ntmps52
    go_wp2_with fail
    refine (atMost_heard _ _ _ _ _).mono ?_
    rintro e w' ⟨rfl, rfl⟩
    go_wp2_with fail
    refine (firstIn_heard A n c hs w hn HZ.out).mono ?_
    rintro e w1 ⟨rfl, hb⟩
    have HZ1 := Lib.hid (HZ.out.keep hb)
    have HB := Lib.hid hb
    clear hb
    go_wp2_with fail
    refine (first2 _ _ (atMostE n 1024) (firstInH hs) _ (by go_simp) (by go_simp)).mono ?_
    rw [show firstE [atMostE n 1024, firstInH hs] = E from by rw [HE.out, ← hl.out]; rfl]
    rintro e w' ⟨rfl, rfl⟩
    go_wp2_with fail
    refine (penalties_any _).mono ?_
    rintro e w' ⟨rfl, rfl⟩
    simp only [World.size_alloc]
    go_wp2_with fail
    have HB3 : Hid (Below w.heap.size w (((w1.alloc (.cells #[.int .i64 (atMostE n 1024), .int .i64 (firstInH hs)] 27)).alloc (.cells penCells 212)).alloc (.cells #[.slice (some ⟨w1.heap.size + 1, 0, none⟩) 4 4] 207))) :=
      ((HB.out.alloc HB.out.size _).alloc (by have := HB.out.size; simp; omega) _).alloc (by have := HB.out.size; simp; omega) _
    have HZ3 := Lib.hid (HZ.out.keep HB3.out)
    refine (mapped_heard A n c (w1.heap.size + 1) (w1.heap.size + 2) hs _ HZ3.out HV.out ?_ (by go_simp)).mono ?_
    · have := (Blk.new (w1.alloc (.cells #[.int .i64 (atMostE n 1024), .int .i64 (firstInH hs)] 27)) 212 penCells).alloc (.cells #[.slice (some ⟨w1.heap.size + 1, 0, none⟩) 4 4] 207)
      unfold PenAt
      simpa using this
    · rintro e w4 ⟨v, rfl, hO, hb4⟩
      have HB4 : Hid (Below w.heap.size w w4) := HB3.out.trans (hb4.mono HB3.out.size)
      have hI : ∃ A4 c4, v = .slice A4 (penL hs).length c4 ∧ IntsAt w4 A4 (penL hs).length (penL hs) := by
        rcases hO.form with ⟨rfl, h0⟩ | ⟨g, cap, rfl, _⟩
        · exact ⟨none, 0, by rw [h0]; rfl, by rw [h0]; exact ⟨rfl, fun h => by simp at h⟩⟩
        · exact ⟨_, _, rfl, hO.at_⟩
      obtain ⟨A4, c4, rfl, hI4⟩ := hI
      have HI4 := Lib.hid hI4
      clear hb4 hO hI4
      go_wp2_with fail
      refine (total_any A4 _ c4 (penL hs) w4 HI4.out (by rw [penL_length]; exact HV.out.1) (penL_bd HV.out)).mono ?_
      rintro e w' ⟨rfl, rfl⟩
      go_wp2_with fail
      refine (asEnergy_any _ _).mono ?_
      rintro e w' ⟨rfl, rfl⟩
      go_wp2
      go_ret2
      exact ⟨rfl, HB4.out⟩
  · have h1 : (E != 0) = true := by simp [h]
    have r1 : Hid (penVal hs = 0) := by show _ = _; unfold penVal; rw [if_neg (by rw [← HE.out]; exact h)]
    have r2 : Hid (penErr hs = E) := by show _ = _; unfold penErr; rw [if_neg (by rw [← HE.out]; exact h)]; exact HE.out.symm
    rw [r1.out, r2.out]
    clear h
    go_enter Tryz.func52, Tryz.ntmps52
    go_wp2_with fail
    refine (atMost_heard _ _ _ _ _).mono ?_
    rintro e w' ⟨rfl, rfl⟩
    go_wp2_with fail
    refine (firstIn_heard A n c hs w hn HZ.out).mono ?_
    rintro e w1 ⟨rfl, hb⟩
    have HB := Lib.hid hb
    clear hb
    go_wp2_with fail
    refine (first2 _ _ (atMostE n 1024) (firstInH hs) _ (by go_simp) (by go_simp)).mono ?_
    rw [show firstE [atMostE n 1024, firstInH hs] = E from by rw [HE.out, ← hl.out]; rfl]
    rintro e w' ⟨rfl, rfl⟩
    go_wp2
    go_ret2
    exact ⟨rfl, HB.out.alloc HB.out.size _⟩

end Go.Proofs.YtoipafnlcchmbaaGreatDoor
namespace Go.Proofs.YtoipafnlcchmbaaGreatDoor
open Go.RowKit

set_option maxHeartbeats 400000 in
theorem refFactor_any (tick : Int) (w : World) (h0 : 0 ≤ tick) (h1 : tick ≤ 86399) :
    Calls Tryz.prog 131 #[.int .i64 tick] w fun e w' => e = .returned (.int .i64 (penF tick)) ∧ w' = w := by
  rcases (show (82800 ≤ tick) ∨ (68400 ≤ tick ∧ tick < 82800) ∨ (25200 ≤ tick ∧ tick < 68400) ∨ tick < 25200 from by omega) with h | ⟨h, h2⟩ | ⟨h, h2⟩ | h
  · have r : Hid (penF tick = 10) := by show _ = _; unfold penF; rw [if_pos h]
    rw [r.out]
    go_enter Tryz.func131, Tryz.ntmps131
    go_wp2
    go_ret
    exact ⟨rfl, rfl⟩
  · have r : Hid (penF tick = 3) := by show _ = _; unfold penF; rw [if_neg (by omega), if_pos h]
    rw [r.out]
    go_enter Tryz.func131, Tryz.ntmps131
    go_wp2
    go_ret
    exact ⟨rfl, rfl⟩
  · have r : Hid (penF tick = 1) := by show _ = _; unfold penF; rw [if_neg (by omega), if_neg (by omega), if_pos h]
    rw [r.out]
    go_enter Tryz.func131, Tryz.ntmps131
    go_wp2
    go_ret
    exact ⟨rfl, rfl⟩
  · have r : Hid (penF tick = 10) := by show _ = _; unfold penF; rw [if_neg (by omega), if_neg (by omega), if_neg (by omega)]
    rw [r.out]
    go_enter Tryz.func131, Tryz.ntmps131
    go_wp2
    go_ret
    exact ⟨rfl, rfl⟩

theorem refCheckEnergy_st (x : Int) (w : World) :
    Calls Tryz.prog 35 #[.int .i64 x] w fun e w' => e = .returned (.int .i64 (checkEnergyE x)) ∧ w' = w :=
  (refCheckEnergy_any x w).mono fun _ _ ⟨h, e⟩ => ⟨h, e.symm⟩

theorem penPre_many (hs : List (Int × Int)) (h : 1024 < hs.length) : penPre hs = 5 := by
  unfold penPre atMostE
  rw [if_pos (by omega)]
  rfl
theorem penPre_few (hs : List (Int × Int)) (h : ¬ 1024 < hs.length) : penPre hs = firstInH hs := by
  unfold penPre atMostE
  rw [if_neg (by omega), firstE_ne, if_pos rfl]

set_option maxHeartbeats 2000000 in
set_option maxRecDepth 100000 in
theorem refCheckHeard_any (A : Option Addr) (n c : Nat) (hs : List (Int × Int)) (w : World) (hn : n ≤ 140737488351232) (hz : HeardAt w A n hs) :
    Calls Tryz.prog 56 #[.slice A n c] w fun e w' => e = .returned (.int .i64 (penPre hs)) ∧ Below w.heap.size w w' := by
  have HZ := Lib.hid hz
  have HL := Lib.hid hz.1
  clear hz
  by_cases hm : 1024 < n
  · have HM := Lib.hid (penPre_many hs (by rw [HL.out]; exact hm))
    go_enter Tryz.func56, Tryz.ntmps56
    go_wp2
    go_ret
    exact ⟨ret_int HM.out.symm, Below.refl _ _⟩
  · have HM := Lib.hid (penPre_few hs (by rw [HL.out]; exact hm))
    go_enter Tryz.func56, Tryz.ntmps56
    go_wp2
    go_loopw [3, 4] (fun i _ wr => ∃ k : Nat, k ≤ n ∧ i = .int .i64 k ∧ Hid (∀ i, i < k → heardE (hs.getD i (0, 0)) = 0) ∧ Below w.heap.size w wr) (fun i _ _ => n - (intOf i).toNat)
    case atStart => exact ⟨0, Nat.zero_le _, rfl, fun i hi => by omega, Below.refl _ _⟩
    case round =>
      obtain ⟨k, hk, rfl, hz, hb⟩ := hrel
      have HB := Lib.hid hb
      by_cases hlt : k < n
      · obtain ⟨b, off, rfl, hcc⟩ := (HZ.out.keep hb).2 (by omega)
        clear hb
        obtain ⟨t, ht⟩ : ∃ t, t = (hs.getD k (0, 0)).1 := ⟨_, rfl⟩
        obtain ⟨e, he⟩ : ∃ e, e = (hs.getD k (0, 0)).2 := ⟨_, rfl⟩
        have c1 := (hcc k hlt).1
        have c2 := (hcc k hlt).2
        rw [← ht] at c1
        rw [← he] at c2
        have HP : Hid ((t, e) = hs.getD k (0, 0)) := by show _ = _; rw [ht, he]
        have hki : (k : Int) < (n : Int) := by omega
        clear hcc ht he
        go_wp2_with fail
        refine wp_region_still_tail 12 (by kernel_rfl) (by kernel_rfl) ?_
        simp only [List.take_succ_cons, List.take_zero, List.drop_succ_cons, List.drop_zero]
        change wpStill _ _ (World.drew _) _ _ _
        repeat still_step
        still_call (refCheckRange_st _ _ _ _)
        repeat still_step
        still_call (refCheckEnergy_st _ _)
        repeat still_step
        refine wpStill_nil ?_
        change wpList _ _ _ _ _ (World.drew _)
        go_wp2_with fail
        refine (refFirst2 _ _ (withinE t 0 86399) (checkEnergyE e) _ (by go_simp) (by go_simp)).mono ?_
        rintro x w' ⟨rfl, rfl⟩
        obtain ⟨y, hy⟩ : ∃ y, y = firstE [withinE t 0 86399, checkEnergyE e] := ⟨_, rfl⟩
        rw [← hy]
        have HY : Hid (y = heardE (t, e)) := hy
        clear hy
        by_cases he : y = 0
        · have h1 : (y != 0) = false := by simp [he]
          have HE := Lib.hid he
          clear he
          go_wp2
          go_roundw
          case rel =>
            refine ⟨k + 1, by omega, by go_num, fun i hi => ?_, (HB.out.alloc HB.out.size _).drew⟩
            by_cases hik : i < k
            · exact hz.out i hik
            · obtain rfl : i = k := by omega
              rw [← HP.out, ← HY.out]; exact HE.out
          case measure => simp [intOf]; omega
        · have h1 : (y != 0) = true := by simp [he]
          have HE := Lib.hid he
          clear he
          go_wp2
          go_ret
          exact ⟨ret_int (by rw [HM.out, firstInH_hit hs k (by rw [HL.out]; exact hlt) hz.out (by rw [← HP.out, ← HY.out]; exact HE.out), ← HP.out]; exact HY.out), (HB.out.alloc HB.out.size _).drew⟩
      · clear hb
        go_wp2
        go_ret
        exact ⟨ret_int (by rw [HM.out]; exact (firstInH_miss hs (fun i hi => hz.out i (by rw [HL.out] at hi; omega))).symm), HB.out⟩

theorem drewN_more {w wr : World} (h : ∃ q, wr = w.drewN q) (m : Nat) : ∃ q, wr.drewN m = w.drewN q := by
  obtain ⟨q, rfl⟩ := h
  exact ⟨q + m, World.drewN_drewN _ _ _⟩

theorem penL_take2 (hs : List (Int × Int)) (k : Nat) : penL (hs.take k) = (penL hs).take k := by unfold penL; rw [List.map_take]
theorem penL_get (hs : List (Int × Int)) (k : Nat) (h : k < hs.length) : (penL hs).getD k 0 = penF (hs.getD k (0, 0)).1 * (hs.getD k (0, 0)).2 := by
  unfold penL; rw [getD_mapH (fun h => penF h.1 * h.2) hs k h]

set_option maxHeartbeats 2000000 in
set_option maxRecDepth 100000 in
theorem refPenalized_any (A : Option Addr) (n c : Nat) (hs : List (Int × Int)) (w : World) (hz : HeardAt w A n hs) (hv : ValidH hs) :
    Calls Tryz.prog 57 #[.slice A n c] w fun e w' => e = .returned (.tuple #[.int .i64 (capE (sumL (penL hs))), .int .i64 (overE (sumL (penL hs)))]) ∧ ∃ q, w' = w.drewN q := by
  have HZ := Lib.hid hz
  have HL := Lib.hid hz.1
  have HV := Lib.hid hv
  have hn : n ≤ 1024 := by have := hv.1; rw [hz.1] at this; exact this
  clear hz hv
  have hbd := Lib.hid (fun k (hk : k ≤ (penL hs).length) => sumL_bd (penL hs) (penL_bd HV.out) k hk)
  go_enter Tryz.func57, Tryz.ntmps57
  go_wp2
  go_loopw [4, 5] (fun s i wr => ∃ k : Nat, k ≤ n ∧ i = .int .i64 k ∧ s = .int .i64 (sumL ((penL hs).take k)) ∧ ∃ q, wr = w.drewN q) (fun _ i _ => n - (intOf i).toNat)
  case atStart => exact ⟨0, Nat.zero_le _, rfl, rfl, 0, rfl⟩
  case round =>
    obtain ⟨k, hk, rfl, rfl, hq⟩ := hrel
    have HQ := Lib.hid hq
    clear hq
    have b1 := hbd.out k (by rw [penL_length, HL.out]; exact hk)
    obtain ⟨b11, b12⟩ := b1
    by_cases hlt : k < n
    · obtain ⟨b, off, rfl, hcc⟩ := HZ.out.2 (by omega)
      have hvk := HV.out.2 k (by rw [HL.out]; exact hlt)
      have HS : Hid (sumL ((penL hs).take (k + 1)) = sumL ((penL hs).take k) + penF (hs.getD k (0, 0)).1 * (hs.getD k (0, 0)).2) := by
        show _ = _
        rw [sumL_succ (penL hs) k (by rw [penL_length, HL.out]; exact hlt), penL_get hs k (by rw [HL.out]; exact hlt)]
      obtain ⟨t, ht⟩ : ∃ t, t = (hs.getD k (0, 0)).1 := ⟨_, rfl⟩
      obtain ⟨e, he⟩ : ∃ e, e = (hs.getD k (0, 0)).2 := ⟨_, rfl⟩
      have c1 : wr.cell? ⟨b, off + k * 2, none⟩ = some (.int .i64 (hs.getD k (0, 0)).1) := by obtain ⟨q, rfl⟩ := HQ.out; exact (hcc k hlt).1
      have c2 : wr.cell? ⟨b, off + k * 2 + 1, none⟩ = some (.int .i64 (hs.getD k (0, 0)).2) := by obtain ⟨q, rfl⟩ := HQ.out; exact (hcc k hlt).2
      rw [← ht] at c1 hvk HS
      rw [← he] at c2 hvk HS
      have hki : (k : Int) < (n : Int) := by omega
      clear hcc ht he
      obtain ⟨v1, v2, v3, v4⟩ := hvk
      have hpf := penF_bd t e v3 v4
      have hF := Lib.hid (fun W => refFactor_any t W v1 v2)
      rw [show penF t * e = e * penF t from Int.mul_comm _ _] at hpf HS
      obtain ⟨f, hf⟩ : ∃ f, f = penF t := ⟨_, rfl⟩
      rw [← hf] at hpf HS hF
      clear hf
      obtain ⟨s, hs2⟩ : ∃ s, s = sumL ((penL hs).take k) := ⟨_, rfl⟩
      rw [← hs2] at b11 b12 HS ⊢
      clear hs2
      obtain ⟨p1, p2⟩ := hpf
      have wr1 : IntKind.i64.wrap (e * f) = e * f := IntWalk.i64_in _ (by omega)
      have wr2 : IntKind.i64.wrap (s + e * f) = s + e * f := IntWalk.i64_in _ (by omega)
      go_wp2_with fail
      go_quiet ((go_simp; exact Calls.quiet_of_same (hF.out _)))
      clear wr1 wr2
      go_wp2
      go_roundw
      case rel => exact ⟨k + 1, by omega, by go_num, by rw [HS.out], drewN_more HQ.out _⟩
      case measure => simp [intOf]; omega
    · obtain rfl : k = n := by omega
      obtain ⟨s, hseq⟩ : ∃ s, s = sumL (penL hs) := ⟨_, rfl⟩
      have hs2 : Hid (sumL ((penL hs).take k) = s) := by show _ = _; rw [← HL.out, ← penL_length, sumL_all, hseq]
      rw [hs2.out] at b11 b12 ⊢
      have HS := Lib.hid hseq
      clear hseq
      by_cases h : 10000000000000 < s
      · have e1 : Hid (capE s = 0) := by show _ = _; simp [capE, h]
        have e2 : Hid (overE s = 4) := by show _ = _; simp [overE, h]
        go_wp2
        go_ret2
        exact ⟨by rw [← HS.out, e1.out, e2.out]; rfl, HQ.out⟩
      · have e1 : Hid (capE s = s) := by show _ = _; simp [capE, h]
        have e2 : Hid (overE s = 0) := by show _ = _; simp [overE, h]
        go_wp2
        go_ret2
        exact ⟨by rw [← HS.out, e1.out, e2.out]; rfl, HQ.out⟩

end Go.Proofs.YtoipafnlcchmbaaGreatDoor
