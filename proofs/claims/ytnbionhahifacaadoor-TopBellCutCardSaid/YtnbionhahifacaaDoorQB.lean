/- Lists of integers of the call's own. Draw, of the program and of the reference. The table of thresholds; the search. Threshold, Level and Range, of the program and of the reference. -/
import Derived.Test.YtnbionhahifacaaDoorQA
import Derived.BigRegion
import Derived.RegionTactic
namespace Go.Proofs.YtnbionhahifacaaDoor
open Go.RowKit

theorem infoInt : (Tryd.prog.info? 3).map (fun i => (i.zero, i.size, i.bytes)) = some (some (.int .i64 0), 1, 8) := by kernel_rfl

/-- A slice of integers that the call itself made. -/
def OwnI (w : World) (base : Nat) (v : Value) (zs : List Int) : Prop := w.ownsRow base 3 1 v zs.length (zs.map (Value.int .i64))

theorem OwnI.nil (w : World) (base : Nat) : OwnI w base (.slice none 0 0) [] := World.ownsRow_nil _ _ _ _
theorem OwnI.alloc {w : World} {base : Nat} {v : Value} {zs : List Int} (h : OwnI w base v zs) (o : Obj) : OwnI (w.alloc o) base v zs := World.ownsRow.alloc h o
theorem OwnI.drew {w : World} {base : Nat} {v : Value} {zs : List Int} (h : OwnI w base v zs) : OwnI w.drew base v zs := h
theorem OwnI.drewN {w : World} {base : Nat} {v : Value} {zs : List Int} (h : OwnI w base v zs) (k : Nat) : OwnI (w.drewN k) base v zs := h
theorem OwnI.form {w : World} {base : Nat} {v : Value} {zs : List Int} (h : OwnI w base v zs) :
    (v = .slice none 0 0 ∧ zs = []) ∨ ∃ g cap, v = .slice (some ⟨g, 0, none⟩) zs.length cap ∧ base ≤ g ∧ g < w.heap.size ∧ zs.length ≤ cap ∧
      (∀ i, i < zs.length → w.cell? ⟨g, i, none⟩ = some (.int .i64 (zs.getD i 0))) ∧ (∀ i, w.frozen? ⟨g, i, none⟩ = false) := by
  have h0 := h
  rcases h.2 with ⟨hv, hn⟩ | ⟨g, cap, cur, hv, hb, hg, hnc, hm, hs, ht⟩
  · exact .inl ⟨hv, List.eq_nil_of_length_eq_zero hn⟩
  · subst hv
    refine .inr ⟨g, cap, rfl, hb, lt_of_block hg, hnc, fun i hi => ?_, fun i => World.ownsRow.frozenAt h0 i⟩
    rw [World.ownsRow.cellAt h0 i (by omega)]
    simp [List.getElem?_eq_getElem hi]
theorem OwnI.at_ {w : World} {base : Nat} {A : Option Addr} {n c : Nat} {zs : List Int} (h : OwnI w base (.slice A n c) zs) : IntsAt w A n zs := by
  rcases h.form with ⟨hv, rfl⟩ | ⟨g, cap, hv, _, _, _, hc, _⟩
  · simp only [Value.slice.injEq] at hv
    obtain ⟨rfl, rfl, rfl⟩ := hv
    exact ⟨rfl, fun h => by omega⟩
  · simp only [Value.slice.injEq] at hv
    obtain ⟨rfl, rfl, rfl⟩ := hv
    exact ⟨rfl, fun _ => ⟨g, 0, rfl, fun i hi => by rw [Nat.zero_add]; exact hc i hi⟩⟩
theorem OwnI.mono {w : World} {base base' : Nat} {v : Value} {zs : List Int} (h : OwnI w base v zs) (hb : base' ≤ base) : OwnI w base' v zs := by
  rcases h with ⟨h1, h2 | ⟨g, cap, cur, hv, hg, r⟩⟩
  · exact ⟨h1, .inl h2⟩
  · exact ⟨h1, .inr ⟨g, cap, cur, hv, Nat.le_trans hb hg, r⟩⟩
theorem OwnI.parts {w : World} {base g n c : Nat} {zs : List Int} (h : OwnI w base (.slice (some ⟨g, 0, none⟩) n c) zs) :
    n = zs.length ∧ g < w.heap.size ∧ (∀ i, i < n → w.cell? ⟨g, i, none⟩ = some (.int .i64 (zs.getD i 0))) ∧ ∀ i, w.frozen? ⟨g, i, none⟩ = false := by
  rcases h.form with ⟨hv, _⟩ | ⟨g', cap, hv, _, hg, _, hc, hf⟩
  · simp at hv
  · simp only [Value.slice.injEq, Option.some.injEq, Addr.mk.injEq, and_true] at hv
    obtain ⟨rfl, rfl, rfl⟩ := hv
    exact ⟨rfl, hg, hc, hf⟩
theorem OwnI.below {w w' : World} {base : Nat} {v : Value} {zs : List Int} (h : OwnI w base v zs) (hb : Below w.heap.size w w') : OwnI w' base v zs := by
  refine World.ownsRow.kept h (row := none) ⟨hb.os, hb.tape, hb.output, hb.size, fun k hk _ => hb.block k hk⟩ ?_
  rcases h.form with ⟨rfl, _⟩ | ⟨g, cap, rfl, _⟩
  · exact .inl rfl
  · exact .inr (by simp [Value.ownBlock])
theorem OwnI.store {w : World} {base g n c : Nat} {zs : List Int} (h : OwnI w base (.slice (some ⟨g, 0, none⟩) n c) zs) (j : Nat) (u : Int) :
    OwnI (w.setCell ⟨g, j, none⟩ (.int .i64 u)) base (.slice (some ⟨g, 0, none⟩) n c) (zs.set j u) := by
  have hn : n = zs.length := by
    rcases h.form with ⟨hv, _⟩ | ⟨g', cap, hv, _⟩
    · simp at hv
    · simp only [Value.slice.injEq] at hv; exact hv.2.1
  subst hn
  have := (World.ownsRow.stored h j (.int .i64 u)).1
  unfold OwnI
  rw [List.length_set, List.map_set]
  exact this
theorem IntsAt.keep {w w' : World} {A : Option Addr} {n : Nat} {zs : List Int} (h : IntsAt w A n zs) (hb : Below w.heap.size w w') : IntsAt w' A n zs := by
  refine ⟨h.1, fun hn => ?_⟩
  obtain ⟨b, off, rfl, hc⟩ := h.2 hn
  exact ⟨b, off, rfl, fun i hi => by
    have h1 := hc i hi
    rw [hb.cell (p := ⟨b, off + i, none⟩) (World.block_lt_of_cell? _ _ h1)]
    exact h1⟩
theorem IntsAt.len {w : World} {A : Option Addr} {n : Nat} {zs : List Int} (h : IntsAt w A n zs) : zs.length = n := h.1

/-! The permutation. -/
def swapL (l : List Int) (i j : Nat) : List Int := (l.set i (l.getD j 0)).set j (l.getD i 0)
def drawStep (x : Int) : Int := (69621 * x + 7) % 2147483647
def drawGo : Nat → Int → List Int → List Int
  | 0, _, l => l
  | i + 1, x, l => drawGo i (drawStep x) (swapL l (i + 1) (drawStep x % (i + 2)).toNat)
def fillL (n k : Nat) : List Int := (List.range n).map fun i => if i < k then (i : Int) else 0
def drawL (number : Int) (n : Nat) : List Int := drawGo (n - 1) number (fillL n n)

theorem fillL_length (n k : Nat) : (fillL n k).length = n := by simp [fillL]
theorem fillL_zero (n : Nat) : fillL n 0 = List.replicate n 0 := by
  apply List.ext_getElem
  · simp [fillL]
  · intro i h1 h2; simp [fillL]
theorem fillL_set (n k : Nat) : (fillL n k).set k (k : Int) = fillL n (k + 1) := by
  apply List.ext_getElem
  · simp [fillL]
  · intro i h1 h2
    simp only [List.getElem_set, fillL, List.getElem_map, List.getElem_range]
    by_cases h : k = i
    · subst h; simp
    · rw [if_neg h]
      by_cases h3 : i < k
      · rw [if_pos h3, if_pos (by omega)]
      · rw [if_neg h3, if_neg (by omega)]
theorem swapL_length (l : List Int) (i j : Nat) : (swapL l i j).length = l.length := by simp [swapL]
theorem drawStep_bd (x : Int) : 0 ≤ drawStep x ∧ drawStep x ≤ 2147483646 := by unfold drawStep; omega
theorem drawGo_length (k : Nat) : ∀ (x : Int) (l : List Int), (drawGo k x l).length = l.length := by
  induction k with
  | zero => intro x l; rfl
  | succ k ih => intro x l; rw [drawGo, ih, swapL_length]

end Go.Proofs.YtnbionhahifacaaDoor
namespace Go.Proofs.YtnbionhahifacaaDoor
open Go.RowKit

theorem made_zero (n : Nat) : (madeCells (Value.int .i64 0).cells (n * 1)).toList = (List.replicate n (0 : Int)).map (Value.int .i64) := by
  simp [madeCells, Value.cells, Nat.mod_one]
  apply List.ext_getElem
  · simp
  · intro i h1 h2; simp

def upL (k : Nat) : List Int := (List.range k).map fun i : Nat => (i : Int)
theorem upL_length (k : Nat) : (upL k).length = k := by simp [upL]
theorem upL_succ (k : Nat) : upL (k + 1) = upL k ++ [(k : Int)] := by simp [upL, List.range_succ]
theorem upL_fill (n : Nat) : upL n = fillL n n := by
  apply List.ext_getElem
  · simp [upL, fillL]
  · intro i h1 h2
    simp only [upL_length] at h1
    simp [upL, fillL, h1]

end Go.Proofs.YtnbionhahifacaaDoor
namespace Go.Proofs.YtnbionhahifacaaDoor
open Go.RowKit

def stepAt : Nat → Int
  | 0 => 10 | 1 => 13 | 2 => 16 | 3 => 20 | 4 => 25 | 5 => 32 | 6 => 40 | 7 => 50 | 8 => 63 | _ => 79
theorem stepAt_bd (i : Nat) : 10 ≤ stepAt i ∧ stepAt i ≤ 79 := by unfold stepAt; split <;> omega

/-- The table of the program lies in its variable. -/
def Steps (w : World) : Prop := ∀ i, i < 10 → w.cell? ⟨0, i, none⟩ = some (.int .i64 (stepAt i))
theorem Steps.keep {w w' : World} (h : Steps w) (hb : Below w.heap.size w w') : Steps w' := fun i hi => by
  rw [hb.cell (p := ⟨0, i, none⟩) (World.block_lt_of_cell? _ _ (h i hi))]
  exact h i hi
theorem Steps.alloc {w : World} (h : Steps w) (o : Obj) : Steps (w.alloc o) := h.keep ((Below.refl _ _).alloc (Nat.le_refl _) _)
theorem Steps.drew {w : World} (h : Steps w) : Steps w.drew := h
theorem Steps.drewN {w : World} (h : Steps w) (n : Nat) : Steps (w.drewN n) := h

def mul10 (s : Int) : Nat → Int
  | 0 => s
  | j + 1 => mul10 s j * 10
theorem mul10_bd (s : Int) (h0 : 10 ≤ s) (h1 : s ≤ 79) (j : Nat) (hj : j ≤ 12) : 10 ≤ mul10 s j ∧ mul10 s j ≤ 79000000000000 := by
  match j, hj with
  | 0, _ => simp only [mul10]; omega
  | 1, _ => simp only [mul10]; omega
  | 2, _ => simp only [mul10]; omega
  | 3, _ => simp only [mul10]; omega
  | 4, _ => simp only [mul10]; omega
  | 5, _ => simp only [mul10]; omega
  | 6, _ => simp only [mul10]; omega
  | 7, _ => simp only [mul10]; omega
  | 8, _ => simp only [mul10]; omega
  | 9, _ => simp only [mul10]; omega
  | 10, _ => simp only [mul10]; omega
  | 11, _ => simp only [mul10]; omega
  | 12, _ => simp only [mul10]; omega
theorem mul10_ge (s : Int) (h0 : 10 ≤ s) (j : Nat) : 10 ≤ mul10 s j := by
  induction j with
  | zero => exact h0
  | succ j ih => rw [mul10]; omega
/-- The threshold of a level. -/
def thr (k : Nat) : Int := mul10 (stepAt (k % 10)) (k / 10)
theorem thr_bd (k : Nat) (hk : k ≤ 121) : 10 ≤ thr k ∧ thr k ≤ 79000000000000 := mul10_bd _ (stepAt_bd _).1 (stepAt_bd _).2 _ (by omega)
theorem thr_ten (k : Nat) : thr (k + 10) = thr k * 10 := by
  unfold thr
  rw [show (k + 10) % 10 = k % 10 from by omega, show (k + 10) / 10 = k / 10 + 1 from by omega]
  rfl
theorem thr_succ (k : Nat) : thr k < thr (k + 1) := by
  induction k using Nat.strongRecOn with
  | _ k ih =>
    by_cases h : k < 10
    · match k, h with
      | 0, _ => decide
      | 1, _ => decide
      | 2, _ => decide
      | 3, _ => decide
      | 4, _ => decide
      | 5, _ => decide
      | 6, _ => decide
      | 7, _ => decide
      | 8, _ => decide
      | 9, _ => decide
    · obtain ⟨m, rfl⟩ : ∃ m, k = m + 10 := ⟨k - 10, by omega⟩
      rw [show m + 10 + 1 = (m + 1) + 10 from by omega, thr_ten, thr_ten]
      have := ih m (by omega)
      omega
theorem thr_lt {a b : Nat} (h : a < b) : thr a < thr b := by
  induction b with
  | zero => omega
  | succ b ih =>
    by_cases hab : a = b
    · subst hab; exact thr_succ a
    · have := ih (by omega); have := thr_succ b; omega
theorem thr_le {a b : Nat} (h : a ≤ b) : thr a ≤ thr b := by
  rcases Nat.lt_or_ge a b with h1 | h1
  · exact Int.le_of_lt (thr_lt h1)
  · rw [show a = b from by omega]; exact Int.le_refl _

set_option maxHeartbeats 1000000 in
theorem threshold_any (k : Nat) (w : World) (hk : k ≤ 121) (hs : Steps w) :
    Calls Tryd.prog 34 #[.int .i64 k] w fun e w' => e = .returned (.int .i64 (thr k)) ∧ w = w' := by
  have hc := hs (k % 10) (by omega)
  have hbd := stepAt_bd (k % 10)
  obtain ⟨s, hS⟩ : ∃ s, s = stepAt (k % 10) := ⟨_, rfl⟩
  rw [← hS] at hc hbd
  obtain ⟨b1, b2⟩ := hbd
  have HS := Lib.hid hS
  clear hS
  have HH := Lib.hid hs
  clear hs
  have m1 : (k : Int) % 10 < 10 := by omega
  go_enter Tryd.func34, Tryd.ntmps34
  go_wp2
  go_loop [3, 10] (fun n i => ∃ j : Nat, j ≤ k / 10 ∧ i = .int .i64 j ∧ n = .int .i64 (mul10 s j)) (fun _ i => k / 10 - (intOf i).toNat)
  case atStart => exact ⟨0, Nat.zero_le _, rfl, rfl⟩
  case round =>
    obtain ⟨j, hj, rfl, rfl⟩ := hrel
    have hbd := mul10_bd s b1 b2 j (by omega)
    obtain ⟨d1, d2⟩ := hbd
    by_cases hlt : j < k / 10
    · have hlt' : (j : Int) < (k : Int) / 10 := by omega
      go_wp2
      go_round
      case rel => exact ⟨j + 1, by omega, by go_num, rfl⟩
      case measure => simp [intOf]; omega
    · have hlt' : ¬ (j : Int) < (k : Int) / 10 := by omega
      go_wp2
      go_ret
      obtain rfl : j = k / 10 := by omega
      exact ⟨ret_int (by rw [HS.out]; rfl), rfl⟩

theorem ret10 (s : Int) (j : Nat) : Value.int .i64 (10 * mul10 s j) = .int .i64 (mul10 s (j + 1)) := by
  rw [mul10, Int.mul_comm]

/-! The binary search of the library, for a closure that captures one variable. -/
set_option maxHeartbeats 1000000 in
set_option maxRecDepth 100000 in
theorem search_any (F : FuncId) (cap : Value) (p : Nat → Bool) (n : Nat) (w : World) (hn : n ≤ 1000000)
    (hE : ∀ (args : Array Value) (W : World), (callFunc F args).run Tryd.prog W = .ok (.enter F args) W)
    (hF : ∀ (k q : Nat), k < n → Calls Tryd.prog F #[.int .i64 k, cap] (w.drewN q) fun e w' => e = .returned (.bool (p k)) ∧ ∃ q', w' = w.drewN q') :
    Calls Tryd.prog 32 #[.int .i64 n, .func (.func F) #[] #[cap]] w fun e w' => ∃ r : Nat, e = .returned (.int .i64 r) ∧ r ≤ n ∧ (0 < r → p (r - 1) = false) ∧ (r < n → p r = true) ∧ ∃ q, w' = w.drewN q := by
  have HF := Lib.hid hF
  clear hF
  go_enter Tryd.func32, Tryd.ntmps32
  go_wp2
  go_loopw [5, 6, 7] (fun i j _ wr => ∃ a b : Nat, i = .int .i64 a ∧ j = .int .i64 b ∧ a ≤ b ∧ b ≤ n ∧ Hid (0 < a → p (a - 1) = false) ∧ Hid (b < n → p b = true) ∧ ∃ q, wr = w.drewN q) (fun i j _ _ => (intOf j - intOf i).toNat)
  case atStart => exact ⟨0, n, rfl, rfl, Nat.zero_le _, Nat.le_refl _, (fun h => by omega), (fun h => by omega), 0, rfl⟩
  case round =>
    obtain ⟨a, b, rfl, rfl, hab, hbn, h1, h2, q, rfl⟩ := hrel
    by_cases hlt : a < b
    · go_wp2_with fail
      obtain ⟨m, hm⟩ : ∃ m : Nat, ((a : Int) + (b : Int)) / 2 = (m : Int) := ⟨(a + b) / 2, by omega⟩
      have m1 : a ≤ m := by omega
      have m2 : m < b := by omega
      rw [hm]
      clear hm
      refine (HF.out m q (by omega)).mono ?_
      rintro e w' ⟨rfl, q', rfl⟩
      obtain ⟨v, hv⟩ : ∃ v, v = p m := ⟨_, rfl⟩
      rw [← hv]
      have HV := Lib.hid hv
      clear hv
      cases v
      · go_wp2
        go_roundw
        case rel => exact ⟨m + 1, b, by go_num, rfl, by omega, hbn, (fun _ => by rw [Nat.add_sub_cancel]; exact HV.out.symm), h2, q', rfl⟩
        case measure => simp [intOf]; omega
      · go_wp2
        go_roundw
        case rel => exact ⟨a, m, rfl, rfl, by omega, by omega, h1, (fun _ => HV.out.symm), q', rfl⟩
        case measure => simp [intOf]; omega
    · go_wp2
      go_ret
      obtain rfl : a = b := by omega
      exact ⟨a, rfl, hbn, h1.out, h2.out, q, rfl⟩

def levelE (e : Int) : Int → Prop := fun k => (k = -1 ∧ e < 10) ∨ ∃ m : Nat, k = m ∧ m ≤ 120 ∧ thr m ≤ e ∧ (m < 120 → e < thr (m + 1))
/-- The level of an energy. -/
def levelOf (e : Int) : Nat → Int
  | 0 => -1
  | k + 1 => if thr k ≤ e then (k : Int) else levelOf e k
def level (e : Int) : Int := levelOf e 121
theorem levelOf_none (e : Int) (k : Nat) (h : e < 10) : levelOf e k = -1 := by
  induction k with
  | zero => rfl
  | succ k ih => rw [levelOf, if_neg (by have : 10 ≤ thr k := (mul10_ge (stepAt (k % 10)) (stepAt_bd _).1 _); omega), ih]
theorem levelOf_is (e : Int) (m n : Nat) (h1 : thr m ≤ e) (h2 : ∀ j, m < j → j < n → e < thr j) (hm : m < n) : levelOf e n = m := by
  induction n with
  | zero => omega
  | succ n ih =>
    rw [levelOf]
    by_cases hmn : m = n
    · subst hmn; rw [if_pos h1]
    · rw [if_neg (by have := h2 n (by omega) (by omega); omega)]
      exact ih (fun j h3 h4 => h2 j h3 (by omega)) (by omega)
theorem level_is (e : Int) (m : Nat) (hm : m ≤ 120) (h1 : thr m ≤ e) (h2 : m < 120 → e < thr (m + 1)) : level e = m :=
  levelOf_is e m 121 h1 (fun j h3 h4 => by have := h2 (by omega); have := thr_le (show m + 1 ≤ j from h3); omega) (by omega)
theorem level_none (e : Int) (h : e < 10) : level e = -1 := levelOf_none e 121 h

theorem enters_level1 (args : Array Value) (W : World) : (callFunc 33 args).run Tryd.prog W = .ok (.enter 33 args) W := by kernel_rfl

def gtB (k : Nat) (e : Int) : Bool := decide (e < thr k)

set_option maxHeartbeats 1000000 in
theorem level1_any (k : Nat) (e : Int) (g : Nat) (w : World) (hk : k ≤ 121) (hs : Steps w) (hc : w.cell? ⟨g, 0, none⟩ = some (.int .i64 e)) :
    Calls Tryd.prog 33 #[.int .i64 k, .pointer (some ⟨g, 0, none⟩)] w fun x w' => x = .returned (.bool (gtB k e)) ∧ ∃ q, w' = w.drewN q := by
  have HS := Lib.hid hs
  clear hs
  obtain ⟨t, ht⟩ : ∃ t, t = thr k := ⟨_, rfl⟩
  have HT := Lib.hid ht
  clear ht
  obtain ⟨b, hb⟩ : ∃ b, b = decide (e < t) := ⟨_, rfl⟩
  have HB := Lib.hid hb
  clear hb
  go_enter Tryd.func33, Tryd.ntmps33
  go_wp2
  go_quiet ((go_at_call 34; exact Calls.quiet_of_same ((threshold_any k _ hk (HS.out.drewN _)).mono (fun _ _ h => ⟨h.1, h.2.symm⟩))))
  go_wp2
  go_ret
  exact ⟨rfl, _, rfl⟩

end Go.Proofs.YtnbionhahifacaaDoor
namespace Go.Proofs.YtnbionhahifacaaDoor
open Go.RowKit

theorem ret_int2 {k k' : IntKind} {a b c d : Int} (h : a = b) (h2 : c = d) : Ending.returned (.tuple #[.int k a, .int k' c]) = .returned (.tuple #[.int k b, .int k' d]) := by rw [h, h2]

theorem withinE_of {n low high : Int} (h1 : low ≤ n) (h2 : n ≤ high) : withinE n low high = 0 := by unfold withinE; rw [if_neg (by omega)]
theorem withinE_bad {n low high : Int} (h : ¬ (low ≤ n ∧ n ≤ high)) : withinE n low high = 3 := by unfold withinE; rw [if_pos (by omega)]

/-- Threshold's result. -/
def thresholdR (k : Int) : Int := if 0 ≤ k ∧ k ≤ 120 then thr k.toNat else 0

/-- Level's result. -/
def levelR (e : Int) : Int := if 0 ≤ e ∧ e ≤ 10000000000000 then level e else 0

theorem gtB_true {k : Nat} {e : Int} (h : gtB k e = true) : e < thr k := by unfold gtB at h; simpa using h
theorem gtB_false {k : Nat} {e : Int} (h : gtB k e = false) : thr k ≤ e := by unfold gtB at h; simpa using h

theorem level_found (e : Int) (r : Nat) (hr : r ≤ 121) (h1 : 0 < r → gtB (r - 1) e = false) (h2 : r < 121 → gtB r e = true) : level e = (r : Int) - 1 := by
  by_cases h0 : r = 0
  · subst h0
    have := gtB_true (h2 (by omega))
    rw [level_none e (by simpa [thr, mul10, stepAt] using this)]; rfl
  · obtain ⟨m, rfl⟩ : ∃ m, r = m + 1 := ⟨r - 1, by omega⟩
    rw [level_is e m (by omega) (by have := gtB_false (h1 (by omega)); simpa using this) (fun hm => gtB_true (h2 (by omega)))]
    omega

set_option maxHeartbeats 1000000 in
set_option maxRecDepth 100000 in
theorem Level_any (e : Int) (w : World) (hs : Steps w) :
    Calls Tryd.prog 11 #[.int .i64 e] w fun x w' => x = .returned (.tuple #[.int .i64 (levelR e), .int .i64 (checkEnergyE e)]) ∧ Below w.heap.size w w' := by
  have HS := Lib.hid hs
  clear hs
  by_cases h : 0 ≤ e ∧ e ≤ 10000000000000
  · have e1 : Hid (checkEnergyE e = 0) := withinE_of h.1 h.2
    have e2 : Hid (levelR e = level e) := by show _ = _; unfold levelR; rw [if_pos h]
    rw [e1.out, e2.out]
    have hb1 := h.1
    have hb2 := h.2
    clear h
    go_enter Tryd.func11, Tryd.ntmps11
    go_wp2_with fail
    refine (checkEnergy_any _ _).mono ?_
    rw [e1.out]
    rintro x w' ⟨rfl, rfl⟩
    go_wp2_with fail
    refine (search_any 33 (.pointer (some ⟨w.heap.size, 0, none⟩)) (fun k => gtB k e) 121 _ (by omega) enters_level1 (fun k q hk => ?_)).mono ?_
    · refine (level1_any k e w.heap.size _ (by omega) ((HS.out.alloc _).drewN q) (by go_simp)).mono ?_
      rintro x w' ⟨rfl, q', rfl⟩
      exact ⟨rfl, q + q', World.drewN_drewN _ _ _⟩
    · rintro x w' ⟨r, rfl, hr, h1, h2, q, rfl⟩
      have hl := Lib.hid (level_found e r hr h1 h2)
      clear h1 h2
      go_wp2
      go_ret2
      exact ⟨ret_int2 hl.out.symm rfl, below_drewN' ((Below.refl _ _).alloc (Nat.le_refl _) _) _⟩
  · have e1 : Hid (checkEnergyE e = 3) := withinE_bad h
    have e2 : Hid (levelR e = 0) := by show _ = _; unfold levelR; rw [if_neg h]
    clear h
    rw [e1.out, e2.out]
    go_enter Tryd.func11, Tryd.ntmps11
    go_wp2_with fail
    refine (checkEnergy_any _ _).mono ?_
    rw [e1.out]
    rintro x w' ⟨rfl, rfl⟩
    go_wp2
    go_ret2
    exact ⟨rfl, (Below.refl _ _).alloc (Nat.le_refl _) _⟩

/-- Range's result. -/
def rangeLow (k : Int) : Int := if -1 < k then thr k.toNat else 0
def rangeHigh (k : Int) : Int := if k < 120 then thr (k + 1).toNat - 1 else 10000000000000
def rangeR (k : Int) : Value := if -1 ≤ k ∧ k ≤ 120 then .agg #[.int .i64 (rangeLow k), .int .i64 (rangeHigh k)] else .agg #[.int .i64 0, .int .i64 0]

/-! The reference. -/
/-- A block of cells, known whole. -/
def Blk (w : World) (g : Nat) (t : TypeId) (cs : Array Value) : Prop := w.heap[g]? = some (.cells cs t (0, 0))
theorem Blk.new (w : World) (t : TypeId) (cs : Array Value) : Blk (w.alloc (.cells cs t)) w.heap.size t cs := heap_alloc_new w _
theorem Blk.alloc {w : World} {g : Nat} {t : TypeId} {cs : Array Value} (h : Blk w g t cs) (o : Obj) : Blk (w.alloc o) g t cs := (Below.heap_alloc w o g (lt_of_block h)).trans h
theorem Blk.drew {w : World} {g : Nat} {t : TypeId} {cs : Array Value} (h : Blk w g t cs) : Blk w.drew g t cs := h
theorem Blk.drewN {w : World} {g : Nat} {t : TypeId} {cs : Array Value} (h : Blk w g t cs) (n : Nat) : Blk (w.drewN n) g t cs := h
theorem Blk.below {w w' : World} {g : Nat} {t : TypeId} {cs : Array Value} (h : Blk w g t cs) (hb : Below w.heap.size w w') : Blk w' g t cs := (hb.block g (lt_of_block h)).trans h
theorem Blk.cell {w : World} {g : Nat} {t : TypeId} {cs : Array Value} (h : Blk w g t cs) (i : Nat) : w.cell? ⟨g, i, none⟩ = cs[i]? := cell_of_row w g i cs t (0, 0) h
theorem Blk.frozen {w : World} {g : Nat} {t : TypeId} {cs : Array Value} (h : Blk w g t cs) (i : Nat) : w.frozen? ⟨g, i, none⟩ = false := by
  unfold Blk at h
  simp [World.frozen?, h]
theorem Blk.set_ {w : World} {g : Nat} {t : TypeId} {cs : Array Value} (h : Blk w g t cs) (i : Nat) (u : Value) : Blk (w.setCell ⟨g, i, none⟩ u) g t (cs.setIfInBounds i u) := by
  unfold Blk at h ⊢
  simp [World.setCell, Array.getElem?_modify, h]
theorem Blk.far {w : World} {g : Nat} {t : TypeId} {cs : Array Value} (h : Blk w g t cs) {p : Addr} (hp : g ≠ p.block) (u : Value) : Blk (w.setCell p u) g t cs := (Below.heap_setCell w p u g hp).trans h

end Go.Proofs.YtnbionhahifacaaDoor
