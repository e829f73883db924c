/- Lists of integers of the call's own. Draw, of the program and of the reference. The table of thresholds; the search. Threshold, Level and Range, of the program and of the reference. -/
import Derived.Test.YtoipafnlcchmbaaGreatDoorQA
import Derived.BigRegion
import Derived.RegionTactic
namespace Go.Proofs.YtoipafnlcchmbaaGreatDoor
open Go.RowKit

theorem infoInt : (Tryz.prog.info? 3).map (fun i => (i.zero, i.size, i.bytes)) = some (some (.int .i64 0), 1, 8) := by kernel_rfl

/-- A slice of integers that the call itself made. -/
def OwnI (w : World) (base : Nat) (v : Value) (zs : List Int) : Prop := w.ownsRow base 3 1 v zs.length (zs.map (Value.int .i64))

theorem OwnI.nil (w : World) (base : Nat) : OwnI w base (.slice none 0 0) [] := World.ownsRow_nil _ _ _ _
theorem OwnI.alloc {w : World} {base : Nat} {v : Value} {zs : List Int} (h : OwnI w base v zs) (o : Obj) : OwnI (w.alloc o) base v zs := World.ownsRow.alloc h o
theorem OwnI.drew {w : World} {base : Nat} {v : Value} {zs : List Int} (h : OwnI w base v zs) : OwnI w.drew base v zs := h
theorem OwnI.drewN {w : World} {base : Nat} {v : Value} {zs : List Int} (h : OwnI w base v zs) (k : Nat) : OwnI (w.drewN k) base v zs := h
theorem OwnI.form {w : World} {base : Nat} {v : Value} {zs : List Int} (h : OwnI w base v zs) :
    (v = .slice none 0 0 ∧ zs = []) ∨ ∃ g cap, v = .slice (some ⟨g, 0, none⟩) zs.length cap ∧ base ≤ g ∧ g < w.heap.size ∧ zs.length ≤ cap ∧
      (∀ i, i < zs.length → w.cell? ⟨g, i, none⟩ = some (.int .i64 (zs.getD i 0))) ∧ (∀ i, w.frozen? ⟨g, i, none⟩ = false) := by
  have h0 := h
  rcases h.2 with ⟨hv, hn⟩ | ⟨g, cap, cur, hv, hb, hg, hnc, hm, hs, ht⟩
  · exact .inl ⟨hv, List.eq_nil_of_length_eq_zero hn⟩
  · subst hv
    refine .inr ⟨g, cap, rfl, hb, lt_of_block hg, hnc, fun i hi => ?_, fun i => World.ownsRow.frozenAt h0 i⟩
    rw [World.ownsRow.cellAt h0 i (by omega)]
    simp [List.getElem?_eq_getElem hi]
theorem OwnI.at_ {w : World} {base : Nat} {A : Option Addr} {n c : Nat} {zs : List Int} (h : OwnI w base (.slice A n c) zs) : IntsAt w A n zs := by
  rcases h.form with ⟨hv, rfl⟩ | ⟨g, cap, hv, _, _, _, hc, _⟩
  · simp only [Value.slice.injEq] at hv
    obtain ⟨rfl, rfl, rfl⟩ := hv
    exact ⟨rfl, fun h => by omega⟩
  · simp only [Value.slice.injEq] at hv
    obtain ⟨rfl, rfl, rfl⟩ := hv
    exact ⟨rfl, fun _ => ⟨g, 0, rfl, fun i hi => by rw [Nat.zero_add]; exact hc i hi⟩⟩
theorem OwnI.mono {w : World} {base base' : Nat} {v : Value} {zs : List Int} (h : OwnI w base v zs) (hb : base' ≤ base) : OwnI w base' v zs := by
  rcases h with ⟨h1, h2 | ⟨g, cap, cur, hv, hg, r⟩⟩
  · exact ⟨h1, .inl h2⟩
  · exact ⟨h1, .inr ⟨g, cap, cur, hv, Nat.le_trans hb hg, r⟩⟩
theorem OwnI.parts {w : World} {base g n c : Nat} {zs : List Int} (h : OwnI w base (.slice (some ⟨g, 0, none⟩) n c) zs) :
    n = zs.length ∧ g < w.heap.size ∧ (∀ i, i < n → w.cell? ⟨g, i, none⟩ = some (.int .i64 (zs.getD i 0))) ∧ ∀ i, w.frozen? ⟨g, i, none⟩ = false := by
  rcases h.form with ⟨hv, _⟩ | ⟨g', cap, hv, _, hg, _, hc, hf⟩
  · simp at hv
  · simp only [Value.slice.injEq, Option.some.injEq, Addr.mk.injEq, and_true] at hv
    obtain ⟨rfl, rfl, rfl⟩ := hv
    exact ⟨rfl, hg, hc, hf⟩
theorem OwnI.below {w w' : World} {base : Nat} {v : Value} {zs : List Int} (h : OwnI w base v zs) (hb : Below w.heap.size w w') : OwnI w' base v zs := by
  refine World.ownsRow.kept h (row := none) ⟨hb.os, hb.tape, hb.output, hb.size, fun k hk _ => hb.block k hk⟩ ?_
  rcases h.form with ⟨rfl, _⟩ | ⟨g, cap, rfl, _⟩
  · exact .inl rfl
  · exact .inr (by simp [Value.ownBlock])
theorem OwnI.store {w : World} {base g n c : Nat} {zs : List Int} (h : OwnI w base (.slice (some ⟨g, 0, none⟩) n c) zs) (j : Nat) (u : Int) :
    OwnI (w.setCell ⟨g, j, none⟩ (.int .i64 u)) base (.slice (some ⟨g, 0, none⟩) n c) (zs.set j u) := by
  have hn : n = zs.length := by
    rcases h.form with ⟨hv, _⟩ | ⟨g', cap, hv, _⟩
    · simp at hv
    · simp only [Value.slice.injEq] at hv; exact hv.2.1
  subst hn
  have := (World.ownsRow.stored h j (.int .i64 u)).1
  unfold OwnI
  rw [List.length_set, List.map_set]
  exact this
theorem IntsAt.keep {w w' : World} {A : Option Addr} {n : Nat} {zs : List Int} (h : IntsAt w A n zs) (hb : Below w.heap.size w w') : IntsAt w' A n zs := by
  refine ⟨h.1, fun hn => ?_⟩
  obtain ⟨b, off, rfl, hc⟩ := h.2 hn
  exact ⟨b, off, rfl, fun i hi => by
    have h1 := hc i hi
    rw [hb.cell (p := ⟨b, off + i, none⟩) (World.block_lt_of_cell? _ _ h1)]
    exact h1⟩
theorem IntsAt.len {w : World} {A : Option Addr} {n : Nat} {zs : List Int} (h : IntsAt w A n zs) : zs.length = n := h.1

/-! The permutation. -/
def swapL (l : List Int) (i j : Nat) : List Int := (l.set i (l.getD j 0)).set j (l.getD i 0)
def drawStep (x : Int) : Int := (69621 * x + 7) % 2147483647
def drawGo : Nat → Int → List Int → List Int
  | 0, _, l => l
  | i + 1, x, l => drawGo i (drawStep x) (swapL l (i + 1) (drawStep x % (i + 2)).toNat)
def fillL (n k : Nat) : List Int := (List.range n).map fun i => if i < k then (i : Int) else 0
def drawL (number : Int) (n : Nat) : List Int := drawGo (n - 1) number (fillL n n)

theorem fillL_length (n k : Nat) : (fillL n k).length = n := by simp [fillL]
theorem fillL_zero (n : Nat) : fillL n 0 = List.replicate n 0 := by
  apply List.ext_getElem
  · simp [fillL]
  · intro i h1 h2; simp [fillL]
theorem fillL_set (n k : Nat) : (fillL n k).set k (k : Int) = fillL n (k + 1) := by
  apply List.ext_getElem
  · simp [fillL]
  · intro i h1 h2
    simp only [List.getElem_set, fillL, List.getElem_map, List.getElem_range]
    by_cases h : k = i
    · subst h; simp
    · rw [if_neg h]
      by_cases h3 : i < k
      · rw [if_pos h3, if_pos (by omega)]
      · rw [if_neg h3, if_neg (by omega)]
theorem swapL_length (l : List Int) (i j : Nat) : (swapL l i j).length = l.length := by simp [swapL]
theorem drawStep_bd (x : Int) : 0 ≤ drawStep x ∧ drawStep x ≤ 2147483646 := by unfold drawStep; omega
theorem drawGo_length (k : Nat) : ∀ (x : Int) (l : List Int), (drawGo k x l).length = l.length := by
  induction k with
  | zero => intro x l; rfl
  | succ k ih => intro x l; rw [drawGo, ih, swapL_length]

end Go.Proofs.YtoipafnlcchmbaaGreatDoor
namespace Go.Proofs.YtoipafnlcchmbaaGreatDoor
open Go.RowKit

theorem made_zero (n : Nat) : (madeCells (Value.int .i64 0).cells (n * 1)).toList = (List.replicate n (0 : Int)).map (Value.int .i64) := by
  simp [madeCells, Value.cells, Nat.mod_one]
  apply List.ext_getElem
  · simp
  · intro i h1 h2; simp

set_option maxHeartbeats 1000000 in
set_option maxRecDepth 100000 in
theorem draw_bad (number n : Int) (w : World) (hbad : drawE number n ≠ 0) :
    Calls Tryz.prog 18 #[.int .i64 number, .int .i64 n] w fun e w' => e = .returned (.tuple #[.slice none 0 0, .int .i64 (drawE number n)]) ∧ Below w.heap.size w w' := by
  obtain ⟨E, hE⟩ : ∃ E, E = drawE number n := ⟨_, rfl⟩
  rw [← hE] at hbad ⊢
  have HE := Lib.hid hE
  have h1 : (E != 0) = true := by simp [hbad]
  clear hE hbad
  go_enter Tryz.func18, Tryz.ntmps18
  go_wp2_with fail
  refine (within_any _ _ _ _).mono ?_
  rintro e w' ⟨rfl, rfl⟩
  go_wp2_with fail
  refine (within_any _ _ _ _).mono ?_
  rintro e w' ⟨rfl, rfl⟩
  go_wp2_with fail
  refine (first2 _ _ (withinE number 0 999999999) (withinE n 0 256) _ (by go_simp) (by go_simp)).mono ?_
  rw [show firstE [withinE number 0 999999999, withinE n 0 256] = E from HE.out.symm]
  rintro e w' ⟨rfl, rfl⟩
  go_wp2
  go_ret2
  exact ⟨rfl, (Below.refl _ _).alloc (Nat.le_refl _) _⟩

set_option maxHeartbeats 4000000 in
set_option maxRecDepth 100000 in
theorem draw_good (number : Int) (n : Nat) (w : World) (h1 : 0 ≤ number) (h2 : number ≤ 999999999) (h3 : n ≤ 256) :
    Calls Tryz.prog 18 #[.int .i64 number, .int .i64 n] w fun e w' => ∃ v, e = .returned (.tuple #[v, .int .i64 0]) ∧ OwnI w' w.heap.size v (drawL number n) ∧ Below w.heap.size w w' := by
  obtain ⟨i0, hi, hz0, hz1, hz2⟩ := info_parts infoInt
  have e1 : withinE number 0 999999999 = 0 := by unfold withinE; rw [if_neg (by omega)]
  have e2 : withinE (n : Int) 0 256 = 0 := by unfold withinE; rw [if_neg (by omega)]
  have E1 := Lib.hid e1
  have E2 := Lib.hid e2
  clear e1 e2
  go_enter Tryz.func18, Tryz.ntmps18
  go_wp2_with fail
  refine (within_any _ _ _ _).mono ?_
  rw [E1.out]
  rintro e w' ⟨rfl, rfl⟩
  go_wp2_with fail
  refine (within_any _ _ _ _).mono ?_
  rw [E2.out]
  rintro e w' ⟨rfl, rfl⟩
  go_wp2_with fail
  refine (first2 _ _ 0 0 _ (by go_simp) (by go_simp)).mono ?_
  rw [show firstE [0, 0] = 0 from rfl]
  rintro e w' ⟨rfl, rfl⟩
  go_wp2_with (at_make; refine wpList_make_full _ rfl _ _ 26 rfl (w.heap.size + 1) 3 i0 (.int .i64 0) 1 Tryz.underlying26 hi hz0 hz1 _ _ _ _ n rfl rfl rfl rfl (by rw [hz2]; omega) (by unfold maxLen; omega) (by simp) ?_; intro w1 hown hg1)
  have hown2 : OwnI w1 (w.heap.size + 1) (.slice (some ⟨w.heap.size + 1, 0, none⟩) n n) (fillL n 0) := by
    unfold OwnI
    rw [fillL_length, fillL_zero, ← made_zero]
    simpa using hown
  have hb1 : Below w.heap.size w w1 := Below.grown ((Below.refl _ _).alloc (Nat.le_refl _) _) hg1 (by simp) (fun k hk => by cases hk)
  clear hown hg1
  go_loopw [8, 24] (fun _ i wr => ∃ k : Nat, k ≤ n ∧ i = .int .i64 k ∧ OwnI wr (w.heap.size + 1) (.slice (some ⟨w.heap.size + 1, 0, none⟩) n n) (fillL n k) ∧ Below w.heap.size w wr) (fun _ i _ => n - (intOf i).toNat)
  case atStart => exact ⟨0, Nat.zero_le _, rfl, hown2, hb1⟩
  case round =>
    clear hown2 hb1
    obtain ⟨k, hk, rfl, hown, hbw⟩ := hrel
    by_cases hlt : k < n
    · have hs := hown.store k k
      rw [fillL_set] at hs
      have hcell := hown.parts.2.2.1 k hlt
      have hfz := hown.parts.2.2.2 k
      obtain ⟨u, hu⟩ : ∃ u, u = (fillL n k).getD k 0 := ⟨_, rfl⟩
      rw [← hu] at hcell
      clear hu
      have HS := Lib.hid hs
      have HB := Lib.hid hbw
      clear hs hown hbw
      go_wp2
      go_roundw
      case rel => exact ⟨k + 1, by omega, by go_num, HS.out, HB.out.setCell (by simp) _⟩
      case measure => simp [intOf]; omega
    · obtain rfl : k = n := by omega
      have HB := Lib.hid hbw
      have HO := Lib.hid hown
      clear hbw hown
      go_wp2
      clear hk hlt
      go_loopw [9, 10, 11] (fun x i _ wr => ∃ (xx ii : Int) (l : List Int), x = .int .i64 xx ∧ i = .int .i64 ii ∧ -1 ≤ ii ∧ ii < k ∧ 0 ≤ xx ∧ xx ≤ 2147483646 ∧ Hid (l.length = k) ∧ Hid (drawGo ii.toNat xx l = drawL number k) ∧ OwnI wr (w.heap.size + 1) (.slice (some ⟨w.heap.size + 1, 0, none⟩) k k) l ∧ Below w.heap.size w wr) (fun _ i _ _ => (intOf i).toNat)
      case atStart => exact ⟨_, _, _, rfl, rfl, by omega, by omega, by omega, by omega, fillL_length k k, (by show _ = _; unfold drawL; rw [show ((k : Int) - 1).toNat = k - 1 from by omega]), HO.out, HB.out⟩
      case round =>
        clear HO HB
        obtain ⟨xx, ii, l, rfl, rfl, a1, a2, a3, a4, hl, hd, hown, hbw⟩ := hrel
        by_cases hpos : 0 < ii
        · obtain ⟨m, rfl⟩ : ∃ m : Nat, ii = (m : Int) + 1 := ⟨(ii - 1).toNat, by omega⟩
          have hj0 : 0 ≤ (69621 * xx + 7) % 2147483647 % ((m : Int) + 1 + 1) := Int.emod_nonneg _ (by omega)
          have hj1 : (69621 * xx + 7) % 2147483647 % ((m : Int) + 1 + 1) < (m : Int) + 1 + 1 := Int.emod_lt_of_pos _ (by omega)
          have HO := Lib.hid hown
          have HB := Lib.hid hbw
          clear hown hbw
          have hlen : m + 1 < l.length := by have := hl.out; omega
          go_wp2_with fail
          obtain ⟨x2, hx2⟩ : ∃ x2, x2 = drawStep xx := ⟨_, rfl⟩
          have hb2 := drawStep_bd xx
          rw [← hx2] at hb2
          rw [show (69621 * xx + 7) % 2147483647 = x2 from hx2.symm] at hj0 hj1
          simp only [show (69621 * xx + 7) % 2147483647 = x2 from hx2.symm]
          have HX := Lib.hid hx2
          clear hx2
          obtain ⟨j, hj⟩ : ∃ j : Nat, x2 % ((m : Int) + 1 + 1) = (j : Int) := ⟨(x2 % ((m : Int) + 1 + 1)).toNat, by omega⟩
          rw [hj] at hj0 hj1 ⊢
          have HJ := Lib.hid hj
          clear hj hj0
          have c1 := HO.out.parts.2.2.1 (m + 1) (by omega)
          have c2 := HO.out.parts.2.2.1 j (by omega)
          have f1 := HO.out.parts.2.2.2 (m + 1)
          have f2 := HO.out.parts.2.2.2 j
          obtain ⟨u, hu⟩ : ∃ u, u = l.getD (m + 1) 0 := ⟨_, rfl⟩
          obtain ⟨v, hv⟩ : ∃ v, v = l.getD j 0 := ⟨_, rfl⟩
          rw [← hu] at c1
          rw [← hv] at c2
          have HU := Lib.hid hu
          have HV := Lib.hid hv
          clear hu hv hlen
          obtain ⟨v', hy'⟩ := cell?_setCell_some (w := wr) (p := ⟨w.heap.size + 1, m + 1, none⟩) (x := .int .i64 v) (q := ⟨w.heap.size + 1, j, none⟩) (v := .int .i64 v) (by go_simp)
          obtain ⟨u', hz'⟩ := cell?_setCell_some (w := wr) (p := ⟨w.heap.size + 1, j, none⟩) (x := .int .i64 u) (q := ⟨w.heap.size + 1, m + 1, none⟩) (v := .int .i64 u) (by go_simp)
          have jk : (j : Int) < (k : Int) := by omega
          go_region
          go_wp2
          go_roundw
          case rel =>
            refine ⟨x2, m, swapL l (m + 1) j, rfl, (by first | rfl | go_num), by omega, by omega, by omega, by omega, ?_, ?_, ?_, ?_⟩
            · show _ = _
              rw [swapL_length]; exact hl.out
            · show _ = _
              rw [← hd.out, show ((m : Int) + 1).toNat = m + 1 from by omega, drawGo, ← HX.out, Int.toNat_natCast]
              rw [show x2 % ((m : Int) + 2) = (j : Int) from HJ.out]
              rfl
            · have := (HO.out.store (m + 1) v).store j u
              rw [HU.out, HV.out] at this
              rw [HU.out, HV.out]
              exact this
            · exact ((HB.out.setCell (p := ⟨w.heap.size + 1, m + 1, none⟩) (Nat.le_succ _) _).setCell (p := ⟨w.heap.size + 1, j, none⟩) (Nat.le_succ _) _).drew
          case measure => simp [intOf]
        · go_wp2
          go_ret2
          have h0 : ii.toNat = 0 := by omega
          have := hd.out
          rw [h0] at this
          rw [← this]
          exact ⟨_, rfl, hown.mono (by omega), hbw⟩

def upL (k : Nat) : List Int := (List.range k).map fun i : Nat => (i : Int)
theorem upL_length (k : Nat) : (upL k).length = k := by simp [upL]
theorem upL_succ (k : Nat) : upL (k + 1) = upL k ++ [(k : Int)] := by simp [upL, List.range_succ]
theorem upL_fill (n : Nat) : upL n = fillL n n := by
  apply List.ext_getElem
  · simp [upL, fillL]
  · intro i h1 h2
    simp only [upL_length] at h1
    simp [upL, fillL, h1]

set_option maxHeartbeats 4000000 in
set_option maxRecDepth 100000 in
theorem refDraw_any (number : Int) (n : Nat) (w : World) (h1 : 0 ≤ number) (h2 : number ≤ 999999999) (h3 : n ≤ 256) :
    Calls Tryz.prog 20 #[.int .i64 number, .int .i64 n] w fun e w' => ∃ v, e = .returned v ∧ OwnI w' w.heap.size v (drawL number n) ∧ Below w.heap.size w w' := by
  obtain ⟨i0, hi, hz0, hz1, hz2⟩ := info_parts infoInt
  go_enter Tryz.func20, Tryz.ntmps20
  go_wp2
  go_loopw [5, 6] (fun v i wr => ∃ k : Nat, k ≤ n ∧ i = .int .i64 k ∧ OwnI wr w.heap.size v (upL k) ∧ Below w.heap.size w wr) (fun _ i _ => n - (intOf i).toNat)
  case atStart => exact ⟨0, Nat.zero_le _, rfl, OwnI.nil _ _, Below.refl _ _⟩
  case round =>
    obtain ⟨k, hk, rfl, hown, hbw⟩ := hrel
    by_cases hlt : k < n
    · have hown0 : wr.ownsRow w.heap.size 3 1 u5 k ((upL k).map (Value.int .i64)) := by have := hown; unfold OwnI at this; rwa [upL_length] at this
      have hsz := hbw.size
      have HB := Lib.hid hbw
      clear hown hbw
      go_wp2_with (at_builtin; refine wpList_append_own _ rfl _ _ 26 rfl w.heap.size 3 i0 (.int .i64 0) 1 8 Tryz.underlying26 hi hz0 hz1 hz2 rfl (by decide) _ _ _ rfl (World.ownsRow.alloc hown0 _) ⟨wr.heap.size, 0, none⟩ 1 1 [.int .i64 k] rfl rfl (cell_one_new _ _ _) (by simp [Value.oneCell']) (by unfold maxLen; omega) (by omega) (by simp; omega) ?_; intro v' w1 hown' hgrow _)
      have R : OwnI w1 w.heap.size v' (upL (k + 1)) := by
        unfold OwnI
        rw [upL_length, upL_succ, List.map_append]
        exact hown'
      have B1 : Below w.heap.size w w1 := Below.grown (HB.out.alloc (by omega) _) hgrow (by simp; omega) (fun j hj => (hown0.lt j hj).1)
      clear hown' hgrow hown0
      go_wp2
      go_roundw
      case rel => exact ⟨k + 1, by omega, by go_num, R, B1⟩
      case measure => simp [intOf]; omega
    · obtain rfl : k = n := by omega
      rw [upL_fill] at hown
      have HO := Lib.hid hown
      have HB := Lib.hid hbw
      clear hown hbw hk hlt
      go_wp2
      go_loopw [7, 8, 9, 10, 11] (fun x i _ _ _ wr => ∃ (xx ii : Int) (l : List Int), x = .int .i64 xx ∧ i = .int .i64 ii ∧ -1 ≤ ii ∧ ii < k ∧ 0 ≤ xx ∧ xx ≤ 2147483646 ∧ Hid (l.length = k) ∧ Hid (drawGo ii.toNat xx l = drawL number k) ∧ OwnI wr w.heap.size u5 l ∧ Below w.heap.size w wr) (fun _ i _ _ _ _ => (intOf i).toNat)
      case atStart => exact ⟨_, _, _, rfl, rfl, by omega, by omega, by omega, by omega, fillL_length k k, (by show _ = _; unfold drawL; rw [show ((k : Int) - 1).toNat = k - 1 from by omega]), HO.out, HB.out⟩
      case round =>
        clear HO HB
        obtain ⟨xx, ii, l, rfl, rfl, a1, a2, a3, a4, hl, hd, hown, hbw⟩ := hrel
        by_cases hpos : 0 < ii
        · obtain ⟨m, rfl⟩ : ∃ m : Nat, ii = (m : Int) + 1 := ⟨(ii - 1).toNat, by omega⟩
          have hj0 : 0 ≤ (69621 * xx + 7) % 2147483647 % ((m : Int) + 1 + 1) := Int.emod_nonneg _ (by omega)
          have hj1 : (69621 * xx + 7) % 2147483647 % ((m : Int) + 1 + 1) < (m : Int) + 1 + 1 := Int.emod_lt_of_pos _ (by omega)
          rcases hown.form with ⟨rfl, hl0⟩ | ⟨g, cap, rfl, hg0, hg, _⟩
          · have := hl.out; rw [hl0] at this; simp at this; omega
          have HO := Lib.hid hown
          have HB := Lib.hid hbw
          clear hown hbw
          have hlen : m + 1 < l.length := by have := hl.out; omega
          have hll : (l.length : Int) = (k : Int) := by have := hl.out; omega
          have HLL := Lib.hid hll
          have hl1 : (m : Int) + 1 < (l.length : Int) := by omega
          have hl2 : l.length ≤ 256 := by omega
          clear hll
          go_wp2_with fail
          obtain ⟨x2, hx2⟩ : ∃ x2, x2 = drawStep xx := ⟨_, rfl⟩
          have hb2 := drawStep_bd xx
          rw [← hx2] at hb2
          rw [show (69621 * xx + 7) % 2147483647 = x2 from hx2.symm] at hj0 hj1
          simp only [show (69621 * xx + 7) % 2147483647 = x2 from hx2.symm]
          have HX := Lib.hid hx2
          clear hx2
          obtain ⟨j, hj⟩ : ∃ j : Nat, x2 % ((m : Int) + 1 + 1) = (j : Int) := ⟨(x2 % ((m : Int) + 1 + 1)).toNat, by omega⟩
          rw [hj] at hj0 hj1 ⊢
          have HJ := Lib.hid hj
          clear hj hj0
          have jk : (j : Int) < (l.length : Int) := by omega
          have c1 := HO.out.parts.2.2.1 (m + 1) (by omega)
          have c2 := HO.out.parts.2.2.1 j (by omega)
          have f1 := HO.out.parts.2.2.2 (m + 1)
          have f2 := HO.out.parts.2.2.2 j
          obtain ⟨u, hu⟩ : ∃ u, u = l.getD (m + 1) 0 := ⟨_, rfl⟩
          obtain ⟨v, hv⟩ : ∃ v, v = l.getD j 0 := ⟨_, rfl⟩
          rw [← hu] at c1
          rw [← hv] at c2
          have HU := Lib.hid hu
          have HV := Lib.hid hv
          clear hu hv hlen
          go_quiet (fail)
          generalize hW : wr.drewN _ = W
          have c1' : W.cell? ⟨g, m + 1, none⟩ = some (.int .i64 u) := by rw [← hW]; exact c1
          have c2' : W.cell? ⟨g, j, none⟩ = some (.int .i64 v) := by rw [← hW]; exact c2
          have f1' : W.frozen? ⟨g, m + 1, none⟩ = false := by rw [← hW]; exact f1
          have f2' : W.frozen? ⟨g, j, none⟩ = false := by rw [← hW]; exact f2
          have HO' : Hid (OwnI W w.heap.size (.slice (some ⟨g, 0, none⟩) l.length cap) l) := by rw [← hW]; exact HO.out.drewN _
          have HB' : Hid (Below w.heap.size w W) := by rw [← hW]; exact below_drewN' HB.out _
          clear hW c1 c2 f1 f2
          obtain ⟨v', hy'⟩ := cell?_setCell_some (w := W) (p := ⟨g, m + 1, none⟩) (x := .int .i64 v) (q := ⟨g, j, none⟩) (v := .int .i64 v) (by go_simp)
          go_wp2
          go_roundw
          case rel =>
            refine ⟨x2, m, swapL l (m + 1) j, rfl, (by first | rfl | go_num), by omega, by omega, by omega, by omega, ?_, ?_, ?_, ?_⟩
            · show _ = _
              rw [swapL_length]; exact hl.out
            · show _ = _
              rw [← hd.out, show ((m : Int) + 1).toNat = m + 1 from by omega, drawGo, ← HX.out]
              rw [show x2 % ((m : Int) + 2) = (j : Int) from HJ.out]
              rfl
            · have := (HO'.out.store (m + 1) v).store j u
              rw [HU.out, HV.out] at this
              rw [HU.out, HV.out]
              exact this
            · exact (HB'.out.setCell (p := ⟨g, m + 1, none⟩) hg0 _).setCell (p := ⟨g, j, none⟩) hg0 _
          case measure => simp [intOf]
        · go_wp2
          go_ret
          have h0 : ii.toNat = 0 := by omega
          have := hd.out
          rw [h0] at this
          rw [← this]
          exact ⟨_, rfl, hown.mono (by omega), hbw⟩

end Go.Proofs.YtoipafnlcchmbaaGreatDoor
namespace Go.Proofs.YtoipafnlcchmbaaGreatDoor
open Go.RowKit

def stepAt : Nat → Int
  | 0 => 10 | 1 => 13 | 2 => 16 | 3 => 20 | 4 => 25 | 5 => 32 | 6 => 40 | 7 => 50 | 8 => 63 | _ => 79
theorem stepAt_bd (i : Nat) : 10 ≤ stepAt i ∧ stepAt i ≤ 79 := by unfold stepAt; split <;> omega

/-- The table of the program lies in its variable. -/
def Steps (w : World) : Prop := ∀ i, i < 10 → w.cell? ⟨0, i, none⟩ = some (.int .i64 (stepAt i))
theorem Steps.keep {w w' : World} (h : Steps w) (hb : Below w.heap.size w w') : Steps w' := fun i hi => by
  rw [hb.cell (p := ⟨0, i, none⟩) (World.block_lt_of_cell? _ _ (h i hi))]
  exact h i hi
theorem Steps.alloc {w : World} (h : Steps w) (o : Obj) : Steps (w.alloc o) := h.keep ((Below.refl _ _).alloc (Nat.le_refl _) _)
theorem Steps.drew {w : World} (h : Steps w) : Steps w.drew := h
theorem Steps.drewN {w : World} (h : Steps w) (n : Nat) : Steps (w.drewN n) := h

def mul10 (s : Int) : Nat → Int
  | 0 => s
  | j + 1 => mul10 s j * 10
theorem mul10_bd (s : Int) (h0 : 10 ≤ s) (h1 : s ≤ 79) (j : Nat) (hj : j ≤ 12) : 10 ≤ mul10 s j ∧ mul10 s j ≤ 79000000000000 := by
  match j, hj with
  | 0, _ => simp only [mul10]; omega
  | 1, _ => simp only [mul10]; omega
  | 2, _ => simp only [mul10]; omega
  | 3, _ => simp only [mul10]; omega
  | 4, _ => simp only [mul10]; omega
  | 5, _ => simp only [mul10]; omega
  | 6, _ => simp only [mul10]; omega
  | 7, _ => simp only [mul10]; omega
  | 8, _ => simp only [mul10]; omega
  | 9, _ => simp only [mul10]; omega
  | 10, _ => simp only [mul10]; omega
  | 11, _ => simp only [mul10]; omega
  | 12, _ => simp only [mul10]; omega
theorem mul10_ge (s : Int) (h0 : 10 ≤ s) (j : Nat) : 10 ≤ mul10 s j := by
  induction j with
  | zero => exact h0
  | succ j ih => rw [mul10]; omega
/-- The threshold of a level. -/
def thr (k : Nat) : Int := mul10 (stepAt (k % 10)) (k / 10)
theorem thr_bd (k : Nat) (hk : k ≤ 121) : 10 ≤ thr k ∧ thr k ≤ 79000000000000 := mul10_bd _ (stepAt_bd _).1 (stepAt_bd _).2 _ (by omega)
theorem thr_ten (k : Nat) : thr (k + 10) = thr k * 10 := by
  unfold thr
  rw [show (k + 10) % 10 = k % 10 from by omega, show (k + 10) / 10 = k / 10 + 1 from by omega]
  rfl
theorem thr_succ (k : Nat) : thr k < thr (k + 1) := by
  induction k using Nat.strongRecOn with
  | _ k ih =>
    by_cases h : k < 10
    · match k, h with
      | 0, _ => decide
      | 1, _ => decide
      | 2, _ => decide
      | 3, _ => decide
      | 4, _ => decide
      | 5, _ => decide
      | 6, _ => decide
      | 7, _ => decide
      | 8, _ => decide
      | 9, _ => decide
    · obtain ⟨m, rfl⟩ : ∃ m, k = m + 10 := ⟨k - 10, by omega⟩
      rw [show m + 10 + 1 = (m + 1) + 10 from by omega, thr_ten, thr_ten]
      have := ih m (by omega)
      omega
theorem thr_lt {a b : Nat} (h : a < b) : thr a < thr b := by
  induction b with
  | zero => omega
  | succ b ih =>
    by_cases hab : a = b
    · subst hab; exact thr_succ a
    · have := ih (by omega); have := thr_succ b; omega
theorem thr_le {a b : Nat} (h : a ≤ b) : thr a ≤ thr b := by
  rcases Nat.lt_or_ge a b with h1 | h1
  · exact Int.le_of_lt (thr_lt h1)
  · rw [show a = b from by omega]; exact Int.le_refl _

set_option maxHeartbeats 1000000 in
theorem threshold_any (k : Nat) (w : World) (hk : k ≤ 121) (hs : Steps w) :
    Calls Tryz.prog 116 #[.int .i64 k] w fun e w' => e = .returned (.int .i64 (thr k)) ∧ w = w' := by
  have hc := hs (k % 10) (by omega)
  have hbd := stepAt_bd (k % 10)
  obtain ⟨s, hS⟩ : ∃ s, s = stepAt (k % 10) := ⟨_, rfl⟩
  rw [← hS] at hc hbd
  obtain ⟨b1, b2⟩ := hbd
  have HS := Lib.hid hS
  clear hS
  have HH := Lib.hid hs
  clear hs
  have m1 : (k : Int) % 10 < 10 := by omega
  go_enter Tryz.func116, Tryz.ntmps116
  go_wp2
  go_loop [3, 10] (fun n i => ∃ j : Nat, j ≤ k / 10 ∧ i = .int .i64 j ∧ n = .int .i64 (mul10 s j)) (fun _ i => k / 10 - (intOf i).toNat)
  case atStart => exact ⟨0, Nat.zero_le _, rfl, rfl⟩
  case round =>
    obtain ⟨j, hj, rfl, rfl⟩ := hrel
    have hbd := mul10_bd s b1 b2 j (by omega)
    obtain ⟨d1, d2⟩ := hbd
    by_cases hlt : j < k / 10
    · have hlt' : (j : Int) < (k : Int) / 10 := by omega
      go_wp2
      go_round
      case rel => exact ⟨j + 1, by omega, by go_num, rfl⟩
      case measure => simp [intOf]; omega
    · have hlt' : ¬ (j : Int) < (k : Int) / 10 := by omega
      go_wp2
      go_ret
      obtain rfl : j = k / 10 := by omega
      exact ⟨ret_int (by rw [HS.out]; rfl), rfl⟩

theorem ret10 (s : Int) (j : Nat) : Value.int .i64 (10 * mul10 s j) = .int .i64 (mul10 s (j + 1)) := by
  rw [mul10, Int.mul_comm]

set_option maxHeartbeats 1000000 in
theorem refThreshold_any (k : Nat) (w : World) (hk : k ≤ 121) :
    Calls Tryz.prog 39 #[.int .i64 k] w fun e w' => e = .returned (.int .i64 (thr k)) ∧ Below w.heap.size w w' := by
  have hbd := stepAt_bd (k % 10)
  obtain ⟨s, hS⟩ : ∃ s, s = stepAt (k % 10) := ⟨_, rfl⟩
  rw [← hS] at hbd
  obtain ⟨b1, b2⟩ := hbd
  have m1 : (k : Int) % 10 < 10 := by omega
  have hc : ∀ W : World, (W.alloc (.cells #[.int .i64 10, .int .i64 13, .int .i64 16, .int .i64 20, .int .i64 25, .int .i64 32, .int .i64 40, .int .i64 50, .int .i64 63, .int .i64 79] 3)).cell? ⟨W.heap.size, k % 10, none⟩ = some (.int .i64 s) := by
    intro W
    rw [hS]
    have h10 : k % 10 < 10 := by omega
    generalize k % 10 = i at h10
    rw [World.cell?_alloc_new]
    match i, h10 with
    | 0, _ => rfl
    | 1, _ => rfl
    | 2, _ => rfl
    | 3, _ => rfl
    | 4, _ => rfl
    | 5, _ => rfl
    | 6, _ => rfl
    | 7, _ => rfl
    | 8, _ => rfl
    | 9, _ => rfl
  have HS := Lib.hid hS
  clear hS
  go_enter Tryz.func39, Tryz.ntmps39
  go_wp2
  go_loop [4, 5] (fun n i => ∃ j : Nat, j ≤ k / 10 ∧ i = .int .i64 j ∧ n = .int .i64 (mul10 s j)) (fun _ i => k / 10 - (intOf i).toNat)
  case atStart => exact ⟨0, Nat.zero_le _, rfl, rfl⟩
  case round =>
    obtain ⟨j, hj, rfl, rfl⟩ := hrel
    have hbd := mul10_bd s b1 b2 j (by omega)
    obtain ⟨d1, d2⟩ := hbd
    by_cases hlt : j < k / 10
    · have hlt' : (j : Int) < (k : Int) / 10 := by omega
      go_wp2
      go_round
      case rel => exact ⟨j + 1, by omega, by go_num, ret10 s j⟩
      case measure => simp [intOf]; omega
    · have hlt' : ¬ (j : Int) < (k : Int) / 10 := by omega
      go_wp2
      go_ret
      obtain rfl : j = k / 10 := by omega
      exact ⟨ret_int (by rw [HS.out]; rfl), (Below.refl _ _).alloc (Nat.le_refl _) _⟩

/-! The binary search of the library, for a closure that captures one variable. -/
set_option maxHeartbeats 1000000 in
set_option maxRecDepth 100000 in
theorem search_any (F : FuncId) (cap : Value) (p : Nat → Bool) (n : Nat) (w : World) (hn : n ≤ 1000000)
    (hE : ∀ (args : Array Value) (W : World), (callFunc F args).run Tryz.prog W = .ok (.enter F args) W)
    (hF : ∀ (k q : Nat), k < n → Calls Tryz.prog F #[.int .i64 k, cap] (w.drewN q) fun e w' => e = .returned (.bool (p k)) ∧ ∃ q', w' = w.drewN q') :
    Calls Tryz.prog 114 #[.int .i64 n, .func (.func F) #[] #[cap]] w fun e w' => ∃ r : Nat, e = .returned (.int .i64 r) ∧ r ≤ n ∧ (0 < r → p (r - 1) = false) ∧ (r < n → p r = true) ∧ ∃ q, w' = w.drewN q := by
  have HF := Lib.hid hF
  clear hF
  go_enter Tryz.func114, Tryz.ntmps114
  go_wp2
  go_loopw [5, 6, 7] (fun i j _ wr => ∃ a b : Nat, i = .int .i64 a ∧ j = .int .i64 b ∧ a ≤ b ∧ b ≤ n ∧ Hid (0 < a → p (a - 1) = false) ∧ Hid (b < n → p b = true) ∧ ∃ q, wr = w.drewN q) (fun i j _ _ => (intOf j - intOf i).toNat)
  case atStart => exact ⟨0, n, rfl, rfl, Nat.zero_le _, Nat.le_refl _, (fun h => by omega), (fun h => by omega), 0, rfl⟩
  case round =>
    obtain ⟨a, b, rfl, rfl, hab, hbn, h1, h2, q, rfl⟩ := hrel
    by_cases hlt : a < b
    · go_wp2_with fail
      obtain ⟨m, hm⟩ : ∃ m : Nat, ((a : Int) + (b : Int)) / 2 = (m : Int) := ⟨(a + b) / 2, by omega⟩
      have m1 : a ≤ m := by omega
      have m2 : m < b := by omega
      rw [hm]
      clear hm
      refine (HF.out m q (by omega)).mono ?_
      rintro e w' ⟨rfl, q', rfl⟩
      obtain ⟨v, hv⟩ : ∃ v, v = p m := ⟨_, rfl⟩
      rw [← hv]
      have HV := Lib.hid hv
      clear hv
      cases v
      · go_wp2
        go_roundw
        case rel => exact ⟨m + 1, b, by go_num, rfl, by omega, hbn, (fun _ => by rw [Nat.add_sub_cancel]; exact HV.out.symm), h2, q', rfl⟩
        case measure => simp [intOf]; omega
      · go_wp2
        go_roundw
        case rel => exact ⟨a, m, rfl, rfl, by omega, by omega, h1, (fun _ => HV.out.symm), q', rfl⟩
        case measure => simp [intOf]; omega
    · go_wp2
      go_ret
      obtain rfl : a = b := by omega
      exact ⟨a, rfl, hbn, h1.out, h2.out, q, rfl⟩

def levelE (e : Int) : Int → Prop := fun k => (k = -1 ∧ e < 10) ∨ ∃ m : Nat, k = m ∧ m ≤ 120 ∧ thr m ≤ e ∧ (m < 120 → e < thr (m + 1))
/-- The level of an energy. -/
def levelOf (e : Int) : Nat → Int
  | 0 => -1
  | k + 1 => if thr k ≤ e then (k : Int) else levelOf e k
def level (e : Int) : Int := levelOf e 121
theorem levelOf_none (e : Int) (k : Nat) (h : e < 10) : levelOf e k = -1 := by
  induction k with
  | zero => rfl
  | succ k ih => rw [levelOf, if_neg (by have : 10 ≤ thr k := (mul10_ge (stepAt (k % 10)) (stepAt_bd _).1 _); omega), ih]
theorem levelOf_is (e : Int) (m n : Nat) (h1 : thr m ≤ e) (h2 : ∀ j, m < j → j < n → e < thr j) (hm : m < n) : levelOf e n = m := by
  induction n with
  | zero => omega
  | succ n ih =>
    rw [levelOf]
    by_cases hmn : m = n
    · subst hmn; rw [if_pos h1]
    · rw [if_neg (by have := h2 n (by omega) (by omega); omega)]
      exact ih (fun j h3 h4 => h2 j h3 (by omega)) (by omega)
theorem level_is (e : Int) (m : Nat) (hm : m ≤ 120) (h1 : thr m ≤ e) (h2 : m < 120 → e < thr (m + 1)) : level e = m :=
  levelOf_is e m 121 h1 (fun j h3 h4 => by have := h2 (by omega); have := thr_le (show m + 1 ≤ j from h3); omega) (by omega)
theorem level_none (e : Int) (h : e < 10) : level e = -1 := levelOf_none e 121 h

theorem enters_level1 (args : Array Value) (W : World) : (callFunc 115 args).run Tryz.prog W = .ok (.enter 115 args) W := by kernel_rfl

def gtB (k : Nat) (e : Int) : Bool := decide (e < thr k)

set_option maxHeartbeats 1000000 in
theorem level1_any (k : Nat) (e : Int) (g : Nat) (w : World) (hk : k ≤ 121) (hs : Steps w) (hc : w.cell? ⟨g, 0, none⟩ = some (.int .i64 e)) :
    Calls Tryz.prog 115 #[.int .i64 k, .pointer (some ⟨g, 0, none⟩)] w fun x w' => x = .returned (.bool (gtB k e)) ∧ ∃ q, w' = w.drewN q := by
  have HS := Lib.hid hs
  clear hs
  obtain ⟨t, ht⟩ : ∃ t, t = thr k := ⟨_, rfl⟩
  have HT := Lib.hid ht
  clear ht
  obtain ⟨b, hb⟩ : ∃ b, b = decide (e < t) := ⟨_, rfl⟩
  have HB := Lib.hid hb
  clear hb
  go_enter Tryz.func115, Tryz.ntmps115
  go_wp2
  go_quiet ((go_at_call 116; exact Calls.quiet_of_same ((threshold_any k _ hk (HS.out.drewN _)).mono (fun _ _ h => ⟨h.1, h.2.symm⟩))))
  go_wp2
  go_ret
  exact ⟨rfl, _, rfl⟩

end Go.Proofs.YtoipafnlcchmbaaGreatDoor
namespace Go.Proofs.YtoipafnlcchmbaaGreatDoor
open Go.RowKit

theorem ret_int2 {k k' : IntKind} {a b c d : Int} (h : a = b) (h2 : c = d) : Ending.returned (.tuple #[.int k a, .int k' c]) = .returned (.tuple #[.int k b, .int k' d]) := by rw [h, h2]

theorem withinE_of {n low high : Int} (h1 : low ≤ n) (h2 : n ≤ high) : withinE n low high = 0 := by unfold withinE; rw [if_neg (by omega)]
theorem withinE_bad {n low high : Int} (h : ¬ (low ≤ n ∧ n ≤ high)) : withinE n low high = 3 := by unfold withinE; rw [if_pos (by omega)]

/-- Threshold's result. -/
def thresholdR (k : Int) : Int := if 0 ≤ k ∧ k ≤ 120 then thr k.toNat else 0

set_option maxHeartbeats 1000000 in
theorem Threshold_any (k : Int) (w : World) (hs : Steps w) :
    Calls Tryz.prog 33 #[.int .i64 k] w fun e w' => e = .returned (.tuple #[.int .i64 (thresholdR k), .int .i64 (withinE k 0 120)]) ∧ w = w' := by
  have HS := Lib.hid hs
  clear hs
  by_cases h : 0 ≤ k ∧ k ≤ 120
  · have e1 := Lib.hid (withinE_of h.1 h.2)
    have e2 : Hid (thresholdR k = thr k.toNat) := by show _ = _; unfold thresholdR; rw [if_pos h]
    obtain ⟨m, rfl⟩ : ∃ m : Nat, k = m := ⟨k.toNat, by omega⟩
    rw [Int.toNat_natCast] at e2
    have hm : m ≤ 121 := by omega
    clear h
    rw [e1.out, e2.out]
    go_enter Tryz.func33, Tryz.ntmps33
    go_wp2_with fail
    refine (within_any _ _ _ _).mono ?_
    rw [e1.out]
    rintro e w' ⟨rfl, rfl⟩
    go_wp2_with fail
    refine (threshold_any m _ hm HS.out).mono ?_
    rintro e w' ⟨rfl, rfl⟩
    go_wp2
    go_ret2
    exact ⟨rfl, rfl⟩
  · have e1 := Lib.hid (withinE_bad h)
    have e2 : Hid (thresholdR k = 0) := by show _ = _; unfold thresholdR; rw [if_neg h]
    clear h
    rw [e1.out, e2.out]
    go_enter Tryz.func33, Tryz.ntmps33
    go_wp2_with fail
    refine (within_any _ _ _ _).mono ?_
    rw [e1.out]
    rintro e w' ⟨rfl, rfl⟩
    go_wp2
    go_ret2
    exact ⟨rfl, rfl⟩

/-- Level's result. -/
def levelR (e : Int) : Int := if 0 ≤ e ∧ e ≤ 10000000000000 then level e else 0

theorem gtB_true {k : Nat} {e : Int} (h : gtB k e = true) : e < thr k := by unfold gtB at h; simpa using h
theorem gtB_false {k : Nat} {e : Int} (h : gtB k e = false) : thr k ≤ e := by unfold gtB at h; simpa using h

theorem level_found (e : Int) (r : Nat) (hr : r ≤ 121) (h1 : 0 < r → gtB (r - 1) e = false) (h2 : r < 121 → gtB r e = true) : level e = (r : Int) - 1 := by
  by_cases h0 : r = 0
  · subst h0
    have := gtB_true (h2 (by omega))
    rw [level_none e (by simpa [thr, mul10, stepAt] using this)]; rfl
  · obtain ⟨m, rfl⟩ : ∃ m, r = m + 1 := ⟨r - 1, by omega⟩
    rw [level_is e m (by omega) (by have := gtB_false (h1 (by omega)); simpa using this) (fun hm => gtB_true (h2 (by omega)))]
    omega

set_option maxHeartbeats 1000000 in
set_option maxRecDepth 100000 in
theorem Level_any (e : Int) (w : World) (hs : Steps w) :
    Calls Tryz.prog 32 #[.int .i64 e] w fun x w' => x = .returned (.tuple #[.int .i64 (levelR e), .int .i64 (checkEnergyE e)]) ∧ Below w.heap.size w w' := by
  have HS := Lib.hid hs
  clear hs
  by_cases h : 0 ≤ e ∧ e ≤ 10000000000000
  · have e1 : Hid (checkEnergyE e = 0) := withinE_of h.1 h.2
    have e2 : Hid (levelR e = level e) := by show _ = _; unfold levelR; rw [if_pos h]
    rw [e1.out, e2.out]
    have hb1 := h.1
    have hb2 := h.2
    clear h
    go_enter Tryz.func32, Tryz.ntmps32
    go_wp2_with fail
    refine (checkEnergy_any _ _).mono ?_
    rw [e1.out]
    rintro x w' ⟨rfl, rfl⟩
    go_wp2_with fail
    refine (search_any 115 (.pointer (some ⟨w.heap.size, 0, none⟩)) (fun k => gtB k e) 121 _ (by omega) enters_level1 (fun k q hk => ?_)).mono ?_
    · refine (level1_any k e w.heap.size _ (by omega) ((HS.out.alloc _).drewN q) (by go_simp)).mono ?_
      rintro x w' ⟨rfl, q', rfl⟩
      exact ⟨rfl, q + q', World.drewN_drewN _ _ _⟩
    · rintro x w' ⟨r, rfl, hr, h1, h2, q, rfl⟩
      have hl := Lib.hid (level_found e r hr h1 h2)
      clear h1 h2
      go_wp2
      go_ret2
      exact ⟨ret_int2 hl.out.symm rfl, below_drewN' ((Below.refl _ _).alloc (Nat.le_refl _) _) _⟩
  · have e1 : Hid (checkEnergyE e = 3) := withinE_bad h
    have e2 : Hid (levelR e = 0) := by show _ = _; unfold levelR; rw [if_neg h]
    clear h
    rw [e1.out, e2.out]
    go_enter Tryz.func32, Tryz.ntmps32
    go_wp2_with fail
    refine (checkEnergy_any _ _).mono ?_
    rw [e1.out]
    rintro x w' ⟨rfl, rfl⟩
    go_wp2
    go_ret2
    exact ⟨rfl, (Below.refl _ _).alloc (Nat.le_refl _) _⟩

/-- Range's result. -/
def rangeLow (k : Int) : Int := if -1 < k then thr k.toNat else 0
def rangeHigh (k : Int) : Int := if k < 120 then thr (k + 1).toNat - 1 else 10000000000000
def rangeR (k : Int) : Value := if -1 ≤ k ∧ k ≤ 120 then .agg #[.int .i64 (rangeLow k), .int .i64 (rangeHigh k)] else .agg #[.int .i64 0, .int .i64 0]

set_option maxHeartbeats 1000000 in
set_option maxRecDepth 100000 in
theorem Range_any (k : Int) (w : World) (hs : Steps w) :
    Calls Tryz.prog 34 #[.int .i64 k] w fun x w' => x = .returned (.tuple #[rangeR k, .int .i64 (withinE k (-1) 120)]) ∧ Below w.heap.size w w' := by
  have HS := Lib.hid hs
  clear hs
  by_cases h : -1 ≤ k ∧ k ≤ 120
  · have e1 := Lib.hid (withinE_of h.1 h.2)
    have e2 : Hid (rangeR k = .agg #[.int .i64 (rangeLow k), .int .i64 (rangeHigh k)]) := by show _ = _; unfold rangeR; rw [if_pos h]
    have hb1 := h.1
    have hb2 := h.2
    clear h
    rw [e1.out, e2.out]
    rcases (show (k = -1) ∨ (0 ≤ k ∧ k < 120) ∨ k = 120 from by omega) with rfl | ⟨c1, c2⟩ | rfl
    · go_enter Tryz.func34, Tryz.ntmps34
      go_wp2_with fail
      refine (within_any _ _ _ _).mono ?_
      rw [e1.out]
      rintro x w' ⟨rfl, rfl⟩
      go_wp2_with fail
      refine (threshold_any 0 _ (by omega) ((HS.out.alloc _).alloc _)).mono ?_
      rintro x w' ⟨rfl, rfl⟩
      have tb := thr_bd 0 (by omega)
      go_wp2
      refine bodyPost_ret (v := .tuple #[.agg #[.int .i64 (rangeLow (-1)), .int .i64 (rangeHigh (-1))], .int .i64 0]) (by simp [results, Tryz.results34, go_sem, rangeLow, rangeHigh]) rfl ⟨rfl, ?_⟩
      exact ((Below.refl _ _).alloc (Nat.le_refl _) _).alloc (by simp) _
    · obtain ⟨m, rfl⟩ : ∃ m : Nat, k = m := ⟨k.toNat, by omega⟩
      have hm : m ≤ 121 := by omega
      have hm1 : m + 1 ≤ 121 := by omega
      have r1 : Hid (rangeLow (m : Int) = thr m) := by show _ = _; unfold rangeLow; rw [if_pos (by omega), Int.toNat_natCast]
      have r2 : Hid (rangeHigh (m : Int) = thr (m + 1) - 1) := by show _ = _; unfold rangeHigh; rw [if_pos (by omega), show ((m : Int) + 1).toNat = m + 1 from by omega]
      rw [r1.out, r2.out]
      go_enter Tryz.func34, Tryz.ntmps34
      go_wp2_with fail
      refine (within_any _ _ _ _).mono ?_
      rw [e1.out]
      rintro x w' ⟨rfl, rfl⟩
      go_wp2_with fail
      refine (threshold_any m _ hm ((HS.out.alloc _).alloc _)).mono ?_
      rintro x w' ⟨rfl, rfl⟩
      go_wp2_with fail
      rw [show (m : Int) + 1 = ((m + 1 : Nat) : Int) from by omega]
      refine (threshold_any (m + 1) _ hm1 ((HS.out.alloc _).alloc _)).mono ?_
      rintro x w' ⟨rfl, rfl⟩
      have tb := thr_bd (m + 1) hm1
      obtain ⟨tb1, tb2⟩ := tb
      go_wp2
      refine bodyPost_ret (v := .tuple #[.agg #[.int .i64 (thr m), .int .i64 (thr (m + 1) - 1)], .int .i64 0]) (by simp [results, Tryz.results34, go_sem]) rfl ⟨rfl, ?_⟩
      exact ((Below.refl _ _).alloc (Nat.le_refl _) _).alloc (by simp) _
    · have r1 : Hid (rangeLow 120 = thr 120) := rfl
      have r2 : Hid (rangeHigh 120 = 10000000000000) := rfl
      rw [r1.out, r2.out]
      go_enter Tryz.func34, Tryz.ntmps34
      go_wp2_with fail
      refine (within_any _ _ _ _).mono ?_
      rw [e1.out]
      rintro x w' ⟨rfl, rfl⟩
      go_wp2_with fail
      refine (threshold_any 120 _ (by omega) ((HS.out.alloc _).alloc _)).mono ?_
      rintro x w' ⟨rfl, rfl⟩
      go_wp2
      refine bodyPost_ret (v := .tuple #[.agg #[.int .i64 (thr 120), .int .i64 10000000000000], .int .i64 0]) (by simp [results, Tryz.results34, go_sem]) rfl ⟨rfl, ?_⟩
      exact ((Below.refl _ _).alloc (Nat.le_refl _) _).alloc (by simp) _
  · have e1 := Lib.hid (withinE_bad h)
    have e2 : Hid (rangeR k = .agg #[.int .i64 0, .int .i64 0]) := by show _ = _; unfold rangeR; rw [if_neg h]
    clear h
    rw [e1.out, e2.out]
    go_enter Tryz.func34, Tryz.ntmps34
    go_wp2_with fail
    refine (within_any _ _ _ _).mono ?_
    rw [e1.out]
    rintro x w' ⟨rfl, rfl⟩
    go_wp2
    refine bodyPost_ret (v := .tuple #[.agg #[.int .i64 0, .int .i64 0], .int .i64 3]) (by simp [results, Tryz.results34, go_sem]) rfl ⟨rfl, ?_⟩
    exact (Below.refl _ _).alloc (Nat.le_refl _) _

/-! The reference. -/
/-- A block of cells, known whole. -/
def Blk (w : World) (g : Nat) (t : TypeId) (cs : Array Value) : Prop := w.heap[g]? = some (.cells cs t (0, 0))
theorem Blk.new (w : World) (t : TypeId) (cs : Array Value) : Blk (w.alloc (.cells cs t)) w.heap.size t cs := heap_alloc_new w _
theorem Blk.alloc {w : World} {g : Nat} {t : TypeId} {cs : Array Value} (h : Blk w g t cs) (o : Obj) : Blk (w.alloc o) g t cs := (Below.heap_alloc w o g (lt_of_block h)).trans h
theorem Blk.drew {w : World} {g : Nat} {t : TypeId} {cs : Array Value} (h : Blk w g t cs) : Blk w.drew g t cs := h
theorem Blk.drewN {w : World} {g : Nat} {t : TypeId} {cs : Array Value} (h : Blk w g t cs) (n : Nat) : Blk (w.drewN n) g t cs := h
theorem Blk.below {w w' : World} {g : Nat} {t : TypeId} {cs : Array Value} (h : Blk w g t cs) (hb : Below w.heap.size w w') : Blk w' g t cs := (hb.block g (lt_of_block h)).trans h
theorem Blk.cell {w : World} {g : Nat} {t : TypeId} {cs : Array Value} (h : Blk w g t cs) (i : Nat) : w.cell? ⟨g, i, none⟩ = cs[i]? := cell_of_row w g i cs t (0, 0) h
theorem Blk.frozen {w : World} {g : Nat} {t : TypeId} {cs : Array Value} (h : Blk w g t cs) (i : Nat) : w.frozen? ⟨g, i, none⟩ = false := by
  unfold Blk at h
  simp [World.frozen?, h]
theorem Blk.set_ {w : World} {g : Nat} {t : TypeId} {cs : Array Value} (h : Blk w g t cs) (i : Nat) (u : Value) : Blk (w.setCell ⟨g, i, none⟩ u) g t (cs.setIfInBounds i u) := by
  unfold Blk at h ⊢
  simp [World.setCell, Array.getElem?_modify, h]
theorem Blk.far {w : World} {g : Nat} {t : TypeId} {cs : Array Value} (h : Blk w g t cs) {p : Addr} (hp : g ≠ p.block) (u : Value) : Blk (w.setCell p u) g t cs := (Below.heap_setCell w p u g hp).trans h

set_option maxHeartbeats 1000000 in
set_option maxRecDepth 100000 in
theorem refRange_any (k : Int) (w : World) (h1 : -1 ≤ k) (h2 : k ≤ 120) :
    Calls Tryz.prog 40 #[.int .i64 k] w fun x w' => x = .returned (.agg #[.int .i64 (rangeLow k), .int .i64 (rangeHigh k)]) ∧ Below w.heap.size w w' := by
  rcases (show (k = -1) ∨ (0 ≤ k ∧ k < 120) ∨ k = 120 from by omega) with rfl | ⟨c1, c2⟩ | rfl
  · go_enter Tryz.func40, Tryz.ntmps40
    go_wp2_with fail
    refine (refThreshold_any 0 _ (by omega)).mono ?_
    rintro x w1 ⟨rfl, hb⟩
    have tb := thr_bd 0 (by omega)
    have B0 := ((Blk.new w _ _).alloc _).below hb
    have B1 := (Blk.new (w.alloc _) _ _).below hb
    simp only [World.size_alloc] at B1
    have xc0 := B0.cell 0; have xf0 := B0.frozen 0; have xc1 := B0.cell 1; have xf1 := B0.frozen 1
    simp only [List.getElem?_toArray, List.getElem?_cons_zero, List.getElem?_cons_succ] at xc0 xc1
    clear B0
    have yc0 := B1.cell 0; have yf0 := B1.frozen 0; have yc1 := B1.cell 1; have yf1 := B1.frozen 1
    simp only [List.getElem?_toArray, List.getElem?_cons_zero, List.getElem?_cons_succ] at yc0 yc1
    clear B1
    have HB := Lib.hid hb
    clear hb
    go_wp2
    refine bodyPost_ret (v := .agg #[.int .i64 (rangeLow (-1)), .int .i64 (rangeHigh (-1))]) (by simp [results, Tryz.results40, go_sem, rangeLow, rangeHigh, xc0, xc1]) rfl ⟨rfl, ?_⟩
    exact (((((Below.refl _ w).alloc (Nat.le_refl _) _).alloc (by simp) _).trans (HB.out.mono (by simp; omega))).setCell (p := ⟨w.heap.size + 1, 1, none⟩) (Nat.le_succ _) _ |>.setCell (p := ⟨w.heap.size, 0, none⟩) (Nat.le_refl _) _).setCell (p := ⟨w.heap.size, 1, none⟩) (Nat.le_refl _) _
  · obtain ⟨m, rfl⟩ : ∃ m : Nat, k = m := ⟨k.toNat, by omega⟩
    have hm : m ≤ 121 := by omega
    have hm1 : m + 1 ≤ 121 := by omega
    have r1 : Hid (rangeLow (m : Int) = thr m) := by show _ = _; unfold rangeLow; rw [if_pos (by omega), Int.toNat_natCast]
    have r2 : Hid (rangeHigh (m : Int) = thr (m + 1) - 1) := by show _ = _; unfold rangeHigh; rw [if_pos (by omega), show ((m : Int) + 1).toNat = m + 1 from by omega]
    rw [r1.out, r2.out]
    go_enter Tryz.func40, Tryz.ntmps40
    go_wp2_with fail
    refine (refThreshold_any m _ hm).mono ?_
    rintro x w1 ⟨rfl, hb⟩
    have B0 := ((Blk.new w _ _).alloc _).below hb
    have B1 := (Blk.new (w.alloc _) _ _).below hb
    simp only [World.size_alloc] at B1
    have B1' : Blk (w1.setCell ⟨w.heap.size + 1, 0, none⟩ (.int .i64 (thr m))) (w.heap.size + 1) _ #[.int .i64 (thr m), .int .i64 10000000000000] := B1.set_ 0 (.int .i64 (thr m))
    have B0' := B0.far (p := ⟨w.heap.size + 1, 0, none⟩) (by simp) (.int .i64 (thr m))
    have hz := hb.size
    simp only [World.size_alloc] at hz
    have HB := Lib.hid hb
    clear hb
    have xc0 := B0.cell 0; have xf0 := B0.frozen 0; have xc1 := B0.cell 1; have xf1 := B0.frozen 1
    simp only [List.getElem?_toArray, List.getElem?_cons_zero, List.getElem?_cons_succ] at xc0 xc1
    clear B0
    have yc0 := B1.cell 0; have yf0 := B1.frozen 0; have yc1 := B1.cell 1; have yf1 := B1.frozen 1
    simp only [List.getElem?_toArray, List.getElem?_cons_zero, List.getElem?_cons_succ] at yc0 yc1
    clear B1
    go_wp2_with fail
    clear xc0 xc1 xf0 xf1 yc0 yc1 yf0 yf1
    rw [show (m : Int) + 1 = ((m + 1 : Nat) : Int) from by omega]
    refine (refThreshold_any (m + 1) _ hm1).mono ?_
    rintro x w2 ⟨rfl, hb2⟩
    have C0 := B0'.below hb2
    have C1 := B1'.below hb2
    clear B0' B1'
    have HB2 := Lib.hid hb2
    clear hb2
    have tb := thr_bd (m + 1) hm1
    obtain ⟨tb1, tb2⟩ := tb
    have xc0 := C0.cell 0; have xf0 := C0.frozen 0; have xc1 := C0.cell 1; have xf1 := C0.frozen 1
    simp only [List.getElem?_toArray, List.getElem?_cons_zero, List.getElem?_cons_succ] at xc0 xc1
    clear C0
    have yc0 := C1.cell 0; have yf0 := C1.frozen 0; have yc1 := C1.cell 1; have yf1 := C1.frozen 1
    simp only [List.getElem?_toArray, List.getElem?_cons_zero, List.getElem?_cons_succ] at yc0 yc1
    clear C1
    go_wp2
    refine bodyPost_ret (v := .agg #[.int .i64 (thr m), .int .i64 (thr (m + 1) - 1)]) (by simp [results, Tryz.results40, go_sem, xc0, xc1]) rfl ⟨rfl, ?_⟩
    have G1 : Below w.heap.size w w1 := (((Below.refl _ w).alloc (Nat.le_refl _) _).alloc (by simp) _).trans (HB.out.mono (by simp; omega))
    have G2 := (G1.setCell (p := ⟨w.heap.size + 1, 0, none⟩) (Nat.le_succ _) (.int .i64 (thr m))).trans (HB2.out.mono (by have := G1.size; simp; omega))
    exact (((G2.setCell (p := ⟨w.heap.size + 1, 1, none⟩) (Nat.le_succ _) _).setCell (p := ⟨w.heap.size, 0, none⟩) (Nat.le_refl _) _)).setCell (p := ⟨w.heap.size, 1, none⟩) (Nat.le_refl _) _
  · go_enter Tryz.func40, Tryz.ntmps40
    go_wp2_with fail
    refine (refThreshold_any 120 _ (by omega)).mono ?_
    rintro x w1 ⟨rfl, hb⟩
    have B0 := ((Blk.new w _ _).alloc _).below hb
    have B1 := (Blk.new (w.alloc _) _ _).below hb
    simp only [World.size_alloc] at B1
    have xc0 := B0.cell 0; have xf0 := B0.frozen 0; have xc1 := B0.cell 1; have xf1 := B0.frozen 1
    simp only [List.getElem?_toArray, List.getElem?_cons_zero, List.getElem?_cons_succ] at xc0 xc1
    clear B0
    have yc0 := B1.cell 0; have yf0 := B1.frozen 0; have yc1 := B1.cell 1; have yf1 := B1.frozen 1
    simp only [List.getElem?_toArray, List.getElem?_cons_zero, List.getElem?_cons_succ] at yc0 yc1
    clear B1
    have HB := Lib.hid hb
    clear hb
    go_wp2
    refine bodyPost_ret (v := .agg #[.int .i64 (rangeLow 120), .int .i64 (rangeHigh 120)]) (by simp [results, Tryz.results40, go_sem, rangeLow, rangeHigh, xc0, xc1]) rfl ⟨rfl, ?_⟩
    exact (((((Below.refl _ w).alloc (Nat.le_refl _) _).alloc (by simp) _).trans (HB.out.mono (by simp; omega))).setCell (p := ⟨w.heap.size + 1, 0, none⟩) (Nat.le_succ _) _ |>.setCell (p := ⟨w.heap.size, 0, none⟩) (Nat.le_refl _) _).setCell (p := ⟨w.heap.size, 1, none⟩) (Nat.le_refl _) _

end Go.Proofs.YtoipafnlcchmbaaGreatDoor
