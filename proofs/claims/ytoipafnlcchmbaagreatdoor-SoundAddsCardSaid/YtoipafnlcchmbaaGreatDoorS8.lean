/- SoundAdds, walked: the loop. -/
import Derived.Test.YtoipafnlcchmbaaGreatDoorQPx
import Derived.Test.YtoipafnlcchmbaaGreatDoorS0
import Derived.Test.YtoipafnlcchmbaaGreatDoorS3
import Derived.Test.YtoipafnlcchmbaaGreatDoorT1
import Derived.Test.YtoipafnlcchmbaaGreatDoorT4
import Derived.Test.YtoipafnlcchmbaaGreatDoorT5
import Derived.Test.YtoipafnlcchmbaaGreatDoorT6
import Derived.Deep.DeepCutAuto
namespace Go.Proofs.YtoipafnlcchmbaaGreatDoor
open Go.RowKit

def U32At (w : World) (A : Option Addr) (n : Nat) (zs : List Int) : Prop :=
  zs.length = n ∧ (0 < n → ∃ b off, A = some ⟨b, off, none⟩ ∧ ∀ i, i < n → w.cell? ⟨b, off + i, none⟩ = some (.int .u32 (zs.getD i 0)))
theorem U32At.keep {w w' : World} {A : Option Addr} {n : Nat} {zs : List Int} (h : U32At w A n zs) (hb : Below w.heap.size w w') : U32At w' A n zs := by
  refine ⟨h.1, fun hn => ?_⟩
  obtain ⟨b, off, rfl, hc⟩ := h.2 hn
  refine ⟨b, off, rfl, fun i hi => ?_⟩
  rw [hb.cell (p := ⟨b, off + i, none⟩) (World.block_lt_of_cell? _ _ (hc i hi))]
  exact hc i hi
def esL (xs : List Int) : List Int := xs.map fun x => x % 1000000001
def lvL (es : List Int) (k : Nat) : List Int := (es.take k).map level
def tkL (n0 : Int) (k : Nat) : List Int := (List.range k).map fun i : Nat => 1 + (n0 + (i : Int)) % 1000
def dayL (n1 : Int) (es : List Int) (k : Nat) : List (Int × Int) := (List.range k).map fun i : Nat => ((n1 + 9000 * (i : Int)) % 86400, es.getD i 0)
theorem lvL_succ (es : List Int) (k : Nat) (h : k < es.length) : lvL es (k + 1) = lvL es k ++ [level (es.getD k 0)] := by
  unfold lvL; rw [take_snocI es k h, List.map_append]; rfl
theorem tkL_succ (n0 : Int) (k : Nat) : tkL n0 (k + 1) = tkL n0 k ++ [1 + (n0 + (k : Int)) % 1000] := by simp [tkL, List.range_succ]
theorem dayL_succ (n1 : Int) (es : List Int) (k : Nat) : dayL n1 es (k + 1) = dayL n1 es k ++ [((n1 + 9000 * (k : Int)) % 86400, es.getD k 0)] := by simp [dayL, List.range_succ]
theorem lvL_len (es : List Int) (k : Nat) (h : k ≤ es.length) : (lvL es k).length = k := by simp [lvL]; omega
theorem tkL_len (n0 : Int) (k : Nat) : (tkL n0 k).length = k := by simp [tkL]
theorem dayL_len (n1 : Int) (es : List Int) (k : Nat) : (dayL n1 es k).length = k := by simp [dayL]

/-- The four rows of the loop: energies, ticks, levels, what is heard. -/
structure AddsR (M : Nat) (W0 wr : World) (es : List Int) (n0 n1 : Int) (k : Nat) (v5 v6 v7 v8 : Value) : Prop where
  all : OwnI wr M v5 (es.take k)
  tks : OwnI wr M v6 (tkL n0 k)
  lvs : OwnI wr M v7 (lvL es k)
  day : OwnH wr M v8 (dayL n1 es k)
  s57 : Sep v5 v7
  s56 : Sep v5 v6
  s76 : Sep v7 v6
  s58 : Sep v5 v8
  s78 : Sep v7 v8
  s68 : Sep v6 v8
  below : Below M W0 wr
theorem AddsR.go {M : Nat} {W0 wr w1 : World} {es : List Int} {n0 n1 : Int} {k : Nat} {v5 v6 v7 v8 : Value} (h : AddsR M W0 wr es n0 n1 k v5 v6 v7 v8) (hM : M ≤ W0.heap.size) (hb : Below wr.heap.size wr w1) : AddsR M W0 w1 es n0 n1 k v5 v6 v7 v8 where
  all := h.all.below hb
  tks := h.tks.below hb
  lvs := h.lvs.below hb
  day := ownsRow_block h.day (fun g hg => hb.block g (h.day.lt g hg).2)
  s57 := h.s57
  s56 := h.s56
  s76 := h.s76
  s58 := h.s58
  s78 := h.s78
  s68 := h.s68
  below := h.below.trans (hb.mono (Nat.le_trans hM h.below.size))

theorem own_nat {w : World} {M : Nat} {v : Value} {zs : List Int} (h : OwnI w M v zs) : w.ownsRow M 3 1 v (zs.map (Value.int .i64)).length (zs.map (Value.int .i64)) := by
  rw [List.length_map]; exact h
/-- The rows as the region of three appends finds them. -/
theorem AddsR.three {M : Nat} {W0 wr : World} {es : List Int} {n0 n1 : Int} {k : Nat} {v5 v6 v7 v8 : Value} (h : AddsR M W0 wr es n0 n1 k v5 v6 v7 v8) (hM : M ≤ W0.heap.size) (tx : Nat → Value) :
    Rs M 3 wr.drew wr.drew (tri v5 v7 v6) (tri v5 v7 v6) (tri ((es.take k).map (Value.int .i64)) ((lvL es k).map (Value.int .i64)) ((tkL n0 k).map (Value.int .i64))) (tri none none none) tx where
  own := fun i hi => by
    match i, hi with
    | 0, _ => exact own_nat h.all
    | 1, _ => exact own_nat h.lvs
    | 2, _ => exact own_nat h.tks
  sep := fun i j hi hj hij => by
    match i, hi, j, hj with
    | 0, _, 0, _ => exact absurd rfl hij
    | 0, _, 1, _ => exact h.s57
    | 0, _, 2, _ => exact h.s56
    | 1, _, 0, _ => exact h.s57.symm
    | 1, _, 1, _ => exact absurd rfl hij
    | 1, _, 2, _ => exact h.s76
    | 2, _, 0, _ => exact h.s56.symm
    | 2, _, 1, _ => exact h.s76.symm
    | 2, _, 2, _ => exact absurd rfl hij
  tmp := fun i g hi hg => by
    match i, hi with
    | 0, _ => cases hg
    | 1, _ => cases hg
    | 2, _ => cases hg
  below := Below.refl _ _
  base := Nat.le_trans hM h.below.size
  keep := fun k hk hne => rfl
  loc := fun i k hi he => Or.inl he
/-- Behind the three appends. -/
theorem AddsR.after {M : Nat} {W0 wr w1 : World} {es : List Int} {n0 n1 x1 x2 x3 : Int} {k : Nat} {v5 v6 v7 v8 u5 u6 u7 : Value} {tg : Nat → Option Nat} {tx : Nat → Value} (h : AddsR M W0 wr es n0 n1 k v5 v6 v7 v8) (_hM : M ≤ W0.heap.size)
    (hR : Rs M 3 wr.drew w1 (tri v5 v7 v6) (tri u5 u7 u6) (tri ((es.take k).map (Value.int .i64) ++ [.int .i64 x1]) ((lvL es k).map (Value.int .i64) ++ [.int .i64 x2]) ((tkL n0 k).map (Value.int .i64) ++ [.int .i64 x3])) tg tx) :
    OwnI w1 M u5 (es.take k ++ [x1]) ∧ OwnI w1 M u7 (lvL es k ++ [x2]) ∧ OwnI w1 M u6 (tkL n0 k ++ [x3]) ∧ OwnH w1 M v8 (dayL n1 es k) ∧ Sep u5 u7 ∧ Sep u5 u6 ∧ Sep u7 u6 ∧ Sep u5 v8 ∧ Sep u7 v8 ∧ Sep u6 v8 ∧ Below M W0 w1 := by
  have a0 := hR.own 0 (by omega)
  have a1 := hR.own 1 (by omega)
  have a2 := hR.own 2 (by omega)
  have hl : ∀ (l : List Int) (x : Int), l.map (Value.int .i64) ++ [.int .i64 x] = (l ++ [x]).map (Value.int .i64) := fun l x => by simp
  have hr : wr.drew.heap.size = wr.heap.size := rfl
  refine ⟨?_, ?_, ?_, ?_, hR.sep 0 1 (by omega) (by omega) (by omega), hR.sep 0 2 (by omega) (by omega) (by omega), hR.sep 1 2 (by omega) (by omega) (by omega), ?_, ?_, ?_, ?_⟩
  · have e : tri ((es.take k).map (Value.int .i64) ++ [.int .i64 x1]) ((lvL es k).map (Value.int .i64) ++ [.int .i64 x2]) ((tkL n0 k).map (Value.int .i64) ++ [.int .i64 x3]) 0 = (es.take k ++ [x1]).map (Value.int .i64) := hl _ _
    rw [e, List.length_map] at a0
    exact a0
  · have e : tri ((es.take k).map (Value.int .i64) ++ [.int .i64 x1]) ((lvL es k).map (Value.int .i64) ++ [.int .i64 x2]) ((tkL n0 k).map (Value.int .i64) ++ [.int .i64 x3]) 1 = (lvL es k ++ [x2]).map (Value.int .i64) := hl _ _
    rw [e, List.length_map] at a1
    exact a1
  · have e : tri ((es.take k).map (Value.int .i64) ++ [.int .i64 x1]) ((lvL es k).map (Value.int .i64) ++ [.int .i64 x2]) ((tkL n0 k).map (Value.int .i64) ++ [.int .i64 x3]) 2 = (tkL n0 k ++ [x3]).map (Value.int .i64) := hl _ _
    rw [e, List.length_map] at a2
    exact a2
  · refine ownsRow_block h.day (fun g hg => ?_)
    have hlt := (h.day.lt g hg).2
    refine hR.keep g hlt (fun i hi he => ?_)
    match i, hi with
    | 0, _ => rcases h.s58 with h1 | h1
              · rw [show v5.ownBlock = some g from he] at h1; cases h1
              · exact h1 ((show v5.ownBlock = some g from he).trans hg.symm)
    | 1, _ => rcases h.s78 with h1 | h1
              · rw [show v7.ownBlock = some g from he] at h1; cases h1
              · exact h1 ((show v7.ownBlock = some g from he).trans hg.symm)
    | 2, _ => rcases h.s68 with h1 | h1
              · rw [show v6.ownBlock = some g from he] at h1; cases h1
              · exact h1 ((show v6.ownBlock = some g from he).trans hg.symm)
  · exact Sep.moved h.s58 h.day (fun g hg => hR.loc 0 g (by omega) hg)
  · exact Sep.moved h.s78 h.day (fun g hg => hR.loc 1 g (by omega) hg)
  · exact Sep.moved h.s68 h.day (fun g hg => hR.loc 2 g (by omega) hg)
  · exact h.below.trans ((Below.refl M wr).drew.trans hR.below)

theorem Steps.far {N : Nat} {w w' : World} (h : Steps w) (hN : N = w.heap.size) (hb : Below N w w') : Steps w' := by subst hN; exact h.keep hb
theorem Tab.far {N : Nat} {w w' : World} (h : Tab w) (hN : N = w.heap.size) (hb : Below N w w') : Tab w' := by subst hN; exact h.keep hb
theorem esL_at (xs : List Int) (i : Nat) (h : i < xs.length) : (esL xs).getD i 0 = xs.getD i 0 % 1000000001 := by simp [esL, List.getD_eq_getElem?_getD, List.getElem?_eq_getElem h]
theorem esL_small (xs : List Int) (h : xs.length ≤ 10) : SmallE (esL xs) := by
  have hl : (esL xs).length = xs.length := by unfold esL; rw [List.length_map]
  refine ⟨by omega, fun i hi => ?_⟩
  rw [esL_at xs i (by omega)]
  omega
theorem dayL_snd (n1 : Int) (es : List Int) : (dayL n1 es es.length).map (·.2) = es := by
  apply List.ext_getElem
  · simp [dayL]
  · intro i h1 h2
    simp [dayL, List.getD_eq_getElem?_getD, List.getElem?_eq_getElem h2]
theorem dayL_in (n1 : Int) (es : List Int) (k : Nat) (x : Int × Int) (h : x ∈ dayL n1 es k) : ∃ i : Nat, i < k ∧ x = ((n1 + 9000 * (i : Int)) % 86400, es.getD i 0) := by
  obtain ⟨i, hi, rfl⟩ := List.mem_map.1 h
  exact ⟨i, List.mem_range.1 hi, rfl⟩
theorem day_pen {n1 : Int} {es : List Int} (hs : SmallE es) : penErr (dayL n1 es es.length) = 0 ∧ sumL es ≤ penVal (dayL n1 es es.length) ∧ penVal (dayL n1 es es.length) ≤ 10 * sumL es := by
  have h := pen_small (hs := dayL n1 es es.length) (by rw [dayL_len]; exact hs.1) (fun x hx => by
    obtain ⟨i, hi, rfl⟩ := dayL_in n1 es _ x hx
    dsimp only; omega) (fun x hx => by
    obtain ⟨i, hi, rfl⟩ := dayL_in n1 es _ x hx
    exact (hs.2 i hi).1) (by rw [dayL_snd]; exact hs.sum.2) (fun x hx => by
    obtain ⟨i, hi, rfl⟩ := dayL_in n1 es _ x hx
    exact (hs.2 i hi).2)
  rw [dayL_snd] at h
  exact h
theorem rangeR_of {k : Int} (h0 : -1 ≤ k) (h1 : k ≤ 120) : rangeR k = .agg #[.int .i64 (rangeLow k), .int .i64 (rangeHigh k)] := by unfold rangeR; rw [if_pos ⟨h0, h1⟩]

theorem idx3_0 (a b c : Int) (w : World) : (Instr.index 159 (.agg #[.int .i64 a, .int .i64 b, .int .i64 c]) (.int .i64 0)).run Tryz.prog w = .ok (.int .i64 a) w := by kernel_rfl
theorem idx3_1 (a b c : Int) (w : World) : (Instr.index 159 (.agg #[.int .i64 a, .int .i64 b, .int .i64 c]) (.int .i64 1)).run Tryz.prog w = .ok (.int .i64 b) w := by kernel_rfl
theorem idx3_2 (a b c : Int) (w : World) : (Instr.index 159 (.agg #[.int .i64 a, .int .i64 b, .int .i64 c]) (.int .i64 2)).run Tryz.prog w = .ok (.int .i64 c) w := by kernel_rfl

attribute [local go_sem] idx3_0 idx3_1 idx3_2
set_option maxHeartbeats 16000000 in
set_option maxRecDepth 100000 in
theorem adds_walk (xs : List Int) (n0 n1 n2 n3 n4 : Int) (A : Option Addr) (n c : Nat) (w : World) (hz : U32At w A n xs) (hb : ∀ i, i < n → 0 ≤ xs.getD i 0 ∧ xs.getD i 0 ≤ 4294967295) (hN0 : 0 ≤ n0 ∧ n0 ≤ 65535) (hN1 : 0 ≤ n1 ∧ n1 ≤ 65535) (hN2 : 0 ≤ n2 ∧ n2 ≤ 65535) (hN3 : 0 ≤ n3 ∧ n3 ≤ 65535) (hN4 : 0 ≤ n4 ∧ n4 ≤ 65535) (hst : Steps w) (ht : Tab w) :
    Calls Tryz.prog 13 #[.slice A n c, .agg #[.int .u16 n0, .int .u16 n1, .int .u16 n2, .int .u16 n3, .int .u16 n4]] w fun x w' => x = .returned (.bool true) ∧ Below w.heap.size w w' := by
  have HZ := Lib.hid hz
  have HXB := Lib.hid hb
  have HST := Lib.hid hst
  have HT := Lib.hid ht
  have HN := Lib.hid (And.intro hN0 (And.intro hN1 (And.intro hN2 (And.intro hN3 hN4))))
  clear hz hb hst ht hN0 hN1 hN2 hN3 hN4
  by_cases hlen : 1 ≤ n ∧ n ≤ 10
  · have hl1 := hlen.1
    have hl2 := hlen.2
    clear hlen
    go_enter Tryz.func13, Tryz.ntmps13
    go_upto_region 1 with fail
    obtain ⟨W0, hW0⟩ : ∃ X, X = w.alloc (.cells #[.int .u16 n0, .int .u16 n1, .int .u16 n2, .int .u16 n3, .int .u16 n4] 155) := ⟨_, rfl⟩
    rw [← hW0]
    have hf := box_facts (W := w) _ _ W0 hW0
    have HK0 := Lib.hid hf.1
    have HB0 := Lib.hid hf.2
    have HM0 : Hid (W0.heap.size = w.heap.size + 1) := by show _ = _; rw [hW0]; simp
    obtain ⟨N, hN⟩ : ∃ N, N = w.heap.size := ⟨_, rfl⟩
    rw [← hN] at HK0 HB0 HM0 ⊢
    have HNE := Lib.hid hN
    clear hf hW0 hN
    obtain ⟨es, hes⟩ : ∃ es, es = esL xs := ⟨_, rfl⟩
    have HES := Lib.hid hes
    have HEL : Hid (es.length = n) := by show _ = _; rw [hes]; unfold esL; rw [List.length_map]; exact HZ.out.1
    clear hes
    go_wp2
    obtain ⟨ih, hih, hih0, hih1, hih2⟩ := info_parts infoHeard
    go_loopw [5, 6, 7, 8, 9, 10, 11, 60] (fun v5 v6 v7 v8 v9 v10 v11 i wr => ∃ (k : Nat) (a b g : Int), k ≤ n ∧ i = .int .i64 (k : Int) ∧ v9 = .int .i64 a ∧ v10 = .int .i64 b ∧ v11 = .int .i64 g ∧ Ends es k a b g ∧ AddsR (N + 1) W0 wr es n0 n1 k v5 v6 v7 v8) (fun _ _ _ _ _ _ _ i _ => n - (intOf i).toNat)
    case atStart => exact ⟨0, 10000000000000, 0, -1, Nat.zero_le _, rfl, rfl, rfl, rfl, Ends.start _ _ _, ⟨OwnI.nil _ _, OwnI.nil _ _, OwnI.nil _ _, World.ownsRow_nil _ _ _ _, Sep.nil _, Sep.nil _, Sep.nil _, Sep.nil _, Sep.nil _, Sep.nil _, Below.refl _ _⟩⟩
    case round =>
      obtain ⟨k, a, b, g, hk, rfl, rfl, rfl, rfl, hends, hrows⟩ := hrel
      have HEN := Lib.hid hends
      have HR := Lib.hid hrows
      clear hends hrows
      by_cases hlt : k < n
      · as_aux_lemma =>
        have HBW : Hid (Below N w wr) := HB0.out.trans (HR.out.below.mono (Nat.le_succ N))
        have hxk := HXB.out k hlt
        have hU := HZ.out.keep (w' := wr) (by rw [← HNE.out]; exact HBW.out)
        obtain ⟨bb, off, rfl, hcc⟩ := hU.2 (by omega)
        have hc := hcc k hlt
        have hek : es.getD k 0 = xs.getD k 0 % 1000000001 := by
          rw [HES.out]
          have h1 : k < xs.length := by rw [HZ.out.1]; exact hlt
          simp [esL, List.getD_eq_getElem?_getD, List.getElem?_eq_getElem h1]
        obtain ⟨x, hx⟩ : ∃ x, x = xs.getD k 0 := ⟨_, rfl⟩
        rw [← hx] at hc hek hxk
        have HX := Lib.hid hx
        have HEK := Lib.hid hek
        clear hcc hU hx hek
        have hN9 := HN.out
        go_upto_region 10 with fail
        obtain ⟨e, he⟩ : ∃ e, e = x % 1000000001 := ⟨_, rfl⟩
        rw [← he] at HEK ⊢
        have he0 : 0 ≤ e := by rw [he]; omega
        have he1 : e ≤ 1000000000 := by rw [he]; omega
        obtain ⟨L, hL⟩ : ∃ L, L = level e := ⟨_, rfl⟩
        have hL0 : -1 ≤ L := by rw [hL]; exact level_m1 e
        have hL8 : L ≤ 80 := by rw [hL]; exact level_80 he1
        have HL := Lib.hid hL
        have r1 : levelR e = L := (levelR_of he0 (by omega)).trans hL.symm
        have r2 : checkEnergyE e = 0 := checkEnergyE_of he0 (by omega)
        have r3 : checkEnergyE (10 * e) = 0 := checkEnergyE_of (by omega) (by omega)
        obtain ⟨T, hT⟩ : ∃ T, T = level (10 * e) := ⟨_, rfl⟩
        have r4 : levelR (10 * e) = T := (levelR_of (by omega) (by omega)).trans hT.symm
        obtain ⟨lo, hlo⟩ : ∃ y, y = rangeLow L := ⟨_, rfl⟩
        obtain ⟨hi, hhi⟩ : ∃ y, y = rangeHigh L := ⟨_, rfl⟩
        obtain ⟨hi2, hhi2⟩ : ∃ y, y = rangeHigh (L + 1) := ⟨_, rfl⟩
        have r5 : rangeR L = .agg #[.int .i64 lo, .int .i64 hi] := by rw [hlo, hhi]; exact rangeR_of (by omega) (by omega)
        have f1 : lo ≤ e := by rw [hlo, hL]; exact (range_has he0 he1).1
        have f2 : e ≤ hi := by rw [hhi, hL]; exact (range_has he0 he1).2
        have r6 : rangeR (L + 1) = .agg #[.int .i64 (hi + 1), .int .i64 hi2] := by
          rw [rangeR_of (by omega) (by omega), hhi2, hhi, hL]
          rw [show rangeLow (level e + 1) = rangeHigh (level e) + 1 from range_next he1]
        have f3 : hi ≤ 10000000000000 := by
          rw [hhi]
          unfold rangeHigh
          split
          · have := thr_le (show (L + 1).toNat ≤ 81 by omega)
            rw [thr81] at this
            omega
          · omega
        have f4 : 0 ≤ L → T = L + 10 := fun h => by rw [hT, hL]; exact level_ten he1 (by rw [← hL]; exact h)
        have r7 : withinE L (-1) 120 = 0 := withinE_of (by omega) (by omega)
        have r8 : withinE (L + 1) (-1) 120 = 0 := withinE_of (by omega) (by omega)
        have R1 := Lib.hid r1; have R2 := Lib.hid r2; have R3 := Lib.hid r3; have R4 := Lib.hid r4; have R5 := Lib.hid r5; have R6 := Lib.hid r6; have R7 := Lib.hid r7; have R8 := Lib.hid r8; have F4 := Lib.hid f4
        have SR : Hid (Steps wr) := HST.out.far HNE.out HBW.out
        clear he hL r1 r2 r3 r4 r5 r6 r7 r8 f4 hT hlo hhi hhi2 hc hxk hN9
        go_wp2_with fail
        refine Calls.mono (Level_any e _ SR.out) ?_
        rintro y w1 ⟨rfl, hb⟩
        rw [R1.out, R2.out]
        have SR1 := Lib.hid (SR.out.keep hb)
        have G1 := Lib.hid hb
        clear hb SR
        go_wp2_with fail
        refine Calls.mono (Range_any L _ SR1.out) ?_
        rintro y w2 ⟨rfl, hb⟩
        rw [R5.out, R7.out]
        have SR2 := Lib.hid (SR1.out.keep hb)
        have G2 := Lib.hid (G1.out.trans (hb.mono G1.out.size))
        clear hb SR1 G1
        go_upto_region 14 with fail
        obtain ⟨w3, hX⟩ : ∃ X, X = w2.alloc (.cells #[.int .i64 lo, .int .i64 hi] 49) := ⟨_, rfl⟩
        rw [← hX]
        obtain ⟨hk3, hb⟩ := box_facts _ _ w3 hX
        have BK3 := Lib.hid hk3
        have SR3 := Lib.hid (SR2.out.keep hb)
        have G3 := Lib.hid (G2.out.trans (hb.mono G2.out.size))
        obtain ⟨q1, hq1⟩ : ∃ q, q = w2.heap.size := ⟨_, rfl⟩
        rw [← hq1] at BK3 ⊢
        clear hb hk3 hX SR2 G2 hq1
        have hmin : min 120 (L + 1) = L + 1 := by omega
        go_wp2_with fail
        refine Calls.mono (Range_any (L + 1) _ SR3.out) ?_
        rintro y w4 ⟨rfl, hb⟩
        rw [R6.out, R8.out]
        have SR4 := Lib.hid (SR3.out.keep hb)
        have BK4 := Lib.hid (BK3.out.below hb)
        have G4 := Lib.hid (G3.out.trans (hb.mono G3.out.size))
        clear hb SR3 G3 BK3
        go_upto_region 15 with fail
        obtain ⟨w5, hX⟩ : ∃ X, X = w4.alloc (.cells #[.int .i64 (hi + 1), .int .i64 hi2] 49) := ⟨_, rfl⟩
        rw [← hX]
        obtain ⟨hk5, hb⟩ := box_facts _ _ w5 hX
        have CK5 := Lib.hid hk5
        have BK5 := Lib.hid (BK4.out.below hb)
        have SR5 := Lib.hid (SR4.out.keep hb)
        have G5 := Lib.hid (G4.out.trans (hb.mono G4.out.size))
        obtain ⟨q2, hq2⟩ : ∃ q, q = w4.heap.size := ⟨_, rfl⟩
        rw [← hq2] at CK5 ⊢
        clear hb hk5 hX SR4 G4 BK4 hq2
        go_wp2_with fail
        refine Calls.mono (Level_any (10 * e) _ SR5.out) ?_
        rintro y w6 ⟨rfl, hb⟩
        rw [R3.out, R4.out]
        have BK6 := Lib.hid (BK5.out.below hb)
        have CK6 := Lib.hid (CK5.out.below hb)
        have G6 := Lib.hid (G5.out.trans (hb.mono G5.out.size))
        have HR6 : Hid (AddsR (N + 1) W0 w6 es n0 n1 k u5 u6 u7 u8) := HR.out.go (by rw [HM0.out]; exact Nat.le_refl _) G6.out
        clear hb SR5 G5 BK5 CK5 HR G6
        have c0 : w6.cell? ⟨q1, 0, none⟩ = some (.int .i64 lo) := BK6.out.cell 0
        have c1 : w6.cell? ⟨q1, 1, none⟩ = some (.int .i64 hi) := BK6.out.cell 1
        have c2 : w6.cell? ⟨q2, 0, none⟩ = some (.int .i64 (hi + 1)) := CK6.out.cell 0
        clear BK6 CK6
        have HSW : Hid (Sw N n0 w6.drew) := (HR6.out.below.cell (p := ⟨N, 0, none⟩) (Nat.lt_succ_self N)).trans (HK0.out.cell 0)
        have HNB : Hid (∀ i, i < 3 → (tri u5 u7 u6 i).ownBlock ≠ some N) := fun i hi he => by
          match i, hi with
          | 0, _ => have := (HR6.out.all.lt N he).1; omega
          | 1, _ => have := (HR6.out.lvs.lt N he).1; omega
          | 2, _ => have := (HR6.out.tks.lt N he).1; omega
        have HLE : Hid (((es.take k).map (Value.int .i64)).length ≤ 1000 ∧ ((lvL es k).map (Value.int .i64)).length ≤ 1000 ∧ ((tkL n0 k).map (Value.int .i64)).length ≤ 1000) := by
          refine ⟨?_, ?_, ?_⟩
          · rw [List.length_map, List.length_take]; omega
          · rw [List.length_map, lvL_len es k (by rw [HEL.out]; omega)]; omega
          · rw [List.length_map, tkL_len]; omega
        go_upto_region 16 with fail
        go_cut [140] (fun c wx => c = .bool false ∧ wx = w6)
        case first =>
          rcases Int.lt_or_le L 0 with hLL | hLL
          · go_wp2
            go_meet
            exact ⟨congrArg Value.bool (by simp <;> omega), rfl⟩
          · have hTL := F4.out hLL
            subst hTL
            go_wp2
            go_meet
            exact ⟨congrArg Value.bool (by simp <;> omega), rfl⟩
        case rest =>
        obtain ⟨rfl, hc2⟩ := hcut
        replace hc2 := hc2.symm
        subst hc2
        as_aux_lemma =>
        go_upto_region 18 with fail
        clear c0 c1 c2 f1 f2 f3
        refine adds_r18 (N + 1) N w6 u5 u7 u6 _ _ _ e L n0 (k : Int) _ _ rfl rfl rfl rfl rfl rfl rfl rfl HSW.out HNB.out HLE.out HN.out.1 (by omega) (HR6.out.three (by rw [HM0.out]; exact Nat.le_refl _) _) (fun c a d v w h => by cases d <;> exact h) ?_
        intro v1 v2 v3 g1 g2 g3 w7 hR7
        simp only [Act.put, List.setIfInBounds_toArray, List.set_cons_zero, List.set_cons_succ]
        obtain ⟨o5, o7, o6, o8, s57, s56, s76, s58, s78, s68, hb7⟩ := HR6.out.after (by rw [HM0.out]; exact Nat.le_refl _) hR7
        clear hR7
        have H7 : Hid (OwnI w7 (N + 1) v1 (es.take (k + 1)) ∧ OwnI w7 (N + 1) v3 (tkL n0 (k + 1)) ∧ OwnI w7 (N + 1) v2 (lvL es (k + 1)) ∧ Sep v1 v2 ∧ Sep v1 v3 ∧ Sep v2 v3 ∧ Below (N + 1) W0 w7) := by
          refine ⟨?_, ?_, ?_, s57, s56, s76, hb7⟩
          · rw [take_snocI es k (by rw [HEL.out]; exact hlt), HEK.out]; exact o5
          · rw [tkL_succ]; exact o6
          · rw [lvL_succ es k (by rw [HEL.out]; exact hlt), HEK.out, ← HL.out]; exact o7
        have S8 : Hid (Sep u8 v1 ∧ Sep u8 v2 ∧ Sep u8 v3) := ⟨s58.symm, s78.symm, s68.symm⟩
        have hown0 : w7.ownsRow (N + 1) 158 2 u8 k (pairCells (dayL n1 es k)) := by
          have := o8
          unfold OwnH at this
          rwa [dayL_len] at this
        have d1 : w7.cell? ⟨N, 1, none⟩ = some (.int .u16 n1) := (hb7.cell (p := ⟨N, 1, none⟩) (Nat.lt_succ_self N)).trans (HK0.out.cell 1)
        have hsz7 : N + 1 ≤ w7.heap.size := by have := hb7.size; rw [HM0.out] at this; exact this
        have hn1 := HN.out.2.1
        have HB7 := Lib.hid hb7
        clear o5 o7 o6 o8 s57 s56 s76 s58 s78 s68 hb7
        obtain ⟨tk, htk⟩ : ∃ y, y = (n1 + 9000 * (k : Int)) % 86400 := ⟨_, rfl⟩
        have HTK := Lib.hid htk
        go_wp2_with (at_builtin; rw [← htk]; refine wpList_append_own_at _ rfl _ _ 69 rfl (N + 1) 158 ih (.agg #[.int .i64 0, .int .i64 0]) 2 16 Tryz.underlying69 hih hih0 hih1 hih2 rfl (by decide) _ _ _ rfl (World.ownsRow.alloc hown0 _) ⟨w7.heap.size, 0, none⟩ 1 1 [.int .i64 tk, .int .i64 e] rfl rfl (cells_two_at w7 158 (.int .i64 tk) (.int .i64 e)) (by simp [Value.oneCell']) (by unfold maxLen; omega) (by omega) (by simp; omega) ?_; intro v8 w8 hown' hgrow _ hat)
        have R8 : Hid (AddsR (N + 1) W0 w8 es n0 n1 (k + 1) v1 v3 v2 v8) := by
          obtain ⟨h1, h2, h3, h4, h5, h6, h7⟩ := H7.out
          refine ⟨Sep.kept S8.out.1 (h1.alloc _) hgrow, Sep.kept S8.out.2.2 (h2.alloc _) hgrow, Sep.kept S8.out.2.1 (h3.alloc _) hgrow, ?_, h4, h5, h6, (Sep.new S8.out.1 (h1.alloc _) hat).symm, (Sep.new S8.out.2.1 (h3.alloc _) hat).symm, (Sep.new S8.out.2.2 (h2.alloc _) hat).symm, Below.grown (h7.alloc (by omega) _) hgrow (by simp; omega) (fun j hj => (hown0.lt j hj).1)⟩
          unfold OwnH
          rw [dayL_succ, pairCells_snoc, List.length_append, dayL_len, HEK.out, ← HTK.out]
          exact hown'
        clear hown' hgrow hown0 hat H7 S8 HB7 d1 htk
        go_wp2
        go_roundw
        case rel => exact ⟨k + 1, _, _, _, by omega, by go_num, rfl, rfl, rfl, by rw [HL.out]; exact HEN.out.step HEK.out, R8.out⟩
        case measure => simp [intOf]; omega
      · as_aux_lemma =>
        obtain rfl : k = n := by omega
        have hr := HR.out
        have HSM : Hid (SmallE es) := by show SmallE _; rw [HES.out]; exact esL_small xs (by rw [HZ.out.1]; exact hl2)
        have HEN2 : Hid (Ends es es.length a b g) := by show Ends _ _ _ _ _; rw [HEL.out]; exact HEN.out
        have htk : es.take k = es := List.take_of_length_le (by rw [HEL.out]; exact Nat.le_refl _)
        have o5 : OwnI wr (N + 1) u5 es := by have := hr.all; rwa [htk] at this
        have O6 := Lib.hid hr.tks
        have O8 := Lib.hid hr.day
        have HBW : Hid (Below (N + 1) W0 wr) := hr.below
        have hsz : N + 1 ≤ wr.heap.size := by have := hr.below.size; rw [HM0.out] at this; exact this
        clear hr HR HEN htk
        obtain ⟨ga, ca, hu5, hgab, hgal, hgac⟩ : ∃ ga ca, u5 = .slice (some ⟨ga, 0, none⟩) k ca ∧ N + 1 ≤ ga ∧ ga < wr.heap.size ∧ k ≤ ca := by
          rcases o5.form with ⟨_, h0⟩ | ⟨ga, ca, h1, h2, h3, h4, _⟩
          · have := HEL.out; rw [h0] at this; simp at this; omega
          · rw [HEL.out] at h1 h4; exact ⟨ga, ca, h1, h2, h3, h4⟩
        subst hu5
        have O5 := Lib.hid o5
        have d2 : wr.cell? ⟨N, 2, none⟩ = some (.int .u16 n2) := (HBW.out.cell (p := ⟨N, 2, none⟩) (Nat.lt_succ_self N)).trans (HK0.out.cell 2)
        have hn2 := HN.out.2.2.1
        clear o5
        go_upto_region 23 with fail
        obtain ⟨cn, hcn, hck⟩ : ∃ cn : Nat, n2 % ((k : Int) + 1) = (cn : Int) ∧ cn ≤ k := ⟨(n2 % ((k : Int) + 1)).toNat, by have := Int.emod_nonneg n2 (show (k : Int) + 1 ≠ 0 by omega); omega, by have := Int.emod_lt_of_pos n2 (show (0 : Int) < (k : Int) + 1 by omega); omega⟩
        rw [hcn]
        clear d2 hn2 hcn
        have HAt : Hid (IntsAt wr (some ⟨ga, 0, none⟩) k es) := O5.out.at_
        refine adds_r23 ga k ca cn es wr _ _ rfl rfl rfl HAt.out hck hgac hl2 (fun c a d v w h => by cases d <;> exact h) ?_
        intro v191 v24 w1 hT hb
        simp only [Act.put, List.setIfInBounds_toArray, List.set_cons_zero, List.set_cons_succ]
        as_aux_lemma =>
        have HTL : Hid ((es.drop cn ++ es.take cn).length = k) := by show _ = _; rw [List.length_append, List.length_drop, List.length_take, HEL.out]; omega
        obtain ⟨gt, ct, hv24⟩ : ∃ gt ct, v24 = .slice (some ⟨gt, 0, none⟩) k ct := by
          rcases hT.form with ⟨_, h0⟩ | ⟨gt, ct, h1, _⟩
          · have := HTL.out; rw [h0] at this; simp at this; omega
          · rw [HTL.out] at h1; exact ⟨gt, ct, h1⟩
        subst hv24
        have HT1 : Hid (IntsAt w1 (some ⟨gt, 0, none⟩) k (es.drop cn ++ es.take cn)) := hT.at_
        have HA1 : Hid (IntsAt w1 (some ⟨ga, 0, none⟩) k es) := HAt.out.keep hb
        have O61 : Hid (OwnI w1 (N + 1) u6 (tkL n0 k)) := O6.out.below hb
        have O81 : Hid (OwnH w1 (N + 1) u8 (dayL n1 es k)) := ownsRow_block O8.out (fun g hg => hb.block g (O8.out.lt g hg).2)
        have HB1 : Hid (Below (N + 1) W0 w1) := HBW.out.trans (hb.mono hsz)
        have hsz1 : N + 1 ≤ w1.heap.size := Nat.le_trans hsz hb.size
        obtain ⟨S, hS⟩ : ∃ S, S = sumL es := ⟨_, rfl⟩
        have HS := Lib.hid hS
        have q1 : sumVal es = S := HSM.out.sumVal.1.trans hS.symm
        have q2 : sumErr es = 0 := HSM.out.sumVal.2
        have q3 : sumVal (es.drop cn ++ es.take cn) = S := ((HSM.out.turn cn).sumVal.1.trans (sumL_turn es cn)).trans hS.symm
        have q4 : sumErr (es.drop cn ++ es.take cn) = 0 := (HSM.out.turn cn).sumVal.2
        obtain ⟨S1, hS1⟩ : ∃ S, S = sumL (es.take cn) := ⟨_, rfl⟩
        obtain ⟨S2, hS2⟩ : ∃ S, S = sumL (es.drop cn) := ⟨_, rfl⟩
        have q5 : sumVal (es.take cn) = S1 := (HSM.out.take cn).sumVal.1.trans hS1.symm
        have q6 : sumErr (es.take cn) = 0 := (HSM.out.take cn).sumVal.2
        have q7 : sumVal (es.drop cn) = S2 := (HSM.out.drop cn).sumVal.1.trans hS2.symm
        have q8 : sumErr (es.drop cn) = 0 := (HSM.out.drop cn).sumVal.2
        have hS12 : S1 + S2 = S := by rw [hS1, hS2, hS]; exact sumL_cut es cn
        have hS0 : 0 ≤ S := by rw [hS]; exact HSM.out.sum.1
        have hS9 : S ≤ 10000000000 := by rw [hS]; exact HSM.out.sum.2
        have hS10 : 0 ≤ S1 := by rw [hS1]; exact (HSM.out.take cn).sum.1
        have hS20 : 0 ≤ S2 := by rw [hS2]; exact (HSM.out.drop cn).sum.1
        have Q1 := Lib.hid q1; have Q2 := Lib.hid q2; have Q3 := Lib.hid q3; have Q4 := Lib.hid q4; have Q5 := Lib.hid q5; have Q6 := Lib.hid q6; have Q7 := Lib.hid q7; have Q8 := Lib.hid q8
        clear hT hb hsz HAt O6 O8 HBW O5 q1 q2 q3 q4 q5 q6 q7 q8 hS hS1 hS2
        go_wp2_with fail
        refine Calls.mono (ints_any _ _ _ _ _ HA1.out (fun h => by cases h) (by omega)) ?_
        rintro y w2 ⟨A2, c2, rfl, hI, hb⟩
        have HI2 := Lib.hid hI
        have HH2 := Lib.hid hb
        clear hI hb
        go_wp2_with fail
        refine Calls.mono (Sum_any _ _ _ _ _ HI2.out (by omega)) ?_
        rintro y w3 ⟨rfl, hb⟩
        rw [Q1.out, Q2.out]
        have HH3 := Lib.hid (HH2.out.trans (hb.mono HH2.out.size))
        clear hb HH2 HI2 Q1 Q2
        go_wp2_with fail
        refine Calls.mono (Sum_any _ _ _ _ _ (HT1.out.keep HH3.out) (by omega)) ?_
        rintro y w4 ⟨rfl, hb⟩
        rw [Q3.out, Q4.out]
        have HH4 := Lib.hid (HH3.out.trans (hb.mono HH3.out.size))
        clear hb HH3 Q3 Q4 HT1 HTL
        have HA4 : Hid (IntsAt w4 (some ⟨ga, 0, none⟩) k es) := HA1.out.keep HH4.out
        have b1 : (0 : Int) ≤ (cn : Int) := by omega
        have b2 : (cn : Int) ≤ (k : Int) := by omega
        have b3 : (k : Int) ≤ (ca : Int) := by omega
        have b4 : (cn : Int) ≤ (ca : Int) := by omega
        go_wp2_with fail
        refine Calls.mono (ints_any _ _ _ _ _ (HA4.out.head cn hck) (fun h => by cases h) (by omega)) ?_
        rintro y w5 ⟨A5, c5, rfl, hI, hb⟩
        have HI5 := Lib.hid hI
        have HH5 := Lib.hid (HH4.out.trans (hb.mono HH4.out.size))
        have HA5 : Hid (IntsAt w5 (some ⟨ga, 0, none⟩) k es) := HA4.out.keep hb
        clear hI hb HH4 HA4
        go_wp2_with fail
        refine Calls.mono (Sum_any _ _ _ _ _ HI5.out (by omega)) ?_
        rintro y w6 ⟨rfl, hb⟩
        rw [Q5.out, Q6.out]
        have HH6 := Lib.hid (HH5.out.trans (hb.mono HH5.out.size))
        have HA6 : Hid (IntsAt w6 (some ⟨ga, 0, none⟩) k es) := HA5.out.keep hb
        clear hb HH5 HI5 Q5 Q6 HA5
        have hsl := run_tail ga k ca cn hck hgac
        go_wp2_with fail
        refine Calls.mono (ints_any _ _ _ _ _ (HA6.out.tail cn ca hck hgac) (fun h => by cases h) (by omega)) ?_
        rintro y w7 ⟨A7, c7, rfl, hI, hb⟩
        clear hsl
        have HI7 := Lib.hid hI
        have HH7 := Lib.hid (HH6.out.trans (hb.mono HH6.out.size))
        clear hI hb HH6 HA6
        go_wp2_with fail
        refine Calls.mono (Sum_any _ _ _ _ _ HI7.out (by omega)) ?_
        rintro y w8 ⟨rfl, hb⟩
        rw [Q7.out, Q8.out]
        have HH8 := Lib.hid (HH7.out.trans (hb.mono HH7.out.size))
        clear hb HH7 HI7 Q7 Q8 b1 b2 b3 b4
        as_aux_lemma =>
        obtain ⟨LS, hLS⟩ : ∃ L, L = level S := ⟨_, rfl⟩
        have t1 : levelR S = LS := (levelR_of hS0 (by omega)).trans hLS.symm
        have t2 : checkEnergyE S = 0 := checkEnergyE_of hS0 (by omega)
        have t3 := Ends.sum HSM.out HEN2.out
        rw [← HS.out, ← hLS] at t3
        have hg0 : -1 ≤ g := by
          rcases HEN2.out.met with h | ⟨i, _, h⟩
          · omega
          · rw [h]; exact level_m1 _
        have hg8 : g ≤ 80 := by
          rcases HEN2.out.met with h | ⟨i, hi, h⟩
          · omega
          · rw [h]; exact level_80 (HSM.out.2 i hi).2
        have hGS := t3.2
        have hgl : g ≤ LS := t3.1
        have T1 := Lib.hid t1; have T2 := Lib.hid t2; have HGS := Lib.hid hGS
        have HB8 : Hid (Below (N + 1) W0 w8) := HB1.out.trans (HH8.out.mono hsz1)
        have SR8 : Hid (Steps w8) := (HST.out.far HNE.out HB0.out).keep (HB8.out.mono (by rw [HM0.out]; exact Nat.le_refl _))
        have HA8 : Hid (IntsAt w8 (some ⟨ga, 0, none⟩) k es) := HA1.out.keep HH8.out
        have o68 : OwnI w8 (N + 1) u6 (tkL n0 k) := O61.out.below HH8.out
        have O88 : Hid (OwnH w8 (N + 1) u8 (dayL n1 es k)) := ownsRow_block O81.out (fun g hg => HH8.out.block g (O81.out.lt g hg).2)
        have hsz8 : N + 1 ≤ w8.heap.size := Nat.le_trans hsz1 HH8.out.size
        obtain ⟨gk, ck, hu6⟩ : ∃ gk ck, u6 = .slice (some ⟨gk, 0, none⟩) k ck := by
          rcases o68.form with ⟨_, h0⟩ | ⟨gt, ct, h1, _⟩
          · have := tkL_len n0 k; rw [h0] at this; simp at this; omega
          · rw [tkL_len] at h1; exact ⟨gt, ct, h1⟩
        subst hu6
        have HK8 : Hid (IntsAt w8 (some ⟨gk, 0, none⟩) k (tkL n0 k)) := o68.at_
        obtain ⟨V, hV⟩ : ∃ V, V = avgVal es (tkL n0 k) := ⟨_, rfl⟩
        have t4 := Ends.mean (ts := tkL n0 k) HSM.out HEN2.out (by rw [HEL.out]; exact hl1) (by rw [tkL_len, HEL.out]) (fun i hi => by
          rw [tkL_len] at hi
          have e : (tkL n0 k).getD i 0 = 1 + (n0 + (i : Int)) % 1000 := by simp [tkL, List.getD_eq_getElem?_getD, hi]
          rw [e]; omega)
        rw [← hV] at t4
        have hva := t4.2.1
        have hvb := t4.2.2
        have T4 := Lib.hid t4.1
        have HV := Lib.hid hV
        clear t1 t2 t3 t4 hGS o68 O61 O81 HA1 HB1 hsz1 HH8 hLS hV
        go_wp2_with fail
        refine Calls.mono (Level_any S _ SR8.out) ?_
        rintro y w9 ⟨rfl, hb⟩
        rw [T1.out, T2.out]
        have HH9 := Lib.hid hb
        have HA9 : Hid (IntsAt w9 (some ⟨ga, 0, none⟩) k es) := HA8.out.keep hb
        clear hb T1 T2 SR8
        go_wp2_with fail
        refine Calls.mono (ints_any _ _ _ _ _ HA9.out (fun h => by cases h) (by omega)) ?_
        rintro y w10 ⟨A10, c10, rfl, hI, hb⟩
        have HI10 := Lib.hid hI
        have HH10 := Lib.hid (HH9.out.trans (hb.mono HH9.out.size))
        clear hI hb HH9 HA9
        go_wp2_with fail
        refine Calls.mono (ints_any _ _ _ _ _ (HK8.out.keep HH10.out) (fun h => by cases h) (by omega)) ?_
        rintro y w11 ⟨A11, c11, rfl, hI, hb⟩
        have HI11 := Lib.hid hI
        have HJ11 := Lib.hid (HI10.out.keep hb)
        have HH11 := Lib.hid (HH10.out.trans (hb.mono HH10.out.size))
        clear hI hb HH10 HI10 HK8
        go_wp2_with fail
        refine Calls.mono (Average_any _ _ _ _ _ _ _ _ _ (by omega) (by omega) HJ11.out HI11.out) ?_
        rintro y w12 ⟨rfl, hb⟩
        rw [← HV.out, T4.out]
        have HH12 := Lib.hid (HH11.out.trans (hb.mono HH11.out.size))
        clear hb HH11 HI11 HJ11 T4
        have HB12 : Hid (Below (N + 1) W0 w12) := HB8.out.trans (HH12.out.mono hsz8)
        have HA12 : Hid (IntsAt w12 (some ⟨ga, 0, none⟩) k es) := HA8.out.keep HH12.out
        have O12 : Hid (OwnH w12 (N + 1) u8 (dayL n1 es k)) := ownsRow_block O88.out (fun g hg => HH12.out.block g (O88.out.lt g hg).2)
        have hsz12 : N + 1 ≤ w12.heap.size := Nat.le_trans hsz8 HH12.out.size
        clear HH12 HA8 O88 HB8 hsz8
        have hp := day_pen (n1 := n1) HSM.out
        rw [HEL.out, ← HS.out] at hp
        obtain ⟨P, hP⟩ : ∃ P, P = penVal (dayL n1 es k) := ⟨_, rfl⟩
        rw [← hP] at hp
        have HP := Lib.hid hP
        have HPE := Lib.hid hp.1
        have hp1 := hp.2.1
        have hp2 := hp.2.2
        obtain ⟨A8, c8, hu8, hH⟩ := OwnH.at_ O12.out
        rw [dayL_len] at hu8 hH
        subst hu8
        have HH12 := Lib.hid hH
        obtain ⟨e0, he0⟩ : ∃ e, e = es.getD 0 0 := ⟨_, rfl⟩
        have hE0 := HSM.out.2 0 (by rw [HEL.out]; omega)
        rw [← he0] at hE0
        have hc0 : w12.cell? ⟨ga, 0, none⟩ = some (.int .i64 e0) := by
          obtain ⟨b, off, he, hh⟩ := HA12.out.2 (by omega)
          cases he
          rw [he0]; exact hh 0 (by omega)
        have HC0 := Lib.hid hc0
        have HE0 := Lib.hid hE0
        clear hp hP hH he0 hE0 hc0 O12 HA12
        go_upto_region 30 with fail
        go_cut [294] (fun c wx => c = .bool false ∧ wx = w12)
        case first =>
          rcases Int.lt_or_le g 0 with hgg | hgg
          · go_wp2
            go_meet
            exact ⟨congrArg Value.bool (by simp <;> omega), rfl⟩
          · have hq := HGS.out hgg
            go_wp2
            go_meet
            exact ⟨congrArg Value.bool (by simp <;> omega), rfl⟩
        case rest =>
        obtain ⟨rfl, hc2⟩ := hcut
        replace hc2 := hc2.symm
        subst hc2
        as_aux_lemma =>
        go_upto_region 32 with fail
        clear hva hvb hgl
        go_wp2_with fail
        refine Calls.mono (Penalized_any _ _ _ _ _ (by omega) HH12.out) ?_
        rintro y w13 ⟨rfl, hb⟩
        rw [← HP.out, HPE.out]
        have HB13 : Hid (Below (N + 1) W0 w13) := HB12.out.trans (hb.mono hsz12)
        have c0 : w13.cell? ⟨ga, 0, none⟩ = some (.int .i64 e0) := (hb.cell (p := ⟨ga, 0, none⟩) (World.block_lt_of_cell? _ _ HC0.out)).trans HC0.out
        have d3 : w13.cell? ⟨N, 3, none⟩ = some (.int .u16 n3) := (HB13.out.cell (p := ⟨N, 3, none⟩) (Nat.lt_succ_self N)).trans (HK0.out.cell 3)
        have d4 : w13.cell? ⟨N, 4, none⟩ = some (.int .u16 n4) := (HB13.out.cell (p := ⟨N, 4, none⟩) (Nat.lt_succ_self N)).trans (HK0.out.cell 4)
        have hsz13 : N + 1 ≤ w13.heap.size := Nat.le_trans hsz12 hb.size
        clear hb HB12 HC0 HPE HH12
        go_upto_region 35 with fail
        have hn3 := HN.out.2.2.2.1
        have hn4 := HN.out.2.2.2.2
        have hek := HE0.out
        have hk0 : (0 : Int) < (k : Int) := by omega
        have hkn : 0 < k := by omega
        clear hp1 hp2 hS12 hS0 hS9 hS10 hS20 hg0 hg8
        go_region_held3 (fun W => (W.cell? ⟨ga, 0, none⟩ = some (.int .i64 e0) ∧ W.cell? ⟨N, 3, none⟩ = some (.int .u16 n3) ∧ W.cell? ⟨N, 4, none⟩ = some (.int .u16 n4))) (go_keep) (fail)
        have w1 := IntWalk.i64_in n3 (by omega)
        have w2 := IntWalk.i64_in n4 (by omega)
        have t1 : n3.tmod 1000 = n3 % 1000 := Int.tmod_eq_emod_of_nonneg hn3.1
        have t2 : n4.tmod 1001 = n4 % 1001 := Int.tmod_eq_emod_of_nonneg hn4.1
        try simp only [w1, w2, t1, t2]
        clear w1 w2 t1 t2
        as_aux_lemma =>
        go_upto_region 37 with fail
        clear hk0 hkn c0 d3 d4
        obtain ⟨wd, hwd⟩ : ∃ y, y = n3 % 1000 := ⟨_, rfl⟩
        obtain ⟨lw, hlw⟩ : ∃ y, y = n4 % 1001 := ⟨_, rfl⟩
        rw [← hwd, ← hlw]
        obtain ⟨hg, hhg⟩ : ∃ y, y = min 1000 (lw + n3 % 400) := ⟨_, rfl⟩
        rw [← hhg]
        have hw0 : 0 ≤ wd := by omega
        have hw1 : wd ≤ 1000 := by omega
        have hl0 : 0 ≤ lw := by omega
        have hh0 : lw ≤ hg := by omega
        have hh1 : hg ≤ 1000 := by omega
        have hin := through_in hek.1 hek.2 hw0 hw1 hl0 hh0 hh1
        obtain ⟨lo, hlo⟩ : ∃ y, y = throughLow e0 (e0 + wd) lw hg := ⟨_, rfl⟩
        obtain ⟨hi, hhi⟩ : ∃ y, y = throughHigh e0 (e0 + wd) lw hg := ⟨_, rfl⟩
        rw [← hlo, ← hhi] at hin
        have HER := Lib.hid hin.1
        have HIN := Lib.hid hin.2
        have HBD : Hid (0 ≤ lo ∧ lo ≤ 2000000000 ∧ 0 ≤ hi ∧ hi ≤ 2000000000) := by
          have h1 := hin.2 e0 lw (Int.le_refl _) (by omega) (Int.le_refl _) hh0
          have h2 := prod_le (x := e0) (f := lw) hek.1 (by omega) hl0 (by omega)
          have h3 := prod_le (x := e0 + wd) (f := hg) (by omega) (by omega) (by omega) hh1
          have h4 : 0 ≤ lo := by rw [hlo]; unfold throughLow; split <;> omega
          have h5 : hi ≤ 2000000000 := by rw [hhi]; unfold throughHigh; split <;> omega
          exact ⟨h4, by omega, by omega, h5⟩
        have HLO := Lib.hid hlo
        have HHI := Lib.hid hhi
        clear hin hlo hhi hwd hlw hhg hn3 hn4
        go_wp2_with fail
        refine Calls.mono (Through_any e0 (e0 + wd) lw hg _) ?_
        rintro y w14 ⟨rfl, hb⟩
        rw [← HLO.out, ← HHI.out, HER.out]
        have HB14 : Hid (Below (N + 1) W0 w14) := (HB13.out.trans ((Below.refl (N + 1) w13).drew)).trans (hb.mono hsz13)
        have hsz14 : N + 1 ≤ w14.heap.size := Nat.le_trans hsz13 hb.size
        clear hb HB13 hsz13 HER HLO HHI
        go_upto_region 38 with fail
        obtain ⟨w15, hX⟩ : ∃ X, X = w14.alloc (.cells #[.int .i64 lo, .int .i64 hi] 49) := ⟨_, rfl⟩
        rw [← hX]
        obtain ⟨hk3, hb⟩ := box_facts _ _ w15 hX
        have BK15 := Lib.hid hk3
        have HB15 : Hid (Below (N + 1) W0 w15) := HB14.out.trans (hb.mono hsz14)
        obtain ⟨q, hq⟩ : ∃ q, q = w14.heap.size := ⟨_, rfl⟩
        rw [← hq] at BK15 ⊢
        clear hb hk3 hX HB14 hsz14 hq
        as_aux_lemma =>
        go_upto_region 41 with fail
        obtain ⟨y1, hy1⟩ : ∃ y, y = e0 + wd / 2 := ⟨_, rfl⟩
        obtain ⟨y2, hy2⟩ : ∃ y, y = e0 + wd := ⟨_, rfl⟩
        rw [← hy1, ← hy2]
        rw [← hy2] at HIN
        have HY : Hid (e0 ≤ y1 ∧ y1 ≤ y2 ∧ e0 ≤ y2 ∧ 0 ≤ e0 ∧ y2 ≤ 1000002000 ∧ 0 ≤ lw ∧ lw ≤ hg ∧ hg ≤ 1000) := ⟨by omega, by omega, by omega, by omega, by omega, by omega, by omega, by omega⟩
        obtain ⟨f1, hf1⟩ : ∃ y, y = (lw + hg) / 2 := ⟨_, rfl⟩
        have HF : Hid (lw ≤ f1 ∧ f1 ≤ hg) := ⟨by omega, by omega⟩
        have HF1 := Lib.hid hf1
        clear hy1 hy2 hf1 hw0 hw1 hl0 hh0 hh1 hek
        go_loopw [354] (fun i wr => ∃ j : Nat, j ≤ 3 ∧ i = .int .i64 (j : Int) ∧ wr = w15) (fun i _ => 3 - (intOf i).toNat)
        case atStart => exact ⟨0, by omega, rfl, rfl⟩
        case round =>
          obtain ⟨j, hj, rfl, hwr⟩ := hrel
          subst hwr
          by_cases hj3 : j < 3
          · obtain ⟨X, hX, hX1, hX2⟩ : ∃ X : Int, (∀ W : World, (Instr.index 159 (.agg #[.int .i64 e0, .int .i64 y1, .int .i64 y2]) (.int .i64 (j : Int))).run Tryz.prog W = .ok (.int .i64 X) W) ∧ e0 ≤ X ∧ X ≤ y2 := by
              have hy := HY.out
              match j, hj3 with
              | 0, _ => exact ⟨e0, fun W => idx3_0 _ _ _ W, by omega, by omega⟩
              | 1, _ => exact ⟨y1, fun W => idx3_1 _ _ _ W, by omega, by omega⟩
              | 2, _ => exact ⟨y2, fun W => idx3_2 _ _ _ W, by omega, by omega⟩
            have hl0 : 0 ≤ lw := HY.out.2.2.2.2.2.1
            have hh0 : lw ≤ hg := HY.out.2.2.2.2.2.2.1
            have hh1 : hg ≤ 1000 := HY.out.2.2.2.2.2.2.2
            have hdj : decide ((j : Int) < 3) = true := decide_eq_true (by omega)
            go_wp2
            rw [← HF1.out]
            clear hdj
            have HX1 : Hid (e0 ≤ X ∧ X ≤ y2) := ⟨hX1, hX2⟩
            clear hl0 hh0 hh1 hX hX1 hX2
            go_loopw [364] (fun i wr2 => ∃ m : Nat, m ≤ 3 ∧ i = .int .i64 (m : Int) ∧ wr2 = wr) (fun i _ => 3 - (intOf i).toNat)
            case atStart => exact ⟨0, by omega, rfl, rfl⟩
            case round =>
              obtain ⟨m, hm, rfl, hwr⟩ := hrel
              subst hwr
              by_cases hm3 : m < 3
              · obtain ⟨F, hF, hF1, hF2⟩ : ∃ F : Int, (∀ W : World, (Instr.index 159 (.agg #[.int .i64 lw, .int .i64 f1, .int .i64 hg]) (.int .i64 (m : Int))).run Tryz.prog W = .ok (.int .i64 F) W) ∧ lw ≤ F ∧ F ≤ hg := by
                  have hy := HY.out; have hf := HF.out
                  match m, hm3 with
                  | 0, _ => exact ⟨lw, fun W => idx3_0 _ _ _ W, by omega, by omega⟩
                  | 1, _ => exact ⟨f1, fun W => idx3_1 _ _ _ W, by omega, by omega⟩
                  | 2, _ => exact ⟨hg, fun W => idx3_2 _ _ _ W, by omega, by omega⟩
                have hy := HY.out; have hlh := HBD.out; have hx := HX1.out
                have hp1 := HIN.out X F hx.1 hx.2 hF1 hF2
                have hp2 := prod_le (x := X) (f := F) (by omega) (by omega) (by omega) (by omega)
                have p1 := hp1.1; have p2 := hp1.2; have p3 := hp2.1; have p4 := hp2.2; have p5 := hlh.1; have p6 := hlh.2.1; have p7 := hlh.2.2.1; have p8 := hlh.2.2.2
                have c0 := BK15.out.cell 0; have c1 := BK15.out.cell 1
                simp only [List.getElem?_toArray, List.getElem?_cons_zero, List.getElem?_cons_succ] at c0 c1
                clear hy hlh hp1 hp2 hx hF1 hF2
                go_wp2
                go_roundw
                case rel =>
                  first
                    | exact ⟨m + 1, by omega, by go_num, trivial⟩
                    | ((repeat apply Exists.intro); exact ⟨⟨m + 1, by omega, by go_num, trivial⟩, rfl⟩)
                case measure => simp [intOf]; omega
              · obtain rfl : m = 3 := by omega
                go_wp2
                go_roundw
                case rel => exact ⟨j + 1, by omega, by go_num, trivial⟩
                case measure => simp [intOf]; omega
          · obtain rfl : j = 3 := by omega
            have HBF : Hid (Below w.heap.size w wr) := by show Below _ _ _; rw [← HNE.out]; exact HB0.out.trans (HB15.out.mono (Nat.le_succ N))
            go_wp2_with fail
            refine Calls.mono (awake_any _ (HST.out.keep HBF.out) (HT.out.keep HBF.out)) ?_
            rintro x w9 ⟨rfl, hb⟩
            have HB9 := Lib.hid (HBF.out.trans (Below.mono hb HBF.out.size))
            clear hb
            go_wp2
            go_ret
            exact ⟨rfl, HB9.out⟩
  · rcases (show n < 1 ∨ (1 ≤ n ∧ 10 < n) by omega) with h | h
    all_goals (
      go_enter Tryz.func13, Tryz.ntmps13
      go_wp2_with fail
      obtain ⟨W0, hW0⟩ : ∃ X, X = w.alloc (.cells #[.int .u16 n0, .int .u16 n1, .int .u16 n2, .int .u16 n3, .int .u16 n4] 155) := ⟨_, rfl⟩
      rw [← hW0]
      have hf := box_facts (W := w) _ _ W0 hW0
      have HB0 := Lib.hid hf.2
      clear hf hW0
      refine Calls.mono (awake_any _ (HST.out.keep HB0.out) (HT.out.keep HB0.out)) ?_
      rintro x w9 ⟨rfl, hb⟩
      have HB9 := Lib.hid (HB0.out.trans (Below.mono hb HB0.out.size))
      clear hb
      go_wp2
      go_ret
      exact ⟨rfl, HB9.out⟩)
end Go.Proofs.YtoipafnlcchmbaaGreatDoor
