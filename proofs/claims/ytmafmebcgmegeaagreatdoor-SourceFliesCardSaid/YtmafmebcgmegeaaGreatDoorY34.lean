/- Texts QN QO of the proof. -/
import Derived.OwnWalk
import Derived.Laws.OwnMore
import Derived.Test.YtmafmebcgmegeaaGreatDoorY23
import Derived.Test.YtmafmebcgmegeaaGreatDoorY16
import Derived.Test.YtmafmebcgmegeaaGreatDoorY22
namespace Go.Proofs.YtmafmebcgmegeaaGreatDoor
open Go.RowKit Go.Sort
theorem OnlyMap.grown {b : Nat} {w0 w w' : World} {row : Option Nat} (h : OnlyMap b w0 w) (hg : w.grownBy w' row) (hr : ∀ j, row = some j → w0.heap.size ≤ j) : OnlyMap b w0 w' :=
  ⟨hg.os.trans h.os, hg.tape.trans h.tape, hg.output.trans h.output, Nat.le_trans h.size hg.size, fun k hk hb => (hg.block k (Nat.lt_of_lt_of_le hk h.size) (fun e => by have := hr k e.symm; omega)).trans (h.block k hk hb)⟩
theorem OnlyMap.setCell {b : Nat} {w : World} (i : Nat) (v : Value) : OnlyMap b w (w.setCell ⟨b, i, none⟩ v) :=
  ⟨rfl, rfl, rfl, by simp, fun k _ hb => Below.heap_setCell w ⟨b, i, none⟩ v k hb⟩
theorem OnlyMap.ints {b n : Nat} {A : Option Addr} {zs : List Int} {w w' : World} (h : OnlyMap b w w') (hz : IntsAt w A n zs) (hne : ∀ a, A = some a → a.block ≠ b) : IntsAt w' A n zs :=
  ⟨hz.1, fun hn => by
    obtain ⟨g, o, rfl, hc⟩ := hz.2 hn
    exact ⟨g, o, rfl, fun i hi => h.cell (hc i hi) (hne _ rfl)⟩⟩
theorem OnlyMap.owns {b base size n : Nat} {e : TypeId} {v : Value} {xs : List Value} {w w' : World} (h : OnlyMap b w w') (ho : w.ownsRow base e size v n xs) (hne : v.ownBlock ≠ some b) : w'.ownsRow base e size v n xs :=
  World.ownsRow.kept ho (row := some b) ⟨h.os, h.tape, h.output, h.size, fun k hk hb => h.block k hk (fun e => hb (by rw [e]))⟩ (.inr hne)
/-- The part of a share. -/
def partE (e s : Int) : Int := e * s / 1000
theorem partE_in {e s : Int} (he : 0 ≤ e ∧ e ≤ 10000000000000) (hs : 0 ≤ s ∧ s ≤ 1000) : 0 ≤ partE e s ∧ partE e s ≤ 10000000000000 ∧ 0 ≤ e * s ∧ e * s ≤ 10000000000000000 := by
  have h1 : 0 ≤ e * s := Int.mul_nonneg he.1 hs.1
  have h2 : e * s ≤ 10000000000000 * 1000 := Int.mul_le_mul he.2 hs.2 hs.1 (by omega)
  unfold partE
  omega
theorem banded1_any (e s L : Int) (g3 g7 : Nat) (w : World) (hc : w.cell? ⟨g3, 0, none⟩ = some (.int .i64 e)) (h7 : Blk w g7 3 #[.int .i64 L]) (he : 0 ≤ e ∧ e ≤ 10000000000000) (hs : 0 ≤ s ∧ s ≤ 1000) (hL : -1000000000000000 ≤ L ∧ L ≤ 1000000000000000) :
    Calls Tryz.prog 98 #[.int .i64 s, .pointer (some ⟨g3, 0, none⟩), .pointer (some ⟨g7, 0, none⟩)] w
      fun x w' => x = .returned (.int .i64 (partE e s)) ∧ Blk w' g7 3 #[.int .i64 (L - partE e s)] ∧ OnlyMap g7 w w' := by
  obtain ⟨p1, p2, p3, p4⟩ := partE_in he hs
  have hw1 : IntKind.i64.wrap (e * s) = e * s := IntWalk.i64_in _ (by omega)
  have hd : (e * s).tdiv 1000 = partE e s := Int.tdiv_eq_ediv_of_nonneg p3
  obtain ⟨P, hP⟩ : ∃ P, P = partE e s := ⟨_, rfl⟩
  rw [← hP] at hd p1 p2 ⊢
  have hw2 : IntKind.i64.wrap P = P := IntWalk.i64_in _ (by omega)
  have hw3 : IntKind.i64.wrap (L - P) = L - P := IntWalk.i64_in _ (by omega)
  have B7 := Lib.hid h7
  have BB := h7
  have HO : Hid (OnlyMap g7 w (w.setCell ⟨g7, 0, none⟩ (.int .i64 (L - P)))) := OnlyMap.setCell _ _
  have HF : Hid (Blk (w.setCell ⟨g7, 0, none⟩ (.int .i64 (L - P))) g7 3 #[.int .i64 (L - P)]) := h7.set_ 0 _
  have zc0 := BB.cell 0; have zf0 := BB.frozen 0
  simp only [List.getElem?_toArray, List.getElem?_cons_zero] at zc0
  clear BB
  clear h7 he hs hP p3 p4
  go_enter Tryz.func98, Tryz.ntmps98
  go_wp2
  go_ret
  exact ⟨rfl, HF.out, HO.out⟩
/-- What the first shares take together. -/
def partTo (sh : List Int) (e : Int) : Nat → Int
  | 0 => 0
  | k + 1 => partTo sh e k + partE e (sh.getD k 0)
theorem partTo_in {sh : List Int} {e : Int} (he : 0 ≤ e ∧ e ≤ 10000000000000) (hs : ∀ x, x ∈ sh → 0 ≤ x ∧ x ≤ 1000) : ∀ k, k ≤ sh.length → 0 ≤ partTo sh e k ∧ partTo sh e k ≤ 10000000000000 * k
  | 0, _ => by simp [partTo]
  | k + 1, hk => by
    have h1 := partTo_in he hs k (by omega)
    have h2 := partE_in he (hs (sh.getD k 0) (by rw [List.getD_eq_getElem?_getD, List.getElem?_eq_getElem (show k < sh.length by omega)]; exact List.getElem_mem _))
    simp only [partTo]
    omega
def partRow (sh : List Int) (e : Int) : Nat → List Value
  | 0 => []
  | k + 1 => partRow sh e k ++ [.int .i64 (partE e (sh.getD k 0))]
theorem partRow_length (sh : List Int) (e : Int) (k : Nat) : (partRow sh e k).length = k := by
  induction k with
  | zero => rfl
  | succ k ih => simp [partRow, ih]
theorem partRow_at (sh : List Int) (e : Int) : ∀ (n i : Nat), i < n → (partRow sh e n)[i]? = some (.int .i64 (partE e (sh.getD i 0)))
  | 0, _, h => absurd h (Nat.not_lt_zero _)
  | n + 1, i, h => by
    have hl := partRow_length sh e n
    simp only [partRow]
    rcases Nat.lt_or_ge i n with h' | h'
    · rw [List.getElem?_append_left (by omega)]; exact partRow_at sh e n i h'
    · obtain rfl : i = n := by omega
      rw [List.getElem?_append_right (by omega), hl]; simp
set_option maxHeartbeats 1000000 in
set_option maxRecDepth 100000 in
theorem mapped_parts (A : Option Addr) (n c : Nat) (sh : List Int) (e : Int) (g3 g7 : Nat) (w : World) (hz : IntsAt w A n sh) (hs : GoodSh sh) (he : 0 ≤ e ∧ e ≤ 10000000000000) (hc : w.cell? ⟨g3, 0, none⟩ = some (.int .i64 e)) (hne3 : g3 ≠ g7) (h7 : Blk w g7 3 #[.int .i64 e]) (hA : ∀ a, A = some a → a.block ≠ g7) :
    Calls Tryz.prog 97 #[.slice A n c, .func (.func 98) #[] #[.pointer (some ⟨g3, 0, none⟩), .pointer (some ⟨g7, 0, none⟩)]] w
      fun x w' => x = .returned (.slice (some ⟨w.heap.size, 0, none⟩) n n) ∧ w'.ownsRow w.heap.size 3 1 (.slice (some ⟨w.heap.size, 0, none⟩) n n) n (partRow sh e n) ∧ Blk w' g7 3 #[.int .i64 (e - partTo sh e n)] ∧ OnlyMap g7 w w' := by
  obtain ⟨i0, hi, hz0, hz1, hz2⟩ := info_parts infoInt
  have HZ := Lib.hid hz
  have HS := Lib.hid hs
  have HE := Lib.hid he
  have HC := Lib.hid hc
  have HA := Lib.hid hA
  have hn : n ≤ 8 := by have := hs.cnt.2; rw [hz.1] at this; exact this
  have hl : Hid (sh.length = n) := hz.1
  have h7l : Hid (g7 < w.heap.size) := lt_of_block h7
  have H7 := Lib.hid h7
  clear hz hs he hc hA h7
  go_enter Tryz.func97, Tryz.ntmps97
  go_wp2_with (at_make; refine wpList_make_own _ rfl _ _ 22 rfl w.heap.size 3 i0 (.int .i64 0) 1 Tryz.underlying22 hi hz0 hz1 _ _ _ n rfl rfl rfl (by rw [hz2]; omega) (by unfold maxLen; omega) (by simp) ?_; intro w1 hown hg1)
  obtain ⟨g, hg⟩ : ∃ g, g = w.heap.size := ⟨_, rfl⟩
  rw [← hg] at hown ⊢
  have HG : Hid (g = w.heap.size) := hg
  have HO : Hid (w1.ownsRow g 3 1 (.slice (some ⟨g, 0, none⟩) 0 n) 0 (partRow sh e 0)) := hown
  have hb1 : Below w.heap.size w w1 := Below.grown (Below.refl _ _) hg1 (Nat.le_refl _) (fun k hk => by cases hk)
  have HM : Hid (OnlyMap g7 w w1) := OnlyMap.of hb1
  have H71 : Hid (Blk w1 g7 3 #[.int .i64 (e - partTo sh e 0)]) := by
    show Blk _ _ _ _
    rw [show e - partTo sh e 0 = e by simp [partTo]]
    exact H7.out.below hb1
  clear hown hg1 hg hb1 H7
  go_wp2
  go_loopw [5, 13] (fun v i wr => ∃ k : Nat, k ≤ n ∧ i = .int .i64 k ∧ v = .slice (some ⟨g, 0, none⟩) k n ∧ Hid (wr.ownsRow g 3 1 (.slice (some ⟨g, 0, none⟩) k n) k (partRow sh e k)) ∧ Hid (Blk wr g7 3 #[.int .i64 (e - partTo sh e k)]) ∧ Hid (OnlyMap g7 w wr)) (fun _ i _ => n - (intOf i).toNat)
  case atStart => exact ⟨0, Nat.zero_le _, rfl, rfl, HO, H71, HM⟩
  case round =>
    clear HO H71 HM
    obtain ⟨k, hk, rfl, rfl, hO, h7, hM⟩ := hrel
    by_cases hlt : k < n
    · obtain ⟨b, o, rfl, hc⟩ := (hM.out.ints HZ.out HA.out).2 (by omega)
      have c1 := hc k hlt
      have hg3 : Hid (wr.cell? ⟨g3, 0, none⟩ = some (.int .i64 e)) := hM.out.cell HC.out hne3
      have hx : Hid (0 ≤ sh.getD k 0 ∧ sh.getD k 0 ≤ 1000) := HS.out.rng _ (by rw [List.getD_eq_getElem?_getD, List.getElem?_eq_getElem (show k < sh.length by rw [hl.out]; exact hlt)]; exact List.getElem_mem _)
      have hT := partTo_in HE.out HS.out.rng k (by rw [hl.out]; exact hk)
      have HR : Hid (partRow sh e (k + 1) = partRow sh e k ++ [.int .i64 (partE e (sh.getD k 0))]) := rfl
      have HT : Hid (e - partTo sh e (k + 1) = e - partTo sh e k - partE e (sh.getD k 0)) := by show _ = _; simp only [partTo]; omega
      have HL : Hid (-1000000000000000 ≤ e - partTo sh e k ∧ e - partTo sh e k ≤ 1000000000000000) := by have := HE.out; show _ ∧ _; omega
      obtain ⟨s, hs⟩ : ∃ s, s = sh.getD k 0 := ⟨_, rfl⟩
      obtain ⟨L, hL⟩ : ∃ L, L = e - partTo sh e k := ⟨_, rfl⟩
      rw [← hs] at c1 hx HR HT
      rw [← hL] at h7 HT HL
      have hgg : Hid ((Value.slice (some ⟨g, 0, none⟩) k n).ownBlock ≠ some g7) := by
        show _ ≠ _
        intro e1
        have e2 : g = g7 := by cases e1; rfl
        have := h7l.out
        rw [HG.out] at e2
        omega
      clear hc hs hL hT
      go_wp2_with fail
      refine (banded1_any e s L g3 g7 wr hg3.out h7.out HE.out hx.out HL.out).mono ?_
      rintro x wb ⟨rfl, h7', ho⟩
      replace h7 : Hid (Blk wb g7 3 #[.int .i64 (e - partTo sh e (k + 1))]) := by show Blk _ _ _ _; rw [HT.out]; exact h7'
      replace hO := Lib.hid (ho.owns hO.out hgg.out)
      replace hM := Lib.hid (hM.out.trans ho)
      have hsz := hM.out.size
      obtain ⟨P, hP⟩ : ∃ P, P = partE e s := ⟨_, rfl⟩
      rw [← hP] at HR ⊢
      clear h7' ho hP c1 hg3
      go_wp2_with (at_builtin; refine wpList_append_fits _ rfl _ _ 22 rfl g 3 i0 1 Tryz.underlying22 hi hz1 g k n (partRow sh e k) rfl (World.ownsRow.alloc hO.out _) ⟨wb.heap.size, 0, none⟩ 1 1 [.int .i64 P] rfl rfl (cell_one_new _ _ _) (by simp [Value.oneCell']) (by omega) ?_; intro w3 hown' hgrow)
      have R : Hid (w3.ownsRow g 3 1 (.slice (some ⟨g, 0, none⟩) (k + 1) n) (k + 1) (partRow sh e (k + 1))) := by
        show World.ownsRow _ _ _ _ _ _ _
        rw [HR.out]
        exact hown'
      have M3 : Hid (OnlyMap g7 w w3) := OnlyMap.grown (hM.out.trans (OnlyMap.of ((Below.refl _ _).alloc (Nat.le_refl _) _))) hgrow (fun j hj => by cases hj; rw [HG.out]; exact Nat.le_refl _)
      have h73 : Hid (Blk w3 g7 3 #[.int .i64 (e - partTo sh e (k + 1))]) := by
        have h1 := h7.out.alloc (.cells #[.int .i64 P] 3)
        refine Eq.trans (hgrow.block g7 (lt_of_block h1) ?_) h1
        intro e1
        have e2 : g7 = g := Option.some.inj e1
        have := h7l.out
        rw [HG.out] at e2
        omega
      clear hown' hgrow hO h7 hM
      go_wp2
      go_roundw
      case rel => exact ⟨k + 1, by omega, by go_num, rfl, R, h73, M3⟩
      case measure => simp [intOf]; omega
    · obtain rfl : k = n := by omega
      go_wp2
      go_ret
      exact ⟨by rw [HG.out]; rfl, by rw [← HG.out]; exact hO.out, h7.out, hM.out⟩
end Go.Proofs.YtmafmebcgmegeaaGreatDoor

namespace Go.Proofs.YtmafmebcgmegeaaGreatDoor
open Go.RowKit Go.Sort
/-- The part of a band: the first one takes what is left. -/
def bandAt (sh : List Int) (e : Int) (n i : Nat) : Int := if i = 0 then partE e (sh.getD 0 0) + (e - partTo sh e n) else partE e (sh.getD i 0)
set_option maxHeartbeats 1000000 in
set_option maxRecDepth 100000 in
theorem Banded_ok {cs : Array Value} {nm : ByteArray} {sh : List Int} {T : Bell.Ty} {sa : Option Addr} {sn sc qb qo qn qc gb go gn gc : Nat} (e : Int) (w : World) (hT : TyOk w cs nm sh T sa sn sc qb qo qn qc gb go gn gc) (he : 0 ≤ e ∧ e ≤ 10000000000000) :
    Calls Tryz.prog 19 #[.agg cs, .int .i64 e] w fun x w' => ∃ g, x = .returned (.tuple #[.slice (some ⟨g, 0, none⟩) sn sn, .int .i64 0]) ∧ (∀ i, i < sn → w'.cell? ⟨g, i, none⟩ = some (.int .i64 (bandAt sh e sn i))) ∧ Below w.heap.size w w' := by
  have HO := Lib.hid hT
  have HS := Lib.hid hT.good.sh
  have HE := Lib.hid he
  have hl : Hid (sh.length = sn) := hT.mem.shares.1
  have hn0 : 0 < sn := by rw [← hl.out]; exact HS.out.cnt.1
  have hn8 : sn ≤ 8 := by rw [← hl.out]; exact HS.out.cnt.2
  have HCE : Hid (∀ W, Calls Tryz.prog 96 #[.int .i64 e] W fun x w' => x = .returned (.int .i64 0) ∧ Below W.heap.size W w') := fun W =>
    (checkEnergy_any e W).mono fun x w' h => by
      obtain ⟨rfl, rfl⟩ := h
      exact ⟨by rw [show checkEnergyE e = 0 from withinE_in he.1 he.2], Below.refl _ _⟩
  clear hT he
  go_enter Tryz.func19, Tryz.ntmps19
  go_upto_region 1 with fail
  obtain ⟨w1, hw1⟩ : ∃ W, W = ((w.alloc (.cells cs 42)).alloc (.cells #[.int .i64 e] 3)) := ⟨_, rfl⟩
  rw [← hw1]
  have B2 : Hid (Blk w1 (w.heap.size) 42 cs) := by show Blk _ _ _ _; rw [hw1]; exact (Blk.new _ _ _).alloc _
  have B3 : Hid (Blk w1 (w.heap.size + 1) 3 #[.int .i64 e]) := by show Blk _ _ _ _; rw [hw1]; exact Blk.at_size _ _ (by simp)
  have hb1 : Below w.heap.size w w1 := by rw [hw1]; exact (((Below.refl _ _).alloc (Nat.le_refl _) _).alloc (by simp) _)
  obtain ⟨g2, hg2⟩ : ∃ g, g = w.heap.size := ⟨_, rfl⟩
  obtain ⟨g3, hg3⟩ : ∃ g, g = w.heap.size + 1 := ⟨_, rfl⟩
  have HGw1 : Hid (g2 = w.heap.size ∧ g3 = w.heap.size + 1) := ⟨hg2, hg3⟩
  rw [← hg3] at B3
  try rw [← hg3]
  rw [← hg2] at B2
  try rw [← hg2]
  clear hw1 hg2 hg3
  have HB : Hid (Below w.heap.size w w1) := hb1
  have HG3 : Hid (g2 ≠ g3) := by show _ ≠ _; rw [HGw1.out.1, HGw1.out.2]; omega
  clear hb1
  have lT := fun d os => HO.out.mem.lv (B2.out.below (below_regrown w1 d os))
  have s0 := fun d os => cell_regrown (B3.out.cell 0) d os
  have c1 := fun nd ns => Calls.regrown_of ((CheckType_ok (grow (redrawn w1 nd) ns) (HO.out.keep (HB.out.trans ((below_regrown w1 nd ns).mono HB.out.size)))))
  have c2 := fun nd ns => Calls.regrown_of ((HCE.out (grow (redrawn w1 nd) ns)))
  refine wp_region_below_tail 4 (by kernel_rfl) (by kernel_rfl) ?_
  simp only [List.take_succ_cons, List.take_zero, List.drop_succ_cons, List.drop_zero]
  refine quiet_load _ _ rfl (by rfl) _ _ rfl lT ?_
  quiet_step (exact c1 _ _)
  iterate 1 (quiet_step (fail))
  quiet_step (exact c2 _ _)
  refine wpQuiet_nil ?_
  intro w2 hq1
  obtain ⟨⟨dq, osq⟩, hq2⟩ := hq1
  have hb2 := below_regrown w1 dq osq
  rw [← hq2] at hb2
  clear hq2
  replace HB := Lib.hid (HB.out.trans (hb2.mono HB.out.size))
  replace B2 := Lib.hid (B2.out.below hb2)
  replace B3 := Lib.hid (B3.out.below hb2)
  clear hb2
  clear lT s0 c1 c2 HCE
  go_wp2_with fail
  obtain ⟨w3, hw3⟩ : ∃ W, W = (w2.alloc (.cells #[.int .i64 0, .int .i64 0] 37)) := ⟨_, rfl⟩
  rw [← hw3]
  have ES : Hid (Blk w3 (w2.heap.size) 37 #[.int .i64 0, .int .i64 0]) := by show Blk _ _ _ _; rw [hw3]; exact Blk.new _ _ _
  have hb3 : Below w2.heap.size w2 w3 := by rw [hw3]; exact ((Below.refl _ _).alloc (Nat.le_refl _) _)
  obtain ⟨ge, hge⟩ : ∃ g, g = w2.heap.size := ⟨_, rfl⟩
  have HGw3 : Hid (ge = w2.heap.size) := hge
  rw [← hge] at ES
  try rw [← hge]
  clear hw3 hge
  replace HB := Lib.hid (HB.out.trans (hb3.mono HB.out.size))
  replace B2 := Lib.hid (B2.out.below hb3)
  replace B3 := Lib.hid (B3.out.below hb3)
  clear hb3
  refine (first2 _ _ 0 0 _ (ES.out.cell 0) (ES.out.cell 1)).mono ?_
  rw [show firstE [0, 0] = 0 from rfl]
  rintro x w4 ⟨rfl, rfl⟩
  clear ES
  have BB := B3.out
  have zc0 := BB.cell 0; have zf0 := BB.frozen 0
  simp only [List.getElem?_toArray, List.getElem?_cons_zero] at zc0
  clear BB
  go_upto_region 5 with fail
  obtain ⟨w5, hw5⟩ : ∃ W, W = (w3.alloc (.cells #[.int .i64 e] 3)) := ⟨_, rfl⟩
  rw [← hw5]
  have B7 : Hid (Blk w5 (w3.heap.size) 3 #[.int .i64 e]) := by show Blk _ _ _ _; rw [hw5]; exact Blk.new _ _ _
  have hb5 : Below w3.heap.size w3 w5 := by rw [hw5]; exact ((Below.refl _ _).alloc (Nat.le_refl _) _)
  obtain ⟨g7, hg7⟩ : ∃ g, g = w3.heap.size := ⟨_, rfl⟩
  have HGw5 : Hid (g7 = w3.heap.size) := hg7
  rw [← hg7] at B7
  try rw [← hg7]
  clear hw5 hg7
  have HG7 : Hid (g3 < g7 ∧ w.heap.size ≤ g7) := ⟨by rw [HGw5.out]; exact lt_of_block B3.out, by rw [HGw5.out]; exact HB.out.size⟩
  replace HB := Lib.hid (HB.out.trans (hb5.mono HB.out.size))
  replace B2 := Lib.hid (B2.out.below hb5)
  replace B3 := Lib.hid (B3.out.below hb5)
  clear hb5
  clear zc0 zf0
  have q1 : w5.cell? ⟨g2, 1, none⟩ = some (.slice sa sn sc) := by
    have := B2.out.cell 1
    rw [HO.out.mem.cells] at this
    exact this.trans rfl
  have HM := Lib.hid (mapped_parts sa sn sc sh e g3 g7 w5 (HO.out.mem.shares.keep HB.out) HS.out HE.out ((B3.out.cell 0).trans rfl) (by have := HG7.out.1; omega) B7.out (fun a ha => by
    obtain ⟨b, off, e1, hc⟩ := HO.out.mem.shares.2 hn0
    rw [ha] at e1
    cases e1
    have h1 := World.block_lt_of_cell? _ _ (hc 0 hn0)
    have h2 := HG7.out.2
    simp only at h1 ⊢
    omega))
  clear B2 B3
  go_wp2_with fail
  refine HM.out.mono ?_
  rintro x w6 ⟨rfl, hown, h7, ho⟩
  have hg8 : w.heap.size ≤ w5.heap.size := HB.out.size
  have hne : Hid (w5.heap.size ≠ g7) := by have := lt_of_block B7.out; show _ ≠ _; omega
  obtain ⟨g8, h8⟩ : ∃ g, g = w5.heap.size := ⟨_, rfl⟩
  rw [← h8] at hown hg8 hne ⊢
  have HG8 := Lib.hid hg8
  have HB6 : Hid (Below w.heap.size w w6) := HB.out.trans (ho.below HB.out.size HG7.out.2)
  obtain ⟨cur, hbk, hcs, _, hcl⟩ := own_full hown
  have B8 := Lib.hid hbk
  have B76 := Lib.hid h7
  have HC : Hid (∀ i, i < sn → w6.cell? ⟨g8, i, none⟩ = some (.int .i64 (partE e (sh.getD i 0)))) := fun i hi => (hown.cellAt i (by omega)).trans (partRow_at sh e sn i hi)
  have c0 := HC.out 0 hn0
  have hP := partE_in HE.out (HS.out.rng (sh.getD 0 0) (by rw [List.getD_eq_getElem?_getD, List.getElem?_eq_getElem (show 0 < sh.length by rw [hl.out]; exact hn0)]; exact List.getElem_mem _))
  have hQ := partTo_in HE.out HS.out.rng sn (by rw [hl.out]; exact Nat.le_refl _)
  have he2 := HE.out
  have HZ0 : Hid (bandAt sh e sn 0 = partE e (sh.getD 0 0) + (e - partTo sh e sn)) := rfl
  obtain ⟨P, hPP⟩ : ∃ P, P = partE e (sh.getD 0 0) := ⟨_, rfl⟩
  obtain ⟨L, hLL⟩ : ∃ L, L = e - partTo sh e sn := ⟨_, rfl⟩
  rw [← hPP] at c0 hP HZ0
  rw [← hLL] at B76 HZ0
  have hwr : IntKind.i64.wrap (P + L) = P + L := IntWalk.i64_in _ (by omega)
  have c1 := (B76.out.cell 0).trans rfl
  have hi0 : (0 : Int) < (sn : Int) := by omega
  clear hown h7 ho hbk hcs hcl hPP hLL hP hQ he2 HM HB B7 q1 h8
  have s8 := fun d os => cell_regrown c0 d os
  have s7 := fun d os => cell_regrown c1 d os
  go_upto_region 6 with fail
  refine wp_region_below_tail 6 (by kernel_rfl) (by kernel_rfl) ?_
  simp only [List.take_succ_cons, List.take_zero, List.drop_succ_cons, List.drop_zero]
  iterate 6 (quiet_step (fail))
  refine wpQuiet_nil ?_
  intro w7 hq1
  obtain ⟨⟨dq, osq⟩, hq2⟩ := hq1
  have hb7 := below_regrown w6 dq osq
  rw [← hq2] at hb7
  clear hq2
  have HC7 : Hid (∀ i, i < sn → w7.cell? ⟨g8, i, none⟩ = some (.int .i64 (partE e (sh.getD i 0)))) := fun i hi => (hb7.cell (p := ⟨g8, i, none⟩) (World.block_lt_of_cell? _ _ (HC.out i hi))).trans (HC.out i hi)
  have z0 := HC7.out 0 hn0
  replace HB6 := Lib.hid (HB6.out.trans (hb7.mono HB6.out.size))
  replace B8 := Lib.hid (B8.out.below hb7)
  clear hb7
  have zf := B8.out.frozen 0
  have HF : Hid (Below w.heap.size w (w7.setCell ⟨g8, 0, none⟩ (.int .i64 (P + L)))) := HB6.out.setCell (p := ⟨g8, 0, none⟩) HG8.out _
  have HCF : Hid (∀ i, i < sn → (w7.setCell ⟨g8, 0, none⟩ (.int .i64 (P + L))).cell? ⟨g8, i, none⟩ = some (.int .i64 (bandAt sh e sn i))) := fun i hi => by
    by_cases h0 : i = 0
    · subst h0
      rw [HZ0.out]
      have hsz : 0 < cur.size := by
        rcases Nat.eq_zero_or_pos cur.size with h | h
        · have h2 := B8.out.cell 0
          rw [z0, Array.getElem?_eq_none (by omega)] at h2
          cases h2
        · exact h
      have := (B8.out.set_ 0 (.int .i64 (P + L))).cell 0
      rw [this]
      simp [hsz]
    · have h1 : bandAt sh e sn i = partE e (sh.getD i 0) := by unfold bandAt; rw [if_neg h0]
      rw [h1, ← HC7.out i hi, (B8.out.set_ 0 (.int .i64 (P + L))).cell i, B8.out.cell i, Array.getElem?_setIfInBounds_ne (by omega)]
  clear HC HC7 s8 s7 c0 c1
  go_wp2
  (try simp only [Exit.inBlock, Exit.then])
  refine bodyPost_ret (v := .tuple #[.slice (some ⟨g8, 0, none⟩) sn sn, .int .i64 0]) (by simp [results, Tryz.results19, go_sem, asAddr]) rfl ?_
  exact ⟨g8, rfl, HCF.out, HF.out⟩
end Go.Proofs.YtmafmebcgmegeaaGreatDoor
