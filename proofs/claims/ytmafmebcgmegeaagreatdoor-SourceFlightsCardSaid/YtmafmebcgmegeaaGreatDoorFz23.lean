/- Texts QN QO Iw Ix QY Qb Wb of the proof. -/
import Derived.OwnWalk
import Derived.Laws.OwnMore
import Derived.Test.YtmafmebcgmegeaaGreatDoorFz17
import Derived.Test.YtmafmebcgmegeaaGreatDoorFz12
import Derived.Test.YtmafmebcgmegeaaGreatDoorFz10
import Derived.Test.YtmafmebcgmegeaaGreatDoorFz21
import Derived.Test.YtmafmebcgmegeaaGreatDoorFz22
namespace Go.Proofs.YtmafmebcgmegeaaGreatDoor
open Go.RowKit Go.Sort
theorem OnlyMap.grown {b : Nat} {w0 w w' : World} {row : Option Nat} (h : OnlyMap b w0 w) (hg : w.grownBy w' row) (hr : ∀ j, row = some j → w0.heap.size ≤ j) : OnlyMap b w0 w' :=
  ⟨hg.os.trans h.os, hg.tape.trans h.tape, hg.output.trans h.output, Nat.le_trans h.size hg.size, fun k hk hb => (hg.block k (Nat.lt_of_lt_of_le hk h.size) (fun e => by have := hr k e.symm; omega)).trans (h.block k hk hb)⟩
theorem OnlyMap.setCell {b : Nat} {w : World} (i : Nat) (v : Value) : OnlyMap b w (w.setCell ⟨b, i, none⟩ v) :=
  ⟨rfl, rfl, rfl, by simp, fun k _ hb => Below.heap_setCell w ⟨b, i, none⟩ v k hb⟩
theorem OnlyMap.ints {b n : Nat} {A : Option Addr} {zs : List Int} {w w' : World} (h : OnlyMap b w w') (hz : IntsAt w A n zs) (hne : ∀ a, A = some a → a.block ≠ b) : IntsAt w' A n zs :=
  ⟨hz.1, fun hn => by
    obtain ⟨g, o, rfl, hc⟩ := hz.2 hn; exact ⟨g, o, rfl, fun i hi => h.cell (hc i hi) (hne _ rfl)⟩⟩
theorem OnlyMap.owns {b base size n : Nat} {e : TypeId} {v : Value} {xs : List Value} {w w' : World} (h : OnlyMap b w w') (ho : w.ownsRow base e size v n xs) (hne : v.ownBlock ≠ some b) : w'.ownsRow base e size v n xs :=
  World.ownsRow.kept ho (row := some b) ⟨h.os, h.tape, h.output, h.size, fun k hk hb => h.block k hk (fun e => hb (by rw [e]))⟩ (.inr hne)
def partE (e s : Int) : Int := e * s / 1000
theorem partE_in {e s : Int} (he : 0 ≤ e ∧ e ≤ 10000000000000) (hs : 0 ≤ s ∧ s ≤ 1000) : 0 ≤ partE e s ∧ partE e s ≤ 10000000000000 ∧ 0 ≤ e * s ∧ e * s ≤ 10000000000000000 := by
  have h1 : 0 ≤ e * s := Int.mul_nonneg he.1 hs.1; have h2 : e * s ≤ 10000000000000 * 1000 := Int.mul_le_mul he.2 hs.2 hs.1 (by omega); unfold partE
  omega
theorem banded1_any (e s L : Int) (g3 g7 : Nat) (w : World) (hc : w.cell? ⟨g3, 0, none⟩ = some (.int .i64 e)) (h7 : Blk w g7 3 #[.int .i64 L]) (he : 0 ≤ e ∧ e ≤ 10000000000000) (hs : 0 ≤ s ∧ s ≤ 1000) (hL : -1000000000000000 ≤ L ∧ L ≤ 1000000000000000) :
    Calls Tryz.prog 98 #[.int .i64 s, .pointer (some ⟨g3, 0, none⟩), .pointer (some ⟨g7, 0, none⟩)] w
      fun x w' => x = .returned (.int .i64 (partE e s)) ∧ Blk w' g7 3 #[.int .i64 (L - partE e s)] ∧ OnlyMap g7 w w' := by
  obtain ⟨p1, p2, p3, p4⟩ := partE_in he hs; have hw1 : IntKind.i64.wrap (e * s) = e * s := IntWalk.i64_in _ (by omega); have hd : (e * s).tdiv 1000 = partE e s := Int.tdiv_eq_ediv_of_nonneg p3; obtain ⟨P, hP⟩ : ∃ P, P = partE e s := ⟨_, rfl⟩; rw [← hP] at hd p1 p2 ⊢; have hw2 : IntKind.i64.wrap P = P := IntWalk.i64_in _ (by omega); have hw3 : IntKind.i64.wrap (L - P) = L - P := IntWalk.i64_in _ (by omega); have B7 := Lib.hid h7; have BB := h7; have HO : Hid (OnlyMap g7 w (w.setCell ⟨g7, 0, none⟩ (.int .i64 (L - P)))) := OnlyMap.setCell _ _; have HF : Hid (Blk (w.setCell ⟨g7, 0, none⟩ (.int .i64 (L - P))) g7 3 #[.int .i64 (L - P)]) := h7.set_ 0 _; have zc0 := BB.cell 0; have zf0 := BB.frozen 0; simp only [List.getElem?_toArray, List.getElem?_cons_zero] at zc0; clear BB; clear h7 he hs hP p3 p4
  go_enter Tryz.func98, Tryz.ntmps98
  go_wp2
  go_ret
  exact ⟨rfl, HF.out, HO.out⟩
def partTo (sh : List Int) (e : Int) : Nat → Int
  | 0 => 0
  | k + 1 => partTo sh e k + partE e (sh.getD k 0)
theorem partTo_in {sh : List Int} {e : Int} (he : 0 ≤ e ∧ e ≤ 10000000000000) (hs : ∀ x, x ∈ sh → 0 ≤ x ∧ x ≤ 1000) : ∀ k, k ≤ sh.length → 0 ≤ partTo sh e k ∧ partTo sh e k ≤ 10000000000000 * k
  | 0, _ => by simp [partTo]
  | k + 1, hk => by
    have h1 := partTo_in he hs k (by omega); have h2 := partE_in he (hs (sh.getD k 0) (by rw [List.getD_eq_getElem?_getD, List.getElem?_eq_getElem (show k < sh.length by omega)]; exact List.getElem_mem _)); simp only [partTo]
    omega
def partRow (sh : List Int) (e : Int) : Nat → List Value
  | 0 => []
  | k + 1 => partRow sh e k ++ [.int .i64 (partE e (sh.getD k 0))]
theorem partRow_length (sh : List Int) (e : Int) (k : Nat) : (partRow sh e k).length = k := by
  induction k with
  | zero => rfl
  | succ k ih => simp [partRow, ih]
theorem partRow_at (sh : List Int) (e : Int) : ∀ (n i : Nat), i < n → (partRow sh e n)[i]? = some (.int .i64 (partE e (sh.getD i 0)))
  | 0, _, h => absurd h (Nat.not_lt_zero _)
  | n + 1, i, h => by
    have hl := partRow_length sh e n; simp only [partRow]; rcases Nat.lt_or_ge i n with h' | h'
    · rw [List.getElem?_append_left (by omega)]; exact partRow_at sh e n i h'
    · obtain rfl : i = n := by omega
      rw [List.getElem?_append_right (by omega), hl]; simp
set_option maxHeartbeats 1000000 in
set_option maxRecDepth 100000 in
theorem mapped_parts (A : Option Addr) (n c : Nat) (sh : List Int) (e : Int) (g3 g7 : Nat) (w : World) (hz : IntsAt w A n sh) (hs : GoodSh sh) (he : 0 ≤ e ∧ e ≤ 10000000000000) (hc : w.cell? ⟨g3, 0, none⟩ = some (.int .i64 e)) (hne3 : g3 ≠ g7) (h7 : Blk w g7 3 #[.int .i64 e]) (hA : ∀ a, A = some a → a.block ≠ g7) :
    Calls Tryz.prog 97 #[.slice A n c, .func (.func 98) #[] #[.pointer (some ⟨g3, 0, none⟩), .pointer (some ⟨g7, 0, none⟩)]] w
      fun x w' => x = .returned (.slice (some ⟨w.heap.size, 0, none⟩) n n) ∧ w'.ownsRow w.heap.size 3 1 (.slice (some ⟨w.heap.size, 0, none⟩) n n) n (partRow sh e n) ∧ Blk w' g7 3 #[.int .i64 (e - partTo sh e n)] ∧ OnlyMap g7 w w' := by
  obtain ⟨i0, hi, hz0, hz1, hz2⟩ := info_parts infoInt; have HZ := Lib.hid hz; have HS := Lib.hid hs; have HE := Lib.hid he; have HC := Lib.hid hc; have HA := Lib.hid hA; have hn : n ≤ 8 := by have := hs.cnt.2; rw [hz.1] at this; exact this
  have hl : Hid (sh.length = n) := hz.1; have h7l : Hid (g7 < w.heap.size) := lt_of_block h7; have H7 := Lib.hid h7; clear hz hs he hc hA h7
  go_enter Tryz.func97, Tryz.ntmps97
  go_wp2_with (at_make; refine wpList_make_own _ rfl _ _ 22 rfl w.heap.size 3 i0 (.int .i64 0) 1 Tryz.underlying22 hi hz0 hz1 _ _ _ n rfl rfl rfl (by rw [hz2]; omega) (by unfold maxLen; omega) (by simp) ?_; intro w1 hown hg1)
  obtain ⟨g, hg⟩ : ∃ g, g = w.heap.size := ⟨_, rfl⟩; rw [← hg] at hown ⊢; have HG : Hid (g = w.heap.size) := hg; have HO : Hid (w1.ownsRow g 3 1 (.slice (some ⟨g, 0, none⟩) 0 n) 0 (partRow sh e 0)) := hown; have hb1 : Below w.heap.size w w1 := Below.grown (Below.refl _ _) hg1 (Nat.le_refl _) (fun k hk => by cases hk); have HM : Hid (OnlyMap g7 w w1) := OnlyMap.of hb1
  have H71 : Hid (Blk w1 g7 3 #[.int .i64 (e - partTo sh e 0)]) := by
    show Blk _ _ _ _
    rw [show e - partTo sh e 0 = e by simp [partTo]]; exact H7.out.below hb1
  clear hown hg1 hg hb1 H7; go_wp2
  go_loopw [5, 13] (fun v i wr => ∃ k : Nat, k ≤ n ∧ i = .int .i64 k ∧ v = .slice (some ⟨g, 0, none⟩) k n ∧ Hid (wr.ownsRow g 3 1 (.slice (some ⟨g, 0, none⟩) k n) k (partRow sh e k)) ∧ Hid (Blk wr g7 3 #[.int .i64 (e - partTo sh e k)]) ∧ Hid (OnlyMap g7 w wr)) (fun _ i _ => n - (intOf i).toNat)
  case atStart => exact ⟨0, Nat.zero_le _, rfl, rfl, HO, H71, HM⟩
  case round =>
    clear HO H71 HM; obtain ⟨k, hk, rfl, rfl, hO, h7, hM⟩ := hrel
    by_cases hlt : k < n
    · obtain ⟨b, o, rfl, hc⟩ := (hM.out.ints HZ.out HA.out).2 (by omega); have c1 := hc k hlt; have hg3 : Hid (wr.cell? ⟨g3, 0, none⟩ = some (.int .i64 e)) := hM.out.cell HC.out hne3; have hx : Hid (0 ≤ sh.getD k 0 ∧ sh.getD k 0 ≤ 1000) := HS.out.rng _ (by rw [List.getD_eq_getElem?_getD, List.getElem?_eq_getElem (show k < sh.length by rw [hl.out]; exact hlt)]; exact List.getElem_mem _); have hT := partTo_in HE.out HS.out.rng k (by rw [hl.out]; exact hk); have HR : Hid (partRow sh e (k + 1) = partRow sh e k ++ [.int .i64 (partE e (sh.getD k 0))]) := rfl; have HT : Hid (e - partTo sh e (k + 1) = e - partTo sh e k - partE e (sh.getD k 0)) := by show _ = _; simp only [partTo]; omega
      have HL : Hid (-1000000000000000 ≤ e - partTo sh e k ∧ e - partTo sh e k ≤ 1000000000000000) := by have := HE.out; show _ ∧ _; omega
      obtain ⟨s, hs⟩ : ∃ s, s = sh.getD k 0 := ⟨_, rfl⟩; obtain ⟨L, hL⟩ : ∃ L, L = e - partTo sh e k := ⟨_, rfl⟩; rw [← hs] at c1 hx HR HT; rw [← hL] at h7 HT HL
      have hgg : Hid ((Value.slice (some ⟨g, 0, none⟩) k n).ownBlock ≠ some g7) := by
        show _ ≠ _
        intro e1; have e2 : g = g7 := by cases e1; rfl
        have := h7l.out; rw [HG.out] at e2
        omega
      clear hc hs hL hT
      go_wp2_with fail
      refine (banded1_any e s L g3 g7 wr hg3.out h7.out HE.out hx.out HL.out).mono ?_; rintro x wb ⟨rfl, h7', ho⟩; replace h7 : Hid (Blk wb g7 3 #[.int .i64 (e - partTo sh e (k + 1))]) := by show Blk _ _ _ _; rw [HT.out]; exact h7'
      replace hO := Lib.hid (ho.owns hO.out hgg.out); replace hM := Lib.hid (hM.out.trans ho); have hsz := hM.out.size; obtain ⟨P, hP⟩ : ∃ P, P = partE e s := ⟨_, rfl⟩; rw [← hP] at HR ⊢; clear h7' ho hP c1 hg3
      go_wp2_with (at_builtin; refine wpList_append_fits _ rfl _ _ 22 rfl g 3 i0 1 Tryz.underlying22 hi hz1 g k n (partRow sh e k) rfl (World.ownsRow.alloc hO.out _) ⟨wb.heap.size, 0, none⟩ 1 1 [.int .i64 P] rfl rfl (cell_one_new _ _ _) (by simp [Value.oneCell']) (by omega) ?_; intro w3 hown' hgrow)
      have R : Hid (w3.ownsRow g 3 1 (.slice (some ⟨g, 0, none⟩) (k + 1) n) (k + 1) (partRow sh e (k + 1))) := by
        show World.ownsRow _ _ _ _ _ _ _
        rw [HR.out]; exact hown'
      have M3 : Hid (OnlyMap g7 w w3) := OnlyMap.grown (hM.out.trans (OnlyMap.of ((Below.refl _ _).alloc (Nat.le_refl _) _))) hgrow (fun j hj => by cases hj; rw [HG.out]; exact Nat.le_refl _)
      have h73 : Hid (Blk w3 g7 3 #[.int .i64 (e - partTo sh e (k + 1))]) := by
        have h1 := h7.out.alloc (.cells #[.int .i64 P] 3); refine Eq.trans (hgrow.block g7 (lt_of_block h1) ?_) h1; intro e1; have e2 : g7 = g := Option.some.inj e1; have := h7l.out; rw [HG.out] at e2
        omega
      clear hown' hgrow hO h7 hM; go_wp2; go_roundw
      case rel => exact ⟨k + 1, by omega, by go_num, rfl, R, h73, M3⟩
      case measure => simp [intOf]; omega
    · obtain rfl : k = n := by omega
      go_wp2
      go_ret
      exact ⟨by rw [HG.out]; rfl, by rw [← HG.out]; exact hO.out, h7.out, hM.out⟩
end Go.Proofs.YtmafmebcgmegeaaGreatDoor

namespace Go.Proofs.YtmafmebcgmegeaaGreatDoor
open Go.RowKit Go.Sort
def bandAt (sh : List Int) (e : Int) (n i : Nat) : Int := if i = 0 then partE e (sh.getD 0 0) + (e - partTo sh e n) else partE e (sh.getD i 0)
set_option maxHeartbeats 1000000 in
set_option maxRecDepth 100000 in
theorem Banded_ok {cs : Array Value} {nm : ByteArray} {sh : List Int} {T : Bell.Ty} {sa : Option Addr} {sn sc qb qo qn qc gb go gn gc : Nat} (e : Int) (w : World) (hT : TyOk w cs nm sh T sa sn sc qb qo qn qc gb go gn gc) (he : 0 ≤ e ∧ e ≤ 10000000000000) :
    Calls Tryz.prog 19 #[.agg cs, .int .i64 e] w fun x w' => ∃ g, x = .returned (.tuple #[.slice (some ⟨g, 0, none⟩) sn sn, .int .i64 0]) ∧ (∀ i, i < sn → w'.cell? ⟨g, i, none⟩ = some (.int .i64 (bandAt sh e sn i))) ∧ Below w.heap.size w w' := by
  have HO := Lib.hid hT; have HS := Lib.hid hT.good.sh; have HE := Lib.hid he; have hl : Hid (sh.length = sn) := hT.mem.shares.1; have hn0 : 0 < sn := by rw [← hl.out]; exact HS.out.cnt.1
  have hn8 : sn ≤ 8 := by rw [← hl.out]; exact HS.out.cnt.2
  have HCE : Hid (∀ W, Calls Tryz.prog 96 #[.int .i64 e] W fun x w' => x = .returned (.int .i64 0) ∧ Below W.heap.size W w') := fun W =>
    (checkEnergy_any e W).mono fun x w' h => by
      obtain ⟨rfl, rfl⟩ := h; exact ⟨by rw [show checkEnergyE e = 0 from withinE_in he.1 he.2], Below.refl _ _⟩
  clear hT he
  go_enter Tryz.func19, Tryz.ntmps19
  go_upto_region 1 with fail
  obtain ⟨w1, hw1⟩ : ∃ W, W = ((w.alloc (.cells cs 42)).alloc (.cells #[.int .i64 e] 3)) := ⟨_, rfl⟩; rw [← hw1]; have B2 : Hid (Blk w1 (w.heap.size) 42 cs) := by show Blk _ _ _ _; rw [hw1]; exact (Blk.new _ _ _).alloc _
  have B3 : Hid (Blk w1 (w.heap.size + 1) 3 #[.int .i64 e]) := by show Blk _ _ _ _; rw [hw1]; exact Blk.at_size _ _ (by simp)
  have hb1 : Below w.heap.size w w1 := by rw [hw1]; exact (((Below.refl _ _).alloc (Nat.le_refl _) _).alloc (by simp) _)
  obtain ⟨g2, hg2⟩ : ∃ g, g = w.heap.size := ⟨_, rfl⟩; obtain ⟨g3, hg3⟩ : ∃ g, g = w.heap.size + 1 := ⟨_, rfl⟩; have HGw1 : Hid (g2 = w.heap.size ∧ g3 = w.heap.size + 1) := ⟨hg2, hg3⟩; rw [← hg3] at B3
  try rw [← hg3]
  rw [← hg2] at B2
  try rw [← hg2]
  clear hw1 hg2 hg3; have HB : Hid (Below w.heap.size w w1) := hb1; have HG3 : Hid (g2 ≠ g3) := by show _ ≠ _; rw [HGw1.out.1, HGw1.out.2]; omega
  clear hb1; have lT := fun d os => HO.out.mem.lv (B2.out.below (below_regrown w1 d os))
  have s0 := fun d os => cell_regrown (B3.out.cell 0) d os
  have c1 := fun nd ns => Calls.regrown_of ((CheckType_ok (grow (redrawn w1 nd) ns) (HO.out.keep (HB.out.trans ((below_regrown w1 nd ns).mono HB.out.size)))))
  have c2 := fun nd ns => Calls.regrown_of ((HCE.out (grow (redrawn w1 nd) ns)))
  refine wp_region_below_tail 4 (by kernel_rfl) (by kernel_rfl) ?_; simp only [List.take_succ_cons, List.take_zero, List.drop_succ_cons, List.drop_zero]; refine quiet_load _ _ rfl (by rfl) _ _ rfl lT ?_
  quiet_step (exact c1 _ _)
  iterate 1 (quiet_step (fail))
  quiet_step (exact c2 _ _)
  refine wpQuiet_nil ?_; intro w2 hq1; obtain ⟨⟨dq, osq⟩, hq2⟩ := hq1; have hb2 := below_regrown w1 dq osq; rw [← hq2] at hb2; clear hq2; replace HB := Lib.hid (HB.out.trans (hb2.mono HB.out.size)); replace B2 := Lib.hid (B2.out.below hb2); replace B3 := Lib.hid (B3.out.below hb2); clear hb2; clear lT s0 c1 c2 HCE
  go_wp2_with fail
  obtain ⟨w3, hw3⟩ : ∃ W, W = (w2.alloc (.cells #[.int .i64 0, .int .i64 0] 37)) := ⟨_, rfl⟩; rw [← hw3]; have ES : Hid (Blk w3 (w2.heap.size) 37 #[.int .i64 0, .int .i64 0]) := by show Blk _ _ _ _; rw [hw3]; exact Blk.new _ _ _
  have hb3 : Below w2.heap.size w2 w3 := by rw [hw3]; exact ((Below.refl _ _).alloc (Nat.le_refl _) _)
  obtain ⟨ge, hge⟩ : ∃ g, g = w2.heap.size := ⟨_, rfl⟩; have HGw3 : Hid (ge = w2.heap.size) := hge; rw [← hge] at ES
  try rw [← hge]
  clear hw3 hge; replace HB := Lib.hid (HB.out.trans (hb3.mono HB.out.size)); replace B2 := Lib.hid (B2.out.below hb3); replace B3 := Lib.hid (B3.out.below hb3); clear hb3; refine (first2 _ _ 0 0 _ (ES.out.cell 0) (ES.out.cell 1)).mono ?_; rw [show firstE [0, 0] = 0 from rfl]; rintro x w4 ⟨rfl, rfl⟩; clear ES; have BB := B3.out; have zc0 := BB.cell 0; have zf0 := BB.frozen 0; simp only [List.getElem?_toArray, List.getElem?_cons_zero] at zc0; clear BB
  go_upto_region 5 with fail
  obtain ⟨w5, hw5⟩ : ∃ W, W = (w3.alloc (.cells #[.int .i64 e] 3)) := ⟨_, rfl⟩; rw [← hw5]; have B7 : Hid (Blk w5 (w3.heap.size) 3 #[.int .i64 e]) := by show Blk _ _ _ _; rw [hw5]; exact Blk.new _ _ _
  have hb5 : Below w3.heap.size w3 w5 := by rw [hw5]; exact ((Below.refl _ _).alloc (Nat.le_refl _) _)
  obtain ⟨g7, hg7⟩ : ∃ g, g = w3.heap.size := ⟨_, rfl⟩; have HGw5 : Hid (g7 = w3.heap.size) := hg7; rw [← hg7] at B7
  try rw [← hg7]
  clear hw5 hg7; have HG7 : Hid (g3 < g7 ∧ w.heap.size ≤ g7) := ⟨by rw [HGw5.out]; exact lt_of_block B3.out, by rw [HGw5.out]; exact HB.out.size⟩; replace HB := Lib.hid (HB.out.trans (hb5.mono HB.out.size)); replace B2 := Lib.hid (B2.out.below hb5); replace B3 := Lib.hid (B3.out.below hb5); clear hb5; clear zc0 zf0
  have q1 : w5.cell? ⟨g2, 1, none⟩ = some (.slice sa sn sc) := by
    have := B2.out.cell 1; rw [HO.out.mem.cells] at this; exact this.trans rfl
  have HM := Lib.hid (mapped_parts sa sn sc sh e g3 g7 w5 (HO.out.mem.shares.keep HB.out) HS.out HE.out ((B3.out.cell 0).trans rfl) (by have := HG7.out.1; omega) B7.out (fun a ha => by
    obtain ⟨b, off, e1, hc⟩ := HO.out.mem.shares.2 hn0; rw [ha] at e1
    cases e1
    have h1 := World.block_lt_of_cell? _ _ (hc 0 hn0); have h2 := HG7.out.2; simp only at h1 ⊢
    omega))
  clear B2 B3
  go_wp2_with fail
  refine HM.out.mono ?_; rintro x w6 ⟨rfl, hown, h7, ho⟩; have hg8 : w.heap.size ≤ w5.heap.size := HB.out.size; have hne : Hid (w5.heap.size ≠ g7) := by have := lt_of_block B7.out; show _ ≠ _; omega
  obtain ⟨g8, h8⟩ : ∃ g, g = w5.heap.size := ⟨_, rfl⟩; rw [← h8] at hown hg8 hne ⊢; have HG8 := Lib.hid hg8; have HB6 : Hid (Below w.heap.size w w6) := HB.out.trans (ho.below HB.out.size HG7.out.2); obtain ⟨cur, hbk, hcs, _, hcl⟩ := own_full hown; have B8 := Lib.hid hbk; have B76 := Lib.hid h7; have HC : Hid (∀ i, i < sn → w6.cell? ⟨g8, i, none⟩ = some (.int .i64 (partE e (sh.getD i 0)))) := fun i hi => (hown.cellAt i (by omega)).trans (partRow_at sh e sn i hi)
  have c0 := HC.out 0 hn0; have hP := partE_in HE.out (HS.out.rng (sh.getD 0 0) (by rw [List.getD_eq_getElem?_getD, List.getElem?_eq_getElem (show 0 < sh.length by rw [hl.out]; exact hn0)]; exact List.getElem_mem _)); have hQ := partTo_in HE.out HS.out.rng sn (by rw [hl.out]; exact Nat.le_refl _); have he2 := HE.out; have HZ0 : Hid (bandAt sh e sn 0 = partE e (sh.getD 0 0) + (e - partTo sh e sn)) := rfl; obtain ⟨P, hPP⟩ : ∃ P, P = partE e (sh.getD 0 0) := ⟨_, rfl⟩; obtain ⟨L, hLL⟩ : ∃ L, L = e - partTo sh e sn := ⟨_, rfl⟩; rw [← hPP] at c0 hP HZ0; rw [← hLL] at B76 HZ0; have hwr : IntKind.i64.wrap (P + L) = P + L := IntWalk.i64_in _ (by omega); have c1 := (B76.out.cell 0).trans rfl; have hi0 : (0 : Int) < (sn : Int) := by omega
  clear hown h7 ho hbk hcs hcl hPP hLL hP hQ he2 HM HB B7 q1 h8; have s8 := fun d os => cell_regrown c0 d os
  have s7 := fun d os => cell_regrown c1 d os
  go_upto_region 6 with fail
  refine wp_region_below_tail 6 (by kernel_rfl) (by kernel_rfl) ?_; simp only [List.take_succ_cons, List.take_zero, List.drop_succ_cons, List.drop_zero]
  iterate 6 (quiet_step (fail))
  refine wpQuiet_nil ?_; intro w7 hq1; obtain ⟨⟨dq, osq⟩, hq2⟩ := hq1; have hb7 := below_regrown w6 dq osq; rw [← hq2] at hb7; clear hq2; have HC7 : Hid (∀ i, i < sn → w7.cell? ⟨g8, i, none⟩ = some (.int .i64 (partE e (sh.getD i 0)))) := fun i hi => (hb7.cell (p := ⟨g8, i, none⟩) (World.block_lt_of_cell? _ _ (HC.out i hi))).trans (HC.out i hi)
  have z0 := HC7.out 0 hn0; replace HB6 := Lib.hid (HB6.out.trans (hb7.mono HB6.out.size)); replace B8 := Lib.hid (B8.out.below hb7); clear hb7; have zf := B8.out.frozen 0; have HF : Hid (Below w.heap.size w (w7.setCell ⟨g8, 0, none⟩ (.int .i64 (P + L)))) := HB6.out.setCell (p := ⟨g8, 0, none⟩) HG8.out _
  have HCF : Hid (∀ i, i < sn → (w7.setCell ⟨g8, 0, none⟩ (.int .i64 (P + L))).cell? ⟨g8, i, none⟩ = some (.int .i64 (bandAt sh e sn i))) := fun i hi => by
    by_cases h0 : i = 0
    · subst h0; rw [HZ0.out]
      have hsz : 0 < cur.size := by
        rcases Nat.eq_zero_or_pos cur.size with h | h
        · have h2 := B8.out.cell 0; rw [z0, Array.getElem?_eq_none (by omega)] at h2
          cases h2
        · exact h
      have := (B8.out.set_ 0 (.int .i64 (P + L))).cell 0; rw [this]
      simp [hsz]
    · have h1 : bandAt sh e sn i = partE e (sh.getD i 0) := by unfold bandAt; rw [if_neg h0]
      rw [h1, ← HC7.out i hi, (B8.out.set_ 0 (.int .i64 (P + L))).cell i, B8.out.cell i, Array.getElem?_setIfInBounds_ne (by omega)]
  clear HC HC7 s8 s7 c0 c1; go_wp2
  (try simp only [Exit.inBlock, Exit.then])
  refine bodyPost_ret (v := .tuple #[.slice (some ⟨g8, 0, none⟩) sn sn, .int .i64 0]) (by simp [results, Tryz.results19, go_sem, asAddr]) rfl ?_; exact ⟨g8, rfl, HCF.out, HF.out⟩
end Go.Proofs.YtmafmebcgmegeaaGreatDoor

namespace Go.Proofs.YtmafmebcgmegeaaGreatDoor
open Go.RowKit Go.Sort
theorem placeE_good {r : Bell.Pl} (h : placeE r.x r.y r.z = 0) : GoodPl r := by
  obtain ⟨a1, a2, a3, a4⟩ := placeE_zero h; exact ⟨a1, a2, a3, a4⟩
end Go.Proofs.YtmafmebcgmegeaaGreatDoor

namespace Go.Proofs.YtmafmebcgmegeaaGreatDoor
open Go.RowKit
def allB (ops : Array Oper) : Bool := (List.range ops.size).all fun i => match ops[i]? with
  | none => false
  | some o => o.guard.isNone && (o.after.all fun e => !Region.binds .any e || decide (e.on < i)) && (match o.dst with | none => false | some t => (List.range ops.size).all fun j => decide (j = i) || decide (dstAt ops j ≠ some t))
theorem allB_spec {ops : Array Oper} (h : allB ops = true) : (∀ i, i < ops.size → ∃ o t, ops[i]? = some o ∧ o.guard = none ∧ o.dst = some t ∧ (∀ j, j < ops.size → j ≠ i → dstAt ops j ≠ some t) ∧ ∀ e, e ∈ o.after → Region.binds .any e = true → e.on < i) := by
  intro i hi; unfold allB at h; have h1 := List.all_eq_true.1 h i (by simpa using hi)
  cases ho : ops[i]? with
  | none => rw [ho] at h1; simp at h1
  | some o =>
    rw [ho] at h1; simp only [Bool.and_eq_true] at h1; obtain ⟨⟨h2, h4⟩, h3⟩ := h1
    cases hd : o.dst with
    | none => rw [hd] at h3; simp at h3
    | some t =>
      rw [hd] at h3; refine ⟨o, t, rfl, by simpa using h2, hd, fun j hj hji => ?_, fun e he hb => ?_⟩
      · have := List.all_eq_true.1 h3 j (by simpa using hj)
        simpa [hji] using this
      · have := Array.all_eq_true_iff_forall_mem.1 h4 e he
        simpa [hb] using this
theorem allReady {ops : Array Oper} {seen : Array Bool} (hB : allB ops = true) (inv : HeadInv .any ops ops.size seen) : ∀ {i : Nat}, i < ops.size → seen.getD i true = false → ∃ k, k < ops.size ∧ k ∈ Region.ready .any ops seen := by
  intro i
  induction i using Nat.strongRecOn with
  | _ i ih =>
    intro hi hun; obtain ⟨o, t, ho, _, _, _, hb⟩ := allB_spec hB i hi
    by_cases hall : ∀ e, e ∈ o.after → Region.binds .any e = true → seen.getD e.on false = true
    · exact ⟨i, hi, mem_ready.2 ⟨hun, o, ho, hall⟩⟩
    · simp only [Classical.not_forall] at hall; obtain ⟨e, he, hbe, hne⟩ := hall; have h1 := hb e he hbe; have hlt : i < ops.size := (Array.getElem?_eq_some_iff.1 ho).1; exact ih e.on h1 (by omega) (getD_in (by rw [inv.size]; omega) (by simpa using hne))
theorem wp_region_all {P : Program} {id : Nat} {Q : Exit → Act → World → Prop} {f : Act} {w : World} {l : List Oper} (hm : P.follows .mixedOrders = true) (hB : allB l.toArray = true) (Rs : List GR) (size : Nat) (hsz : f.tmps.size = size) (hfB : dstB l.toArray l.length size = true)
    (hstep : growSteps P Q l.toArray f w Rs l.length l 0)
    (h : ∀ (vs : Nat → Value) (W : World), Ext w W → (∀ i, i < l.length → (GR.at Rs i).r (vs i) W) → wpList P l.toArray Q [] ((List.range l.length).foldl (fun a i => a.put (dstAt l.toArray i) (vs i)) f) W) : (Code.region id l.toArray true).wp P Q f w := by
  obtain ⟨n, hn⟩ : ∃ n, n = l.length := ⟨_, rfl⟩; rw [← hn] at hfB hstep h
  have hf : ∀ i t, i < n → dstAt l.toArray i = some t → t < f.tmps.size := fun i t hi ht => by
    have := List.all_eq_true.1 hfB i (by simpa using hi); rw [ht] at this; rw [hsz]
    simpa using this
  have hspec := allB_spec hB; have hnz : l.toArray.size = n := by rw [hn]; simp
  have hspec : ∀ i, i < n → ∃ o t, l.toArray[i]? = some o ∧ o.guard = none ∧ o.dst = some t ∧ (∀ j, j < n → j ≠ i → dstAt l.toArray j ≠ some t) ∧ ∀ e, e ∈ o.after → Region.binds .any e = true → e.on < i := by
    rw [← hnz]; exact hspec
  have hdl : ([] : List Oper).length = l.toArray.size - n := by rw [hnz]; simp
  refine wp_region_any hm ?_
  -- the count of operations of the head that are still to come
  have main : ∀ (g : Nat) (seen : Array Bool) (vs : Nat → Value) (W : World), ((List.range n).filter fun i => !seen.getD i true).length = g → HeadInv .any l.toArray n seen → Ext w W → (∀ i, i < n → seen.getD i false = true → (GR.at Rs i).r (vs i) W) →
      wpAny P .any l.toArray Q (g + (l.toArray.size - n)) seen (fillA l.toArray vs seen (List.range n) f) W := by
    intro g
    induction g with
    | zero =>
      intro seen vs W hg inv hE hR
      have hall : ∀ i, i < n → seen.getD i true = true := fun i hi => by
        have := List.eq_nil_of_length_eq_zero hg; rw [List.filter_eq_nil_iff] at this
        simpa using this i (by simpa using hi)
      have hsz := inv.size
      have hall' : ∀ i, i < n → seen.getD i false = true := fun i hi => by
        have h1 : i < seen.size := by rw [hsz]; omega
        have h2 := hall i hi
        simp [h1] at h2 ⊢; exact h2
      have hseen : seen = (Array.replicate n true) ++ (Array.replicate (l.toArray.size - n) false) := by
        refine Array.ext (by simp [hsz]; omega) fun i h1 h2 => ?_
        rcases Nat.lt_or_ge i n with hi | hi
        · have h3 := hall i hi
          simp [h1] at h3
          rw [h3, Array.getElem_append_left (by simpa using hi)]
          simp
        · have h3 := inv.tail i hi (by rw [← hsz]; exact h1)
          simp [h1] at h3
          rw [h3, Array.getElem_append_right (by simpa using hi)]
          simp
      have hfill : fillA l.toArray vs seen (List.range n) f = (List.range n).foldl (fun a i => a.put (dstAt l.toArray i) (vs i)) f := by
        have : ∀ (t : List Nat) (f : Act), (∀ i, i ∈ t → i < n) → fillA l.toArray vs seen t f = t.foldl (fun a i => a.put (dstAt l.toArray i) (vs i)) f := by
          intro t
          induction t with
          | nil => intro f _; rfl
          | cons k t ih =>
            intro f ht; rw [fillA_cons, List.foldl_cons, if_pos (hall' k (ht k (by simp)))]; exact ih _ fun i hi => ht i (List.mem_cons_of_mem _ hi)
        exact this _ _ fun i hi => by simpa using hi
      rw [hfill, Nat.zero_add]
      have := wpAny_of_seq (md := .any) (Q' := Q) ([] : List Oper) n seen _ W (fun j => by simp [hn]) (by
        show (Region.ready .any l.toArray seen).isEmpty = true
        rw [List.isEmpty_iff, List.eq_nil_iff_forall_not_mem]; intro j hj; obtain ⟨h1, o, h2, _⟩ := mem_ready.1 hj; have h3 := hall j (by rw [← hnz]; exact (Array.getElem?_eq_some_iff.1 h2).1); rw [h3] at h1
        cases h1) (h vs W hE fun i hi => hR i hi (hall' i hi))
      rwa [hdl] at this
    | succ g ih =>
      intro seen vs W hg inv hE hR
      obtain ⟨i0, hi0⟩ : ∃ i, i ∈ (List.range n).filter fun i => !seen.getD i true := by
        cases hl : (List.range n).filter fun i => !seen.getD i true with
        | nil => rw [hl] at hg; simp at hg
        | cons b t => exact ⟨b, by simp⟩
      rw [List.mem_filter] at hi0; have hi1 : i0 < n := by simpa using hi0.1
      have hi2 : seen.getD i0 true = false := by simpa using hi0.2
      have early : ∀ j, j ∈ Region.ready .any l.toArray seen → j < n := fun j hj => by
        obtain ⟨_, o, ho, _⟩ := mem_ready.1 hj; rw [← hnz]; exact (Array.getElem?_eq_some_iff.1 ho).1
      rw [show g + 1 + (l.toArray.size - n) = (g + (l.toArray.size - n)) + 1 by omega]; refine ⟨fun hnil => ?_, fun i hi => ?_⟩
      · -- some operation of the head is ready: the first of those that are still to come by the order of its waits
        exfalso
        have hmin : ∃ i, i < n ∧ i ∈ Region.ready .any l.toArray seen := by
          have h9 := allReady hB (by rw [hnz]; exact inv) (by rw [hnz]; exact hi1) hi2; rw [hnz] at h9; exact h9
        obtain ⟨i, _, hir⟩ := hmin; rw [hnil] at hir
        cases hir
      · have hin := early i hi; obtain ⟨hun, o', ho', hall⟩ := mem_ready.1 hi; obtain ⟨o, t, ho, hgd, hdst, hdis, _⟩ := hspec i hin; have : o' = o := Option.some.inj (ho'.symm.trans ho); subst this; have hdi : dstAt l.toArray i = some t := by simp [dstAt, ho, hdst]
        have hlo : l[i]? = some o' := by simpa using ho
        have st := growSteps_at l 0 hstep i o' hlo; rw [Nat.zero_add] at st; have hnd : (List.range n).Nodup := List.nodup_range; have hisz : i < seen.size := by rw [inv.size]; omega
        have hus : seen.getD i false = false := getD_both hun; unfold wpOp; simp only [ho]; rw [if_pos (by simp [Region.wanted, hgd])]; refine Or.inl (Oper.wp_mono ?_ (st _ W hE ?_ ?_))
        · rintro a' W' ⟨v, rfl, hE', hr⟩; rw [hdst, ← hdi, ← fillA_put (vs := vs) (v := v) hus hisz (List.range n) f (by simpa using hin) hnd (fun j hj hji d hd => by rw [hdi]; intro e; exact hdis j (by simpa using hj) hji (hd.trans e.symm))]; refine ih _ _ _ ?_ (inv.set hi hin) (hE.trans hE') fun j hj hsj => ?_
          · have hlen := filter_set hisz hun n hin
            omega
          · by_cases hji : i = j
            · subst hji; rw [show updN vs i v i = v by simp [updN]]; exact hr
            · rw [getD_set_ne false hji] at hsj; rw [show updN vs i v j = vs j by simp [updN, Ne.symm hji]]; exact (GR.at Rs j).keep (hR j hj hsj) hE'
        · intro j t' hj hd; obtain ⟨e, he, hh⟩ := Array.any_eq_true'.1 hj; simp only [Bool.and_eq_true, decide_eq_true_eq] at hh; obtain ⟨hb, rfl⟩ := hh; have hsj := hall e he hb
          have hjn : e.on < n := by
            rcases Nat.lt_or_ge e.on n with h1 | h1
            · exact h1
            · exfalso
              rcases Nat.lt_or_ge e.on l.toArray.size with h2 | h2
              · have h3 := getD_both (inv.tail e.on h1 h2); rw [h3] at hsj; cases hsj
              · rw [Array.getD_eq_getD_getElem?, Array.getElem?_eq_none (by rw [inv.size]; exact h2)] at hsj
                simp at hsj
          rw [← eval_getD, fillA_at hsj hd (List.range n) f (hf _ _ hjn hd) (by simpa using hjn) hnd (fun k hk hkj hk2 => by
            obtain ⟨o2, t2, ho2, _, hd2, hdis2, _⟩ := hspec e.on hjn; have e2 : dstAt l.toArray e.on = some t2 := by simp [dstAt, ho2, hd2]
            rw [e2] at hd; exact hdis2 k (by simpa using hk) hkj (by rw [hk2, hd]))]
          exact hR _ hjn hsj
        · intro t' hx; rw [← eval_getD, ← eval_getD]; refine fillA_other (List.range n) f fun j hj => ?_
          have := List.all_eq_true.1 hx j hj
          simpa using this
  have h0 := main n (Array.replicate l.toArray.size false) (fun _ => undef) w.drew ?_ ⟨by simp, fun j oj _ hl => (by rw [getD_replicate_false] at hl; cases hl), fun t _ ht => getD_in (by simpa using ht) (getD_replicate_false _ _)⟩ (Ext.drew w) (fun i _ hl => by rw [getD_replicate_false] at hl; cases hl)
  · have hfill : fillA l.toArray (fun _ => undef) (Array.replicate l.toArray.size false) (List.range n) f = f := by
      have : ∀ (t : List Nat) (f : Act), fillA l.toArray (fun _ => undef) (Array.replicate l.toArray.size false) t f = f := by
        intro t
        induction t with
        | nil => intro f; rfl
        | cons k t ih =>
          intro f; rw [fillA_cons, if_neg (by rw [getD_replicate_false]; decide)]; exact ih f
      exact this _ _
    rw [hfill, show n + (l.toArray.size - n) = l.toArray.size by omega] at h0; exact h0
  · have : (List.range n).filter (fun i => !(Array.replicate l.toArray.size false).getD i true) = List.range n := by
      rw [List.filter_eq_self]; intro i hi; have : i < n := by simpa using hi
      have : i < l.length := by omega
      simp [this]
    rw [this]
    simp
theorem wp_region_allN {P : Program} {id : Nat} {Q : Exit → Act → World → Prop} {f : Act} {w : World} {l : List Oper} (n : Nat) (hn : l.length = n) (hm : P.follows .mixedOrders = true) (hB : allB l.toArray = true) (Rs : List GR) (size : Nat) (hsz : f.tmps.size = size) (hfB : dstB l.toArray n size = true)
    (hstep : growSteps P Q l.toArray f w Rs n l 0)
    (h : ∀ (vs : Nat → Value) (W : World), Ext w W → (∀ i, i < n → (GR.at Rs i).r (vs i) W) → wpList P l.toArray Q [] ((List.range n).foldl (fun a i => a.put (dstAt l.toArray i) (vs i)) f) W) : (Code.region id l.toArray true).wp P Q f w := by
  subst hn; exact wp_region_all hm hB Rs size hsz hfB hstep h
end Go.Proofs.YtmafmebcgmegeaaGreatDoor

namespace Go.Proofs.YtmafmebcgmegeaaGreatDoor
open Go.RowKit Go.Sort
def GR.row (n : Nat) (T : TypeId) (cs : Array Value) : GR := ⟨fun v W => ∃ g, v = .slice (some ⟨g, 0, none⟩) n n ∧ Blk W g T cs, fun ⟨g, e, h⟩ hE => ⟨g, e, h.below hE⟩⟩
end Go.Proofs.YtmafmebcgmegeaaGreatDoor

namespace Go.Proofs.YtmafmebcgmegeaaGreatDoor
open Go.RowKit Go.Sort
structure TyAny (w : World) (cs : Array Value) (nm : ByteArray) (sh : List Int) (T : Bell.Ty) (sa : Option Addr) (sn sc : Nat) (qa : Option Addr) (qn qc : Nat) (ga : Option Addr) (gn gc : Nat) : Prop where
  rty : RTy w cs nm sh T sa sn sc qa qn qc ga gn gc
  d8 : T.direct.length = 8
  nsz : nm.size ≤ 140737488351232
  ssz : sn ≤ 140737488351232
  qsz : qn ≤ 140737488351232
  cap : qn ≤ qc ∧ qc ≤ 9223372036854775807
  esz : ∀ k, k < gn → ((T.sets.getD k (0, [])).2).length ≤ 140737488351232
theorem TyAny.keep {w w' : World} {cs : Array Value} {nm : ByteArray} {sh : List Int} {T : Bell.Ty} {sa : Option Addr} {sn sc : Nat} {qa : Option Addr} {qn qc : Nat} {ga : Option Addr} {gn gc : Nat} (h : TyAny w cs nm sh T sa sn sc qa qn qc ga gn gc) (hb : Below w.heap.size w w') : TyAny w' cs nm sh T sa sn sc qa qn qc ga gn gc :=
  ⟨h.rty.keep hb, h.d8, h.nsz, h.ssz, h.qsz, h.cap, h.esz⟩
theorem TyAny.check {w : World} {cs : Array Value} {nm : ByteArray} {sh : List Int} {T : Bell.Ty} {sa : Option Addr} {sn sc : Nat} {qa : Option Addr} {qn qc : Nat} {ga : Option Addr} {gn gc : Nat} (h : TyAny w cs nm sh T sa sn sc qa qn qc ga gn gc) :
    Calls Tryz.prog 32 #[.agg cs] w fun e w' => e = .returned (.int .i64 (Bell.tyE (nameE nm) sh T)) ∧ Below w.heap.size w w' :=
  CheckType_any w h.rty h.d8 h.nsz h.ssz h.qsz h.cap h.esz
theorem nameE_zero {s : ByteArray} (h : nameE s = 0) : nameB s = true := by
  unfold nameE at h
  split at h
  · assumption
  · omega
theorem tyE_split {e : Int} {sh : List Int} {T : Bell.Ty} (h : Bell.tyE e sh T = 0) : e = 0 ∧ Bell.tyE 0 sh T = 0 := by
  have h1 := h; unfold Bell.tyE at h1; rw [Bell.thenE_zero, Bell.firstE_zero] at h1; obtain rfl := h1.1 e (by simp); exact ⟨rfl, h⟩
theorem TyAny.ok {w : World} {cs : Array Value} {nm : ByteArray} {sh : List Int} {T : Bell.Ty} {sa : Option Addr} {sn sc : Nat} {qa : Option Addr} {qn qc : Nat} {ga : Option Addr} {gn gc : Nat} (h : TyAny w cs nm sh T sa sn sc qa qn qc ga gn gc) (h0 : Bell.tyE (nameE nm) sh T = 0) : ∃ qb qo gb go, qa = some ⟨qb, qo, none⟩ ∧ ga = some ⟨gb, go, none⟩ ∧ TyOk w cs nm sh T sa sn sc qb qo qn qc gb go gn gc := by
  obtain ⟨e1, e2⟩ := tyE_split h0; have hG : GoodT sh T := ⟨h.d8, e2⟩; obtain ⟨⟨c1, c2⟩, c3, c4⟩ := hG.cnt; obtain ⟨qb, qo, rfl, hq⟩ := h.rty.squares.2 (by rw [← h.rty.squares.1]; exact c3); obtain ⟨gb, go, rfl, hs⟩ := h.rty.sets.2 (by rw [← h.rty.sets.1]; exact c1); exact ⟨qb, qo, gb, go, rfl, rfl, ⟨h.rty.cells, h.rty.shares, h.rty.squares, hs⟩, hG, nameE_zero e1, h.nsz, h.cap⟩
end Go.Proofs.YtmafmebcgmegeaaGreatDoor
