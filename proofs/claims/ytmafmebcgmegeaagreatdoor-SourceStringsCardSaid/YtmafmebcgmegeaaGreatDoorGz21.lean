/- Part. -/
import Derived.Test.YtmafmebcgmegeaaGreatDoorGz1
import Derived.OwnWalk
import Derived.Laws.OwnMore
import Derived.Test.YtmafmebcgmegeaaGreatDoorGz15
import Derived.Test.YtmafmebcgmegeaaGreatDoorGz10
import Derived.Test.YtmafmebcgmegeaaGreatDoorGz14
import Derived.Shelf.Spec.SlicesGrow
import Derived.Shelf.Strings.Builder1
import Derived.Shelf.Strings.Builder2
import Derived.Shelf.Strings.OnBuilder
import Derived.Shelf.Small.Wraps
import Derived.Shelf.Strconv.Itoa0
import Derived.Shelf.Strconv.Itoa1
import Derived.Shelf.LaysM
import Derived.Shelf.Strconv.Itoa2
import Derived.Shelf.Strconv.Itoa3
import Derived.Shelf.Strings.Search1
import Derived.Shelf.Strings.Search2
import Derived.Shelf.Strings.Search3
import Derived.Shelf.Strings.Count
import Derived.Shelf.Strings.Shaped
import Derived.Shelf.Strings.Prefix
import Derived.Shelf.Unicode.DecodeSlow
import Derived.Test.YtmafmebcgmegeaaGreatDoorProg
namespace Go.Proofs.YtmafmebcgmegeaaGreatDoor
open Go.RowKit Go.Sort
theorem OnlyMap.grown {b : Nat} {w0 w w' : World} {row : Option Nat} (h : OnlyMap b w0 w) (hg : w.grownBy w' row) (hr : ∀ j, row = some j -> w0.heap.size <= j) : OnlyMap b w0 w' :=
 ⟨hg.os.trans h.os, hg.tape.trans h.tape, hg.output.trans h.output, Nat.le_trans h.size hg.size, fun k hk hb => (hg.block k (Nat.lt_of_lt_of_le hk h.size) (fun e => by have := hr k e.symm; omega)).trans (h.block k hk hb)⟩
theorem OnlyMap.setCell {b : Nat} {w : World} (i : Nat) (v : Value) : OnlyMap b w (w.setCell ⟨b, i, none⟩ v) :=
 ⟨rfl, rfl, rfl, by simp, fun k _ hb => Below.heap_setCell w ⟨b, i, none⟩ v k hb⟩
theorem OnlyMap.ints {b n : Nat} {A : Option Addr} {zs : List Int} {w w' : World} (h : OnlyMap b w w') (hz : IntsAt w A n zs) (hne : ∀ a, A = some a -> a.block ≠ b) : IntsAt w' A n zs :=
 ⟨hz.1, fun hn => by
  obtain ⟨g, o, rfl, hc⟩ := hz.2 hn; exact ⟨g, o, rfl, fun i hi => h.cell (hc i hi) (hne _ rfl)⟩⟩
theorem OnlyMap.owns {b base size n : Nat} {e : TypeId} {v : Value} {xs : List Value} {w w' : World} (h : OnlyMap b w w') (ho : w.ownsRow base e size v n xs) (hne : v.ownBlock ≠ some b) : w'.ownsRow base e size v n xs :=
 World.ownsRow.kept ho (row := some b) ⟨h.os, h.tape, h.output, h.size, fun k hk hb => h.block k hk (fun e => hb (by rw [e]))⟩ (.inr hne)
def partE (e s : Int) : Int := e * s / 1000
theorem partE_in {e s : Int} (he : 0 <= e /\ e <= 10000000000000) (hs : 0 <= s /\ s <= 1000) : 0 <= partE e s /\ partE e s <= 10000000000000 /\ 0 <= e * s /\ e * s <= 10000000000000000 := by
 have h1 : 0 <= e * s := Int.mul_nonneg he.1 hs.1; have h2 : e * s <= 10000000000000 * 1000 := Int.mul_le_mul he.2 hs.2 hs.1 (by omega); unfold partE
 omega
theorem banded1_any (e s L : Int) (g3 g7 : Nat) (w : World) (hc : w.cell? ⟨g3, 0, none⟩ = some (.int .i64 e)) (h7 : Blk w g7 3 #[.int .i64 L]) (he : 0 <= e /\ e <= 10000000000000) (hs : 0 <= s /\ s <= 1000) (hL : -1000000000000000 <= L /\ L <= 1000000000000000) :
  Calls Tryz.prog 98 #[.int .i64 s, .pointer (some ⟨g3, 0, none⟩), .pointer (some ⟨g7, 0, none⟩)] w
   fun x w' => x = .returned (.int .i64 (partE e s)) /\ Blk w' g7 3 #[.int .i64 (L - partE e s)] /\ OnlyMap g7 w w' := by
 obtain ⟨p1, p2, p3, p4⟩ := partE_in he hs; have hw1 : IntKind.i64.wrap (e * s) = e * s := IntWalk.i64_in _ (by omega); have hd : (e * s).tdiv 1000 = partE e s := Int.tdiv_eq_ediv_of_nonneg p3; obtain ⟨P, hP⟩ : ∃ P, P = partE e s := ⟨_, rfl⟩; rw [<- hP] at hd p1 p2 ⊢; have hw2 : IntKind.i64.wrap P = P := IntWalk.i64_in _ (by omega); have hw3 : IntKind.i64.wrap (L - P) = L - P := IntWalk.i64_in _ (by omega); have B7 := lh h7; have BB := h7; have HO : Hid (OnlyMap g7 w (w.setCell ⟨g7, 0, none⟩ (.int .i64 (L - P)))) := OnlyMap.setCell _ _; have HF : Hid (Blk (w.setCell ⟨g7, 0, none⟩ (.int .i64 (L - P))) g7 3 #[.int .i64 (L - P)]) := h7.set_ 0 _; have zc0 := BB.cell 0; have zf0 := BB.frozen 0; simp only [List.getElem?_toArray, List.getElem?_cons_zero] at zc0; clear BB; clear h7 he hs hP p3 p4
 go_enter Tryz.func98, Tryz.ntmps98
 go_wp2
 go_ret
 exact ⟨rfl, HF.out, HO.out⟩
def partTo (sh : List Int) (e : Int) : Nat -> Int
 | 0 => 0
 | k + 1 => partTo sh e k + partE e (sh.getD k 0)
theorem partTo_in {sh : List Int} {e : Int} (he : 0 <= e /\ e <= 10000000000000) (hs : ∀ x, x ∈ sh -> 0 <= x /\ x <= 1000) : ∀ k, k <= sh.length -> 0 <= partTo sh e k /\ partTo sh e k <= 10000000000000 * k
 | 0, _ => by simp [partTo]
 | k + 1, hk => by
   have h1 := partTo_in he hs k (by omega); have h2 := partE_in he (hs (sh.getD k 0) (by rw [List.getD_eq_getElem?_getD, List.getElem?_eq_getElem (show k < sh.length by omega)]; exact List.getElem_mem _)); simp only [partTo]
   omega
def partRow (sh : List Int) (e : Int) : Nat -> List Value
 | 0 => []
 | k + 1 => partRow sh e k ++ [.int .i64 (partE e (sh.getD k 0))]
theorem partRow_length (sh : List Int) (e : Int) (k : Nat) : (partRow sh e k).length = k := by
 induction k with
 | zero => rfl
 | succ k ih => simp [partRow, ih]
theorem partRow_at (sh : List Int) (e : Int) : ∀ (n i : Nat), i < n -> (partRow sh e n)[i]? = some (.int .i64 (partE e (sh.getD i 0)))
 | 0, _, h => absurd h (Nat.not_lt_zero _)
 | n + 1, i, h => by
   have hl := partRow_length sh e n; simp only [partRow]; rcases Nat.lt_or_ge i n with h' | h'
   ·rw [List.getElem?_append_left (by omega)]; exact partRow_at sh e n i h'
   ·obtain rfl : i = n := by omega
    rw [List.getElem?_append_right (by omega), hl]; simp
set_option maxHeartbeats 1000000 in
set_option maxRecDepth 100000 in
theorem mapped_parts (A : Option Addr) (n c : Nat) (sh : List Int) (e : Int) (g3 g7 : Nat) (w : World) (hz : IntsAt w A n sh) (hs : GoodSh sh) (he : 0 <= e /\ e <= 10000000000000) (hc : w.cell? ⟨g3, 0, none⟩ = some (.int .i64 e)) (hne3 : g3 ≠ g7) (h7 : Blk w g7 3 #[.int .i64 e]) (hA : ∀ a, A = some a -> a.block ≠ g7) :
  Calls Tryz.prog 97 #[.slice A n c, .func (.func 98) #[] #[.pointer (some ⟨g3, 0, none⟩), .pointer (some ⟨g7, 0, none⟩)]] w
   fun x w' => x = .returned (.slice (some ⟨w.heap.size, 0, none⟩) n n) /\ w'.ownsRow w.heap.size 3 1 (.slice (some ⟨w.heap.size, 0, none⟩) n n) n (partRow sh e n) /\ Blk w' g7 3 #[.int .i64 (e - partTo sh e n)] /\ OnlyMap g7 w w' := by
 obtain ⟨i0, hi, hz0, hz1, hz2⟩ := info_parts infoInt; have HZ := lh hz; have HS := lh hs; have HE := lh he; have HC := lh hc; have HA := lh hA; have hn : n <= 8 := by have := hs.cnt.2; rw [hz.1] at this; exact this
 have hl : Hid (sh.length = n) := hz.1; have h7l : Hid (g7 < w.heap.size) := lt_of_block h7; have H7 := lh h7; clear hz hs he hc hA h7
 go_enter Tryz.func97, Tryz.ntmps97
 go_wp2_with (at_make; refine wpList_make_own _ rfl _ _ 22 rfl w.heap.size 3 i0 (.int .i64 0) 1 Tryz.underlying22 hi hz0 hz1 _ _ _ n rfl rfl rfl (by rw [hz2]; omega) (by unfold maxLen; omega) (by simp) ?_; intro w1 hown hg1)
 obtain ⟨g, hg⟩ : ∃ g, g = w.heap.size := ⟨_, rfl⟩; rw [<- hg] at hown ⊢; have HG : Hid (g = w.heap.size) := hg; have HO : Hid (w1.ownsRow g 3 1 (.slice (some ⟨g, 0, none⟩) 0 n) 0 (partRow sh e 0)) := hown; have hb1 : Below w.heap.size w w1 := Below.grown (Below.refl _ _) hg1 (Nat.le_refl _) (fun k hk => by cases hk); have HM : Hid (OnlyMap g7 w w1) := OnlyMap.of hb1
 have H71 : Hid (Blk w1 g7 3 #[.int .i64 (e - partTo sh e 0)]) := by
  show Blk _ _ _ _
  rw [show e - partTo sh e 0 = e by simp [partTo]]; exact H7.out.below hb1
 clear hown hg1 hg hb1 H7; go_wp2
 go_loopw [5, 13] (fun v i wr => ∃ k : Nat, k <= n /\ i = .int .i64 k /\ v = .slice (some ⟨g, 0, none⟩) k n /\ Hid (wr.ownsRow g 3 1 (.slice (some ⟨g, 0, none⟩) k n) k (partRow sh e k)) /\ Hid (Blk wr g7 3 #[.int .i64 (e - partTo sh e k)]) /\ Hid (OnlyMap g7 w wr)) (fun _ i _ => n - (intOf i).toNat)
 case atStart => exact ⟨0, Nat.zero_le _, rfl, rfl, HO, H71, HM⟩
 case round =>
  clear HO H71 HM; obtain ⟨k, hk, rfl, rfl, hO, h7, hM⟩ := hrel
  by_cases hlt : k < n
  ·obtain ⟨b, o, rfl, hc⟩ := (hM.out.ints HZ.out HA.out).2 (by omega); have c1 := hc k hlt; have hg3 : Hid (wr.cell? ⟨g3, 0, none⟩ = some (.int .i64 e)) := hM.out.cell HC.out hne3; have hx : Hid (0 <= sh.getD k 0 /\ sh.getD k 0 <= 1000) := HS.out.rng _ (by rw [List.getD_eq_getElem?_getD, List.getElem?_eq_getElem (show k < sh.length by rw [hl.out]; exact hlt)]; exact List.getElem_mem _); have hT := partTo_in HE.out HS.out.rng k (by rw [hl.out]; exact hk); have HR : Hid (partRow sh e (k + 1) = partRow sh e k ++ [.int .i64 (partE e (sh.getD k 0))]) := rfl; have HT : Hid (e - partTo sh e (k + 1) = e - partTo sh e k - partE e (sh.getD k 0)) := by show _ = _; simp only [partTo]; omega
   have HL : Hid (-1000000000000000 <= e - partTo sh e k /\ e - partTo sh e k <= 1000000000000000) := by have := HE.out; show _ /\ _; omega
   obtain ⟨s, hs⟩ : ∃ s, s = sh.getD k 0 := ⟨_, rfl⟩; obtain ⟨L, hL⟩ : ∃ L, L = e - partTo sh e k := ⟨_, rfl⟩; rw [<- hs] at c1 hx HR HT; rw [<- hL] at h7 HT HL
   have hgg : Hid ((Value.slice (some ⟨g, 0, none⟩) k n).ownBlock ≠ some g7) := by
    show _ ≠ _
    intro e1; have e2 : g = g7 := by cases e1; rfl
    have := h7l.out; rw [HG.out] at e2
    omega
   clear hc hs hL hT
   go_wp2_with fail
   refine (banded1_any e s L g3 g7 wr hg3.out h7.out HE.out hx.out HL.out).mono ?_; rintro x wb ⟨rfl, h7', ho⟩; replace h7 : Hid (Blk wb g7 3 #[.int .i64 (e - partTo sh e (k + 1))]) := by show Blk _ _ _ _; rw [HT.out]; exact h7'
   replace hO := lh (ho.owns hO.out hgg.out); replace hM := lh (hM.out.trans ho); have hsz := hM.out.size; obtain ⟨P, hP⟩ : ∃ P, P = partE e s := ⟨_, rfl⟩; rw [<- hP] at HR ⊢; clear h7' ho hP c1 hg3
   go_wp2_with (at_builtin; refine wpList_append_fits _ rfl _ _ 22 rfl g 3 i0 1 Tryz.underlying22 hi hz1 g k n (partRow sh e k) rfl (World.ownsRow.alloc hO.out _) ⟨wb.heap.size, 0, none⟩ 1 1 [.int .i64 P] rfl rfl (cell_one_new _ _ _) (by simp [Value.oneCell']) (by omega) ?_; intro w3 hown' hgrow)
   have R : Hid (w3.ownsRow g 3 1 (.slice (some ⟨g, 0, none⟩) (k + 1) n) (k + 1) (partRow sh e (k + 1))) := by
    show World.ownsRow _ _ _ _ _ _ _
    rw [HR.out]; exact hown'
   have M3 : Hid (OnlyMap g7 w w3) := OnlyMap.grown (hM.out.trans (OnlyMap.of ((Below.refl _ _).alloc (Nat.le_refl _) _))) hgrow (fun j hj => by cases hj; rw [HG.out]; exact Nat.le_refl _)
   have h73 : Hid (Blk w3 g7 3 #[.int .i64 (e - partTo sh e (k + 1))]) := by
    have h1 := h7.out.alloc (.cells #[.int .i64 P] 3); refine Eq.trans (hgrow.block g7 (lt_of_block h1) ?_) h1; intro e1; have e2 : g7 = g := Option.some.inj e1; have := h7l.out; rw [HG.out] at e2
    omega
   clear hown' hgrow hO h7 hM; go_wp2; go_roundw
   case rel => exact ⟨k + 1, by omega, by go_num, rfl, R, h73, M3⟩
   case measure => simp [intOf]; omega
  ·obtain rfl : k = n := by omega
   go_wp2
   go_ret
   exact ⟨by rw [HG.out]; rfl, by rw [<- HG.out]; exact hO.out, h7.out, hM.out⟩
def bandAt (sh : List Int) (e : Int) (n i : Nat) : Int := if i = 0 then partE e (sh.getD 0 0) + (e - partTo sh e n) else partE e (sh.getD i 0)
set_option maxHeartbeats 1000000 in
set_option maxRecDepth 100000 in
theorem Banded_ok {cs : Array Value} {nm : ByteArray} {sh : List Int} {T : Bell.Ty} {sa : Option Addr} {sn sc qb qo qn qc gb go gn gc : Nat} (e : Int) (w : World) (hT : TyOk w cs nm sh T sa sn sc qb qo qn qc gb go gn gc) (he : 0 <= e /\ e <= 10000000000000) :
  Calls Tryz.prog 19 #[.agg cs, .int .i64 e] w fun x w' => ∃ g, x = .returned (.tuple #[.slice (some ⟨g, 0, none⟩) sn sn, .int .i64 0]) /\ (∀ i, i < sn -> w'.cell? ⟨g, i, none⟩ = some (.int .i64 (bandAt sh e sn i))) /\ Below w.heap.size w w' := by
 have HO := lh hT; have HS := lh hT.good.sh; have HE := lh he; have hl : Hid (sh.length = sn) := hT.mem.shares.1; have hn0 : 0 < sn := by rw [<- hl.out]; exact HS.out.cnt.1
 have hn8 : sn <= 8 := by rw [<- hl.out]; exact HS.out.cnt.2
 have HCE : Hid (∀ W, Calls Tryz.prog 96 #[.int .i64 e] W fun x w' => x = .returned (.int .i64 0) /\ Below W.heap.size W w') := fun W =>
  (checkEnergy_any e W).mono fun x w' h => by
   obtain ⟨rfl, rfl⟩ := h; exact ⟨by rw [show checkEnergyE e = 0 from withinE_in he.1 he.2], Below.refl _ _⟩
 clear hT he
 go_enter Tryz.func19, Tryz.ntmps19
 go_upto_region 1 with fail
 obtain ⟨w1, hw1⟩ : ∃ W, W = ((w.alloc (.cells cs 42)).alloc (.cells #[.int .i64 e] 3)) := ⟨_, rfl⟩; rw [<- hw1]; have B2 : Hid (Blk w1 (w.heap.size) 42 cs) := by show Blk _ _ _ _; rw [hw1]; exact (Blk.new _ _ _).alloc _
 have B3 : Hid (Blk w1 (w.heap.size + 1) 3 #[.int .i64 e]) := by show Blk _ _ _ _; rw [hw1]; exact Blk.at_size _ _ (by simp)
 have hb1 : Below w.heap.size w w1 := by rw [hw1]; exact (((Below.refl _ _).alloc (Nat.le_refl _) _).alloc (by simp) _)
 obtain ⟨g2, hg2⟩ : ∃ g, g = w.heap.size := ⟨_, rfl⟩; obtain ⟨g3, hg3⟩ : ∃ g, g = w.heap.size + 1 := ⟨_, rfl⟩; have HGw1 : Hid (g2 = w.heap.size /\ g3 = w.heap.size + 1) := ⟨hg2, hg3⟩; rw [<- hg3] at B3
 try rw [<- hg3]
 rw [<- hg2] at B2
 try rw [<- hg2]
 clear hw1 hg2 hg3; have HB : Hid (Below w.heap.size w w1) := hb1; have HG3 : Hid (g2 ≠ g3) := by show _ ≠ _; rw [HGw1.out.1, HGw1.out.2]; omega
 clear hb1; have lT := fun d os => HO.out.mem.lv (B2.out.below (below_regrown w1 d os))
 have s0 := fun d os => cell_regrown (B3.out.cell 0) d os
 have c1 := fun nd ns => Calls.regrown_of ((CheckType_ok (grow (redrawn w1 nd) ns) (HO.out.keep (HB.out.trans ((below_regrown w1 nd ns).mono HB.out.size)))))
 have c2 := fun nd ns => Calls.regrown_of ((HCE.out (grow (redrawn w1 nd) ns)))
 refine wp_region_below_tail 4 (by kernel_rfl) (by kernel_rfl) ?_; simp only [List.take_succ_cons, List.take_zero, List.drop_succ_cons, List.drop_zero]; refine quiet_load _ _ rfl (by rfl) _ _ rfl lT ?_
 quiet_step (exact c1 _ _)
 iterate 1 (quiet_step (fail))
 quiet_step (exact c2 _ _)
 refine wpQuiet_nil ?_; intro w2 hq1; obtain ⟨⟨dq, osq⟩, hq2⟩ := hq1; have hb2 := below_regrown w1 dq osq; rw [<- hq2] at hb2; clear hq2; replace HB := lh (HB.out.trans (hb2.mono HB.out.size)); replace B2 := lh (B2.out.below hb2); replace B3 := lh (B3.out.below hb2); clear hb2; clear lT s0 c1 c2 HCE
 go_wp2_with fail
 obtain ⟨w3, hw3⟩ : ∃ W, W = (w2.alloc (.cells #[.int .i64 0, .int .i64 0] 37)) := ⟨_, rfl⟩; rw [<- hw3]; have ES : Hid (Blk w3 (w2.heap.size) 37 #[.int .i64 0, .int .i64 0]) := by show Blk _ _ _ _; rw [hw3]; exact Blk.new _ _ _
 have hb3 : Below w2.heap.size w2 w3 := by rw [hw3]; exact ((Below.refl _ _).alloc (Nat.le_refl _) _)
 obtain ⟨ge, hge⟩ : ∃ g, g = w2.heap.size := ⟨_, rfl⟩; have HGw3 : Hid (ge = w2.heap.size) := hge; rw [<- hge] at ES
 try rw [<- hge]
 clear hw3 hge; replace HB := lh (HB.out.trans (hb3.mono HB.out.size)); replace B2 := lh (B2.out.below hb3); replace B3 := lh (B3.out.below hb3); clear hb3; refine (first2 _ _ 0 0 _ (ES.out.cell 0) (ES.out.cell 1)).mono ?_; rw [show firstE [0, 0] = 0 from rfl]; rintro x w4 ⟨rfl, rfl⟩; clear ES; have BB := B3.out; have zc0 := BB.cell 0; have zf0 := BB.frozen 0; simp only [List.getElem?_toArray, List.getElem?_cons_zero] at zc0; clear BB
 go_upto_region 5 with fail
 obtain ⟨w5, hw5⟩ : ∃ W, W = (w3.alloc (.cells #[.int .i64 e] 3)) := ⟨_, rfl⟩; rw [<- hw5]; have B7 : Hid (Blk w5 (w3.heap.size) 3 #[.int .i64 e]) := by show Blk _ _ _ _; rw [hw5]; exact Blk.new _ _ _
 have hb5 : Below w3.heap.size w3 w5 := by rw [hw5]; exact ((Below.refl _ _).alloc (Nat.le_refl _) _)
 obtain ⟨g7, hg7⟩ : ∃ g, g = w3.heap.size := ⟨_, rfl⟩; have HGw5 : Hid (g7 = w3.heap.size) := hg7; rw [<- hg7] at B7
 try rw [<- hg7]
 clear hw5 hg7; have HG7 : Hid (g3 < g7 /\ w.heap.size <= g7) := ⟨by rw [HGw5.out]; exact lt_of_block B3.out, by rw [HGw5.out]; exact HB.out.size⟩; replace HB := lh (HB.out.trans (hb5.mono HB.out.size)); replace B2 := lh (B2.out.below hb5); replace B3 := lh (B3.out.below hb5); clear hb5; clear zc0 zf0
 have q1 : w5.cell? ⟨g2, 1, none⟩ = some (.slice sa sn sc) := by
  have := B2.out.cell 1; rw [HO.out.mem.cells] at this; exact this.trans rfl
 have HM := lh (mapped_parts sa sn sc sh e g3 g7 w5 (HO.out.mem.shares.keep HB.out) HS.out HE.out ((B3.out.cell 0).trans rfl) (by have := HG7.out.1; omega) B7.out (fun a ha => by
  obtain ⟨b, off, e1, hc⟩ := HO.out.mem.shares.2 hn0; rw [ha] at e1
  cases e1
  have h1 := World.block_lt_of_cell? _ _ (hc 0 hn0); have h2 := HG7.out.2; simp only at h1 ⊢
  omega))
 clear B2 B3
 go_wp2_with fail
 refine HM.out.mono ?_; rintro x w6 ⟨rfl, hown, h7, ho⟩; have hg8 : w.heap.size <= w5.heap.size := HB.out.size; have hne : Hid (w5.heap.size ≠ g7) := by have := lt_of_block B7.out; show _ ≠ _; omega
 obtain ⟨g8, h8⟩ : ∃ g, g = w5.heap.size := ⟨_, rfl⟩; rw [<- h8] at hown hg8 hne ⊢; have HG8 := lh hg8; have HB6 : Hid (Below w.heap.size w w6) := HB.out.trans (ho.below HB.out.size HG7.out.2); obtain ⟨cur, hbk, hcs, _, hcl⟩ := own_full hown; have B8 := lh hbk; have B76 := lh h7; have HC : Hid (∀ i, i < sn -> w6.cell? ⟨g8, i, none⟩ = some (.int .i64 (partE e (sh.getD i 0)))) := fun i hi => (hown.cellAt i (by omega)).trans (partRow_at sh e sn i hi)
 have c0 := HC.out 0 hn0; have hP := partE_in HE.out (HS.out.rng (sh.getD 0 0) (by rw [List.getD_eq_getElem?_getD, List.getElem?_eq_getElem (show 0 < sh.length by rw [hl.out]; exact hn0)]; exact List.getElem_mem _)); have hQ := partTo_in HE.out HS.out.rng sn (by rw [hl.out]; exact Nat.le_refl _); have he2 := HE.out; have HZ0 : Hid (bandAt sh e sn 0 = partE e (sh.getD 0 0) + (e - partTo sh e sn)) := rfl; obtain ⟨P, hPP⟩ : ∃ P, P = partE e (sh.getD 0 0) := ⟨_, rfl⟩; obtain ⟨L, hLL⟩ : ∃ L, L = e - partTo sh e sn := ⟨_, rfl⟩; rw [<- hPP] at c0 hP HZ0; rw [<- hLL] at B76 HZ0; have hwr : IntKind.i64.wrap (P + L) = P + L := IntWalk.i64_in _ (by omega); have c1 := (B76.out.cell 0).trans rfl; have hi0 : (0 : Int) < (sn : Int) := by omega
 clear hown h7 ho hbk hcs hcl hPP hLL hP hQ he2 HM HB B7 q1 h8; have s8 := fun d os => cell_regrown c0 d os
 have s7 := fun d os => cell_regrown c1 d os
 go_upto_region 6 with fail
 refine wp_region_below_tail 6 (by kernel_rfl) (by kernel_rfl) ?_; simp only [List.take_succ_cons, List.take_zero, List.drop_succ_cons, List.drop_zero]
 iterate 6 (quiet_step (fail))
 refine wpQuiet_nil ?_; intro w7 hq1; obtain ⟨⟨dq, osq⟩, hq2⟩ := hq1; have hb7 := below_regrown w6 dq osq; rw [<- hq2] at hb7; clear hq2; have HC7 : Hid (∀ i, i < sn -> w7.cell? ⟨g8, i, none⟩ = some (.int .i64 (partE e (sh.getD i 0)))) := fun i hi => (hb7.cell (p := ⟨g8, i, none⟩) (World.block_lt_of_cell? _ _ (HC.out i hi))).trans (HC.out i hi)
 have z0 := HC7.out 0 hn0; replace HB6 := lh (HB6.out.trans (hb7.mono HB6.out.size)); replace B8 := lh (B8.out.below hb7); clear hb7; have zf := B8.out.frozen 0; have HF : Hid (Below w.heap.size w (w7.setCell ⟨g8, 0, none⟩ (.int .i64 (P + L)))) := HB6.out.setCell (p := ⟨g8, 0, none⟩) HG8.out _
 have HCF : Hid (∀ i, i < sn -> (w7.setCell ⟨g8, 0, none⟩ (.int .i64 (P + L))).cell? ⟨g8, i, none⟩ = some (.int .i64 (bandAt sh e sn i))) := fun i hi => by
  by_cases h0 : i = 0
  ·subst h0; rw [HZ0.out]
   have hsz : 0 < cur.size := by
    rcases Nat.eq_zero_or_pos cur.size with h | h
    ·have h2 := B8.out.cell 0; rw [z0, Array.getElem?_eq_none (by omega)] at h2
     cases h2
    ·exact h
   have := (B8.out.set_ 0 (.int .i64 (P + L))).cell 0; rw [this]
   simp [hsz]
  ·have h1 : bandAt sh e sn i = partE e (sh.getD i 0) := by unfold bandAt; rw [if_neg h0]
   rw [h1, <- HC7.out i hi, (B8.out.set_ 0 (.int .i64 (P + L))).cell i, B8.out.cell i, Array.getElem?_setIfInBounds_ne (by omega)]
 clear HC HC7 s8 s7 c0 c1; go_wp2
 (try simp only [Exit.inBlock, Exit.then])
 refine bodyPost_ret (v := .tuple #[.slice (some ⟨g8, 0, none⟩) sn sn, .int .i64 0]) (by simp [results, Tryz.results19, go_sem, asAddr]) rfl ?_; exact ⟨g8, rfl, HCF.out, HF.out⟩
end Go.Proofs.YtmafmebcgmegeaaGreatDoor
namespace Go.Proofs
open Go.Shelf
def Tryz.lays169_ren : Go.Shelf.Ren := ⟨fun | 169 => 152 | n => n, fun | 70 => 225 | 9 => 9 | 0 => 0 | 72 => 228 | 37 => 226 | 127 => 280 | 3 => 3 | 5 => 5 | n => n, fun | n => n⟩
theorem Tryz.lays169 : Go.Proofs.Lays.n169 Tryz.prog Tryz.lays169_ren := {
 mixed := by kernel_rfl
 f169 := Tryz.func152.trans (congrArg some (by kernel_rfl))
 t0 := Tryz.underlying0
 a0 := Tryz.isAgg0
 z0 := Tryz.sizeOf0
 v0 := Tryz.zeroValue0
 t3 := Tryz.underlying3
 a3 := Tryz.isAgg3
 z3 := Tryz.sizeOf3
 v3 := Tryz.zeroValue3
 t9 := Tryz.underlying9
 a9 := Tryz.isAgg9
 z9 := Tryz.sizeOf9
 v9 := Tryz.zeroValue9
 t37 := Tryz.underlying226
 a37 := Tryz.isAgg226
 z37 := Tryz.sizeOf226
 v37 := Tryz.zeroValue226
 t70 := Tryz.underlying225
 a70 := Tryz.isAgg225
 z70 := Tryz.sizeOf225
 v70 := Tryz.zeroValue225
 t72 := Tryz.underlying228
 a72 := Tryz.isAgg228
 z72 := Tryz.sizeOf228
 v72 := Tryz.zeroValue228
 t127 := Tryz.underlying280
 a127 := Tryz.isAgg280
 z127 := Tryz.sizeOf280
 v127 := Tryz.zeroValue280 }
theorem Tryz.Builder_Extra_169 : Builder.Extra Tryz.prog Tryz.lays169_ren := {
 sizeBuilder := by kernel_rfl
 liesBuilder := by kernel_rfl
 t5 := Tryz.underlying5
 a5 := Tryz.isAgg5
 z5 := Tryz.sizeOf5
 v5 := Tryz.zeroValue5
 infoByte := by kernel_rfl
 cellsByte := by kernel_rfl
 sizeByte := by kernel_rfl
 neB5 := by decide }
open Go.RowKit in
theorem Tryz.Builder_String (B b : Nat) (l : List UInt8) (w : World) (h : Lib.IsBuilder 228 5 B b (Lib.byteCells l) w) (h0 : l ≠ []) :
  Calls Tryz.prog 152 #[.pointer (some ⟨b, 0, none⟩)] w fun e w' => e = .returned (.string ⟨l.toArray⟩) /\ Below B w w' := Any.Builder_String Tryz.lays169 Tryz.Builder_Extra_169 B b l w h h0
open Go.RowKit in
theorem Tryz.Builder_String_any (B b : Nat) (l : List UInt8) (w : World) (h : Lib.IsBuilder 228 5 B b (Lib.byteCells l) w) (hBw : B <= w.heap.size) :
  Calls Tryz.prog 152 #[.pointer (some ⟨b, 0, none⟩)] w fun e w' => e = .returned (.string ⟨l.toArray⟩) /\ Below B w w' := Any.Builder_String_any Tryz.lays169 Tryz.Builder_Extra_169 B b l w h hBw
def Tryz.lays156_ren : Go.Shelf.Ren := ⟨fun | 156 => 202 | 165 => 222 | 166 => 150 | 169 => 152 | 240 => 201 | 241 => 231 | 276 => 221 | 277 => 240 | n => n, fun | 31 => 155 | 9 => 9 | 3 => 3 | 4 => 4 | 0 => 0 | 20 => 20 | 72 => 228 | 76 => 237 | 70 => 225 | 37 => 226 | 75 => 236 | 127 => 280 | 164 => 293 | 5 => 5 | 80 => 240 | n => n, fun | n => n⟩
theorem Tryz.lays156 : Go.Proofs.Lays.n156 Tryz.prog Tryz.lays156_ren := {
 mixed := by kernel_rfl
 f156 := Tryz.func202.trans (congrArg some (by kernel_rfl))
 f165 := Tryz.func222.trans (congrArg some (by kernel_rfl))
 f166 := Tryz.func150.trans (congrArg some (by kernel_rfl))
 f169 := Tryz.func152.trans (congrArg some (by kernel_rfl))
 f240 := Tryz.func201.trans (congrArg some (by kernel_rfl))
 f241 := Tryz.func231.trans (congrArg some (by kernel_rfl))
 f276 := Tryz.func221.trans (congrArg some (by kernel_rfl))
 f277 := Tryz.func240.trans (congrArg some (by kernel_rfl))
 t0 := Tryz.underlying0
 a0 := Tryz.isAgg0
 z0 := Tryz.sizeOf0
 v0 := Tryz.zeroValue0
 t3 := Tryz.underlying3
 a3 := Tryz.isAgg3
 z3 := Tryz.sizeOf3
 v3 := Tryz.zeroValue3
 t4 := Tryz.underlying4
 a4 := Tryz.isAgg4
 z4 := Tryz.sizeOf4
 v4 := Tryz.zeroValue4
 t9 := Tryz.underlying9
 a9 := Tryz.isAgg9
 z9 := Tryz.sizeOf9
 v9 := Tryz.zeroValue9
 t20 := Tryz.underlying20
 a20 := Tryz.isAgg20
 z20 := Tryz.sizeOf20
 v20 := Tryz.zeroValue20
 t31 := Tryz.underlying155
 a31 := Tryz.isAgg155
 z31 := Tryz.sizeOf155
 v31 := Tryz.zeroValue155
 t37 := Tryz.underlying226
 a37 := Tryz.isAgg226
 z37 := Tryz.sizeOf226
 v37 := Tryz.zeroValue226
 t70 := Tryz.underlying225
 a70 := Tryz.isAgg225
 z70 := Tryz.sizeOf225
 v70 := Tryz.zeroValue225
 t72 := Tryz.underlying228
 a72 := Tryz.isAgg228
 z72 := Tryz.sizeOf228
 v72 := Tryz.zeroValue228
 t75 := Tryz.underlying236
 a75 := Tryz.isAgg236
 z75 := Tryz.sizeOf236
 v75 := Tryz.zeroValue236
 t76 := Tryz.underlying237
 a76 := Tryz.isAgg237
 z76 := Tryz.sizeOf237
 v76 := Tryz.zeroValue237
 t127 := Tryz.underlying280
 a127 := Tryz.isAgg280
 z127 := Tryz.sizeOf280
 v127 := Tryz.zeroValue280
 t164 := Tryz.underlying293
 a164 := Tryz.isAgg293
 z164 := Tryz.sizeOf293
 v164 := Tryz.zeroValue293 }
theorem Tryz.Builder_Extra_156 : Builder.Extra Tryz.prog Tryz.lays156_ren := {
 sizeBuilder := by kernel_rfl
 liesBuilder := by kernel_rfl
 t5 := Tryz.underlying5
 a5 := Tryz.isAgg5
 z5 := Tryz.sizeOf5
 v5 := Tryz.zeroValue5
 infoByte := by kernel_rfl
 cellsByte := by kernel_rfl
 sizeByte := by kernel_rfl
 neB5 := by decide }
open Go.RowKit in
theorem Tryz.strings_Join (bk o c : Nat) (xs : List ByteArray) (sep : ByteArray) (w : World) (hcells : ∀ (j : Nat) x, xs[j]? = some x -> w.cell? ⟨bk, o + j, none⟩ = some (.string x)) (hbk : bk < w.heap.size) (hN : xs.length <= 140737488355328) (hcap : xs.length <= c) (hlen : (Lib.join (xs.map (·.data.toList)) sep.data.toList).length <= 140737488355328) :
  Calls Tryz.prog 202 #[.slice (some ⟨bk, o, none⟩) xs.length c, .string sep] w fun e w' => e = .returned (.string ⟨(Lib.join (xs.map (·.data.toList)) sep.data.toList).toArray⟩) /\ Below w.heap.size w w' := Any.strings_Join Tryz.lays156 Tryz.Builder_Extra_156 bk o c xs sep w hcells hbk hN hcap hlen
def Tryz.lays104_ren : Go.Shelf.Ren := ⟨fun | 104 => 236 | 211 => 249 | 207 => 263 | n => n, fun | 9 => 9 | 4 => 4 | 24 => 308 | 3 => 3 | n => n, fun | n => n⟩
theorem Tryz.lays104 : Go.Proofs.Lays.n104 Tryz.prog Tryz.lays104_ren := {
 mixed := by kernel_rfl
 f104 := Tryz.func236.trans (congrArg some (by kernel_rfl))
 f207 := Tryz.func263.trans (congrArg some (by kernel_rfl))
 f211 := Tryz.func249.trans (congrArg some (by kernel_rfl))
 t3 := Tryz.underlying3
 a3 := Tryz.isAgg3
 z3 := Tryz.sizeOf3
 v3 := Tryz.zeroValue3
 t4 := Tryz.underlying4
 a4 := Tryz.isAgg4
 z4 := Tryz.sizeOf4
 v4 := Tryz.zeroValue4
 t9 := Tryz.underlying9
 a9 := Tryz.isAgg9
 z9 := Tryz.sizeOf9
 v9 := Tryz.zeroValue9
 t24 := Tryz.underlying308
 a24 := Tryz.isAgg308
 z24 := Tryz.sizeOf308
 v24 := Tryz.zeroValue308 }
open Go.RowKit in
theorem Tryz.strings_CutSuffix (s p : ByteArray) (w : World) (hs : s.size <= 9223372036854775807) :
  Calls Tryz.prog 236 #[.string s, .string p] w fun e w' => e = .returned (.tuple #[.string ⟨(Lib.trimSuffix s.data.toList p.data.toList).toArray⟩, .bool (Lib.hasSuffix s.data.toList p.data.toList)]) /\ w' = w := Any.strings_CutSuffix Tryz.lays104 s p w hs
def Tryz.laysM171_ren : Go.Shelf.Ren := ⟨fun | 171 => 205 | 243 => 224 | 246 => 232 | 283 => 241 | 284 => 242 | 285 => 243 | 286 => 244 | 129 => 254 | 317 => 253 | 318 => 255 | 319 => 256 | 320 => 257 | 337 => 264 | 338 => 265 | n => n, fun | 3 => 3 | 9 => 9 | 2 => 2 | 4 => 4 | 171 => 317 | 0 => 0 | 53 => 318 | 37 => 226 | 5 => 5 | 173 => 321 | 212 => 329 | 51 => 158 | 20 => 20 | 213 => 330 | 46 => 315 | 232 => 340 | 233 => 341 | n => n, fun | 17 => 3 | 18 => 6 | 19 => 7 | n => n⟩
theorem Tryz.laysM171 : Go.Proofs.LaysM.n171 Tryz.prog Tryz.laysM171_ren := {
 mixed := by kernel_rfl
 f129 := Tryz.func254.trans (congrArg some (by kernel_rfl))
 f171 := Tryz.func205.trans (congrArg some (by kernel_rfl))
 f243 := Tryz.func224.trans (congrArg some (by kernel_rfl))
 f246 := Tryz.func232.trans (congrArg some (by kernel_rfl))
 f283 := Tryz.func241.trans (congrArg some (by kernel_rfl))
 f284 := Tryz.func242.trans (congrArg some (by kernel_rfl))
 f285 := Tryz.func243.trans (congrArg some (by kernel_rfl))
 f286 := Tryz.func244.trans (congrArg some (by kernel_rfl))
 f317 := Tryz.func253.trans (congrArg some (by kernel_rfl))
 f318 := Tryz.func255.trans (congrArg some (by kernel_rfl))
 f319 := Tryz.func256.trans (congrArg some (by kernel_rfl))
 f320 := Tryz.func257.trans (congrArg some (by kernel_rfl))
 f337 := Tryz.func264.trans (congrArg some (by kernel_rfl))
 f338 := Tryz.func265.trans (congrArg some (by kernel_rfl))
 t0 := Tryz.underlying0
 a0 := Tryz.isAgg0
 z0 := Tryz.sizeOf0
 v0 := Tryz.zeroValue0
 t2 := Tryz.underlying2
 a2 := Tryz.isAgg2
 z2 := Tryz.sizeOf2
 v2 := Tryz.zeroValue2
 t3 := Tryz.underlying3
 a3 := Tryz.isAgg3
 z3 := Tryz.sizeOf3
 v3 := Tryz.zeroValue3
 t4 := Tryz.underlying4
 a4 := Tryz.isAgg4
 z4 := Tryz.sizeOf4
 v4 := Tryz.zeroValue4
 t5 := Tryz.underlying5
 a5 := Tryz.isAgg5
 z5 := Tryz.sizeOf5
 v5 := Tryz.zeroValue5
 t9 := Tryz.underlying9
 a9 := Tryz.isAgg9
 z9 := Tryz.sizeOf9
 v9 := Tryz.zeroValue9
 t20 := Tryz.underlying20
 a20 := Tryz.isAgg20
 z20 := Tryz.sizeOf20
 v20 := Tryz.zeroValue20
 t37 := Tryz.underlying226
 a37 := Tryz.isAgg226
 z37 := Tryz.sizeOf226
 v37 := Tryz.zeroValue226
 t46 := Tryz.underlying315
 a46 := Tryz.isAgg315
 z46 := Tryz.sizeOf315
 v46 := Tryz.zeroValue315
 t51 := Tryz.underlying158
 a51 := Tryz.isAgg158
 z51 := Tryz.sizeOf158
 v51 := Tryz.zeroValue158
 t53 := Tryz.underlying318
 a53 := Tryz.isAgg318
 z53 := Tryz.sizeOf318
 v53 := Tryz.zeroValue318
 t171 := Tryz.underlying317
 a171 := Tryz.isAgg317
 z171 := Tryz.sizeOf317
 v171 := Tryz.zeroValue317
 t173 := Tryz.underlying321
 a173 := Tryz.isAgg321
 z173 := Tryz.sizeOf321
 v173 := Tryz.zeroValue321
 t212 := Tryz.underlying329
 a212 := Tryz.isAgg329
 z212 := Tryz.sizeOf329
 v212 := Tryz.zeroValue329
 t213 := Tryz.underlying330
 a213 := Tryz.isAgg330
 z213 := Tryz.sizeOf330
 t232 := Tryz.underlying340
 a232 := Tryz.isAgg340
 z232 := Tryz.sizeOf340
 v232 := Tryz.zeroValue340
 t233 := Tryz.underlying341
 a233 := Tryz.isAgg341
 z233 := Tryz.sizeOf341
 v233 := Tryz.zeroValue341
 g17 := by kernel_rfl
 g18 := by kernel_rfl
 g19 := by kernel_rfl
 i0 := by kernel_rfl
 i2 := by kernel_rfl
 i3 := by kernel_rfl
 i4 := by kernel_rfl
 i5 := by kernel_rfl
 i9 := by kernel_rfl
 i20 := by kernel_rfl
 i37 := by kernel_rfl
 i46 := by kernel_rfl
 i51 := by kernel_rfl
 i53 := by kernel_rfl
 i171 := by kernel_rfl
 i173 := by kernel_rfl
 i212 := by kernel_rfl
 i232 := by kernel_rfl
 i233 := by kernel_rfl
 m17 := by kernel_rfl
 m18 := by kernel_rfl
 m19 := by kernel_rfl }
open Go.RowKit Go.Sort Go.Lib in
theorem Tryz.strconv_Itoa (n : Int) (h0 : -9223372036854775808 <= n) (h1 : n <= 9223372036854775807) (w : World) (htab : Lib.TabIs Tryz.prog w "internal/strconv.uint64pow10" .u64 Lib.pow10Tab) :
  Calls Tryz.prog 205 #[.int .i64 n] w fun e w' => e = .returned (.string ⟨(Lib.itoa n).toArray⟩) /\ ∃ k os, w' = grow (w.drewN k) os := Any.strconv_Itoa Tryz.laysM171 n h0 h1 w htab
def Tryz.lays143_ren : Go.Shelf.Ren := ⟨fun | 143 => 235 | 219 => 248 | 217 => 259 | 225 => 260 | 224 => 261 | 267 => 262 | 266 => 266 | 314 => 267 | n => n, fun | 9 => 9 | 3 => 3 | 4 => 4 | 5 => 5 | 46 => 315 | 146 => 338 | 51 => 158 | n => n, fun | 1 => 2 | n => n⟩
theorem Tryz.lays143 : Go.Proofs.Lays.n143 Tryz.prog Tryz.lays143_ren := {
 mixed := by kernel_rfl
 f143 := Tryz.func235.trans (congrArg some (by kernel_rfl))
 f217 := Tryz.func259.trans (congrArg some (by kernel_rfl))
 f219 := Tryz.func248.trans (congrArg some (by kernel_rfl))
 f224 := Tryz.func261.trans (congrArg some (by kernel_rfl))
 f225 := Tryz.func260.trans (congrArg some (by kernel_rfl))
 f266 := Tryz.func266.trans (congrArg some (by kernel_rfl))
 f267 := Tryz.func262.trans (congrArg some (by kernel_rfl))
 f314 := Tryz.func267.trans (congrArg some (by kernel_rfl))
 t3 := Tryz.underlying3
 a3 := Tryz.isAgg3
 z3 := Tryz.sizeOf3
 v3 := Tryz.zeroValue3
 t4 := Tryz.underlying4
 a4 := Tryz.isAgg4
 z4 := Tryz.sizeOf4
 v4 := Tryz.zeroValue4
 t5 := Tryz.underlying5
 a5 := Tryz.isAgg5
 z5 := Tryz.sizeOf5
 v5 := Tryz.zeroValue5
 t9 := Tryz.underlying9
 a9 := Tryz.isAgg9
 z9 := Tryz.sizeOf9
 v9 := Tryz.zeroValue9
 t46 := Tryz.underlying315
 a46 := Tryz.isAgg315
 z46 := Tryz.sizeOf315
 v46 := Tryz.zeroValue315
 t51 := Tryz.underlying158
 a51 := Tryz.isAgg158
 z51 := Tryz.sizeOf158
 v51 := Tryz.zeroValue158
 t146 := Tryz.underlying338
 a146 := Tryz.isAgg338
 z146 := Tryz.sizeOf338
 v146 := Tryz.zeroValue338
 g1 := by kernel_rfl }
open Go.RowKit Go.Lib in
theorem Tryz.strings_Index_one (s : ByteArray) (c : UInt8) (w : World) :
  Calls Tryz.prog 235 #[.string s, .string ⟨#[c]⟩] w fun e w' => e = .returned (.int .i64 (Lib.indexByte s.data.toList c)) /\ w' = w := Any.strings_Index_one Tryz.lays143 s c w
open Go.RowKit Go.Lib in
theorem Tryz.strings_Index (s sub : ByteArray) (m : Int) (w : World) (hs : s.size < 4294967281) (hm : w.cell? ⟨2, 0, none⟩ = some (.int .i64 m)) :
  Calls Tryz.prog 235 #[.string s, .string sub] w fun e w' => e = .returned (.int .i64 (Lib.index s.data.toList sub.data.toList)) /\ w' = w := Any.strings_Index Tryz.lays143 s sub m w hs hm
def Tryz.lays138_ren : Go.Shelf.Ren := ⟨fun | 138 => 234 | 195 => 245 | 218 => 247 | 143 => 235 | 219 => 248 | 217 => 259 | 225 => 260 | 224 => 261 | 267 => 262 | 266 => 266 | 314 => 267 | n => n, fun | 9 => 9 | 3 => 3 | 4 => 4 | 5 => 5 | 0 => 0 | 46 => 315 | 146 => 338 | 51 => 158 | n => n, fun | 1 => 2 | n => n⟩
theorem Tryz.lays138 : Go.Proofs.Lays.n138 Tryz.prog Tryz.lays138_ren := {
 mixed := by kernel_rfl
 f138 := Tryz.func234.trans (congrArg some (by kernel_rfl))
 f143 := Tryz.func235.trans (congrArg some (by kernel_rfl))
 f195 := Tryz.func245.trans (congrArg some (by kernel_rfl))
 f217 := Tryz.func259.trans (congrArg some (by kernel_rfl))
 f218 := Tryz.func247.trans (congrArg some (by kernel_rfl))
 f219 := Tryz.func248.trans (congrArg some (by kernel_rfl))
 f224 := Tryz.func261.trans (congrArg some (by kernel_rfl))
 f225 := Tryz.func260.trans (congrArg some (by kernel_rfl))
 f266 := Tryz.func266.trans (congrArg some (by kernel_rfl))
 f267 := Tryz.func262.trans (congrArg some (by kernel_rfl))
 f314 := Tryz.func267.trans (congrArg some (by kernel_rfl))
 t0 := Tryz.underlying0
 a0 := Tryz.isAgg0
 z0 := Tryz.sizeOf0
 v0 := Tryz.zeroValue0
 t3 := Tryz.underlying3
 a3 := Tryz.isAgg3
 z3 := Tryz.sizeOf3
 v3 := Tryz.zeroValue3
 t4 := Tryz.underlying4
 a4 := Tryz.isAgg4
 z4 := Tryz.sizeOf4
 v4 := Tryz.zeroValue4
 t5 := Tryz.underlying5
 a5 := Tryz.isAgg5
 z5 := Tryz.sizeOf5
 v5 := Tryz.zeroValue5
 t9 := Tryz.underlying9
 a9 := Tryz.isAgg9
 z9 := Tryz.sizeOf9
 v9 := Tryz.zeroValue9
 t46 := Tryz.underlying315
 a46 := Tryz.isAgg315
 z46 := Tryz.sizeOf315
 v46 := Tryz.zeroValue315
 t51 := Tryz.underlying158
 a51 := Tryz.isAgg158
 z51 := Tryz.sizeOf158
 v51 := Tryz.zeroValue158
 t146 := Tryz.underlying338
 a146 := Tryz.isAgg338
 z146 := Tryz.sizeOf338
 v146 := Tryz.zeroValue338
 g1 := by kernel_rfl }
open Go.RowKit Go.Lib in
theorem Tryz.strings_Count_one (s : ByteArray) (c : UInt8) (w : World) :
  Calls Tryz.prog 234 #[.string s, .string ⟨#[c]⟩] w fun e w' => e = .returned (.int .i64 (Lib.countByte s.data.toList c)) /\ w' = w := Any.strings_Count_one Tryz.lays138 s c w
open Go.RowKit Go.Lib in
theorem Tryz.strings_Count (s sub : ByteArray) (m : Int) (w : World) (hs : s.size < 4294967281) (hm : w.cell? ⟨2, 0, none⟩ = some (.int .i64 m)) (h2 : 2 <= sub.size) :
  Calls Tryz.prog 234 #[.string s, .string sub] w fun e w' => e = .returned (.int .i64 (Lib.countB s sub)) /\ w' = w := Any.strings_Count Tryz.lays138 s sub m w hs hm h2
def Tryz.growS_ren : Go.Shelf.Ren := ⟨fun | 4 => 223 | n => n, fun | 22 => 155 | 25 => 9 | 3 => 3 | 4 => 4 | 9 => 9 | 20 => 20 | 0 => 0 | n => n, fun | n => n⟩
theorem Tryz.growS : Go.Proofs.Lays8.n4 Tryz.prog Tryz.growS_ren := {
 mixed := by kernel_rfl
 f4 := ⟨Tryz.f223.name, by decide, Tryz.func223.trans (congrArg some (by kernel_rfl))⟩
 t0 := Tryz.underlying0
 a0 := Tryz.isAgg0
 z0 := Tryz.sizeOf0
 v0 := Tryz.zeroValue0
 t3 := Tryz.underlying3
 a3 := Tryz.isAgg3
 z3 := Tryz.sizeOf3
 v3 := Tryz.zeroValue3
 t4 := Tryz.underlying4
 a4 := Tryz.isAgg4
 z4 := Tryz.sizeOf4
 v4 := Tryz.zeroValue4
 t9 := Tryz.underlying9
 a9 := Tryz.isAgg9
 z9 := Tryz.sizeOf9
 v9 := Tryz.zeroValue9
 t20 := Tryz.underlying20
 a20 := Tryz.isAgg20
 z20 := Tryz.sizeOf20
 v20 := Tryz.zeroValue20
 t22 := Tryz.underlying155
 a22 := Tryz.isAgg155
 z22 := Tryz.sizeOf155
 v22 := Tryz.zeroValue155 }
def Tryz.growI_ren : Go.Shelf.Ren := ⟨fun | 4 => 194 | n => n, fun | 22 => 22 | 25 => 3 | 3 => 3 | 4 => 4 | 9 => 9 | 20 => 20 | 0 => 0 | n => n, fun | n => n⟩
theorem Tryz.growI : Go.Proofs.Lays8.n4 Tryz.prog Tryz.growI_ren := {
 mixed := by kernel_rfl
 f4 := ⟨Tryz.f194.name, by decide, Tryz.func194.trans (congrArg some (by kernel_rfl))⟩
 t0 := Tryz.underlying0
 a0 := Tryz.isAgg0
 z0 := Tryz.sizeOf0
 v0 := Tryz.zeroValue0
 t3 := Tryz.underlying3
 a3 := Tryz.isAgg3
 z3 := Tryz.sizeOf3
 v3 := Tryz.zeroValue3
 t4 := Tryz.underlying4
 a4 := Tryz.isAgg4
 z4 := Tryz.sizeOf4
 v4 := Tryz.zeroValue4
 t9 := Tryz.underlying9
 a9 := Tryz.isAgg9
 z9 := Tryz.sizeOf9
 v9 := Tryz.zeroValue9
 t20 := Tryz.underlying20
 a20 := Tryz.isAgg20
 z20 := Tryz.sizeOf20
 v20 := Tryz.zeroValue20
 t22 := Tryz.underlying22
 a22 := Tryz.isAgg22
 z22 := Tryz.sizeOf22
 v22 := Tryz.zeroValue22 }
end Go.Proofs
