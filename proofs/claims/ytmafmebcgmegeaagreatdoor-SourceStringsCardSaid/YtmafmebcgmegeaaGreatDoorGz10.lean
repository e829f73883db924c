/- Part. -/
import Derived.Test.YtmafmebcgmegeaaGreatDoorGz1
import Derived.Test.YtmafmebcgmegeaaGreatDoorGz9
import Derived.OrdersIn
import Derived.RangeFuncCalls
import Derived.TacticsIn
import Derived.Test.YtmafmebcgmegeaaGreatDoorGz2
import Derived.RangeFuncNested
import Derived.RangeFuncBound
import Derived.RangeFuncLeaves
import Derived.Shelf.Abstract
import Derived.Shelf.RegionOpen
import Derived.OwnWalkIn
import Derived.TacticsInMore
import Derived.LoopNIn
import Derived.LoopIn
namespace Go.Proofs.YtmafmebcgmegeaaGreatDoor
open Go.RowKit Go.Sort
structure Follows (p0 : Int) (ys : List Int) (p : Int) (zs : List Int) : Prop where
 pow : 1 <= p /\ p <= 100
 up : p0 < p
 len : zs.length = ys.length
 rng : ∀ x, x ∈ zs -> 0 <= x /\ x <= 100000000
 ord : ∀ i, i < zs.length -> ys.getD i 0 <= zs.getD i 0
 down : ∀ i, i < zs.length -> zs.getD i 0 <= zs.getD (i - 1) 0
theorem follows_of {m : Nat} {bp : Int} {be : List Int} {s : Int × List Int} (h : Bell.setE m bp be s = 0) (hm : be.length = m) : Follows bp be s.1 s.2 := by
 obtain ⟨a1, a2, a3, a4, a5⟩ := Bell.setE_zero h; obtain ⟨r1, r2, r3⟩ := Bell.ruleOk_at a5; exact ⟨a1, a2, by rw [a3, hm], a4, r1, fun i hi => r3 (i - 1) i (by omega) hi⟩
def prevP (s : Bell.Sets) (k : Nat) : Int := if k = 0 then 0 else Bell.ePow s (k - 1)
def prevE (s : Bell.Sets) (m k : Nat) : List Int := if k = 0 then List.replicate m 0 else (s.getD (k - 1) (0, [])).2
theorem setsE_at {m : Nat} {bp : Int} {be : List Int} {s : Bell.Sets} (h : Bell.setsE m bp be s = 0) : ∀ k, k < s.length -> Bell.setE m (if k = 0 then bp else Bell.ePow s (k - 1)) (if k = 0 then be else (s.getD (k - 1) (0, [])).2) (s.getD k (0, [])) = 0 := by
 induction s generalizing bp be with
 | nil => intro k hk; simp at hk
 | cons a s ih =>
   simp only [Bell.setsE] at h; rw [Bell.thenE_zero] at h; intro k hk
   cases k with
   | zero => simpa using h.1
   | succ k =>
     have h2 := ih h.2 k (by simpa using hk)
     cases k with
     | zero => simpa [Bell.ePow] using h2
     | succ k => simpa [Bell.ePow] using h2
theorem GoodT.follows {sh : List Int} {T : Bell.Ty} (h : GoodT sh T) {k : Nat} (hk : k < T.sets.length) : Follows (prevP T.sets k) (prevE T.sets T.squares.length k) (Bell.ePow T.sets k) ((T.sets.getD k (0, [])).2) := by
 have h1 := h.ok; unfold Bell.tyE at h1; rw [Bell.thenE_zero] at h1; have h2 := setsE_at h1.2 k hk; refine follows_of (s := T.sets.getD k (0, [])) h2 ?_; unfold prevE
 split
 ·simp
 ·exact h.len (by omega)
set_option maxHeartbeats 2000000 in
set_option maxRecDepth 100000 in
theorem settingCheck_ok (p p0 : Int) (ea : Option Addr) (en ec : Nat) (fa : Option Addr) (fn fc : Nat) (zs ys : List Int) (w : World) (hz : IntsAt w ea en zs) (hy : IntsAt w fa fn ys) (hn : fn <= 8) (hg : Follows p0 ys p zs) :
  Calls Tryz.prog 115 #[.agg #[.int .i64 p, .slice ea en ec], .agg #[.int .i64 p0, .slice fa fn fc]] w fun e w' => e = .returned (.int .i64 0) /\ Below w.heap.size w w' := by
 have HZ := lh hz; have HY := lh hy; have HG := lh hg; have hl : en = fn := by rw [<- hz.1, <- hy.1]; exact hg.len
 subst hl; have HZL := lh hz.1; have hp1 := hg.pow; have hup := hg.up; have hw0 : Hid (withinE p 1 100 = 0) := withinE_in hp1.1 hp1.2; clear hz hy hg hp1
 go_enter Tryz.func115, Tryz.ntmps115
 go_upto_region 1 with fail
 obtain ⟨w1, hw1⟩ : ∃ W, W = (w.alloc (.cells #[.int .i64 p, .slice ea en ec] 172)).alloc (.cells #[.int .i64 p0, .slice fa en fc] 172) := ⟨_, rfl⟩; rw [<- hw1]; have S1 : Blk w1 w.heap.size 172 #[.int .i64 p, .slice ea en ec] := by rw [hw1]; exact (Blk.new _ _ _).alloc _
 have F1 : Blk w1 (w.heap.size + 1) 172 #[.int .i64 p0, .slice fa en fc] := by rw [hw1]; exact Blk.at_size _ _ (by simp)
 have hb : Below w.heap.size w w1 := by rw [hw1]; exact ((Below.refl _ _).alloc (Nat.le_refl _) _).alloc (by simp) _
 have HZ1 := lh (HZ.out.keep hb); have HY1 := lh (HY.out.keep hb); have HB := lh hb; obtain ⟨g, hg⟩ : ∃ g, g = w.heap.size := ⟨_, rfl⟩; rw [<- hg] at S1 F1 ⊢; clear hw1 hb hg HZ HY; have sc0 := S1.cell 0; have sf0 := S1.frozen 0; have sc1 := S1.cell 1; have sf1 := S1.frozen 1; simp only [List.getElem?_toArray, List.getElem?_cons_zero, List.getElem?_cons_succ] at sc0 sc1; clear S1; have fc0 := F1.cell 0; have ff0 := F1.frozen 0; have fc1 := F1.cell 1; have ff1 := F1.frozen 1; simp only [List.getElem?_toArray, List.getElem?_cons_zero, List.getElem?_cons_succ] at fc0 fc1; clear F1
 go_wp2_with fail
 refine (srcPower_st p w1).mono ?_; rw [hw0.out]; rintro e w' ⟨rfl, rfl⟩
 go_wp2_with fail
 refine (firstIn_ok 174 0 100000000 ea en ec zs w' (by omega) enters_srcEmission srcEmission_st HZ1.out HG.out.rng).mono ?_; rintro e w2 ⟨rfl, rfl⟩; go_wp2
 go_loop [7, 8, 36] (fun _ _ k => ∃ j : Nat, j <= en /\ k = .int .i64 j) (fun _ _ k => en - (intOf k).toNat)
 case atStart => exact ⟨0, Nat.zero_le _, rfl⟩
 case round =>
  obtain ⟨j, hj, rfl⟩ := hrel
  by_cases hlt : j < en
  ·obtain ⟨eb, eo, rfl, he⟩ := HZ1.out.2 (by omega); obtain ⟨fb, fo, rfl, hf⟩ := HY1.out.2 (by omega); have c1 := he j hlt; have c2 := hf j hlt; have c3 := he (j - 1) (by omega); have o1 := HG.out.ord j (by rw [HZL.out]; exact hlt); have o2 := HG.out.down j (by rw [HZL.out]; exact hlt)
   have hmx : ∀ ts t W, (Builtin.max_ ts t #[.int .i64 ((j : Int) - 1), .int .i64 0]).run Tryz.prog W = .ok (.int .i64 ((j - 1 : Nat) : Int)) W := fun ts t W => by
    rw [run_max2']; congr 2; omega
   obtain ⟨q, hq⟩ : ∃ q : Nat, q = j - 1 := ⟨_, rfl⟩; rw [<- hq] at c3 o2 hmx; have hqn : q < en := by omega
   obtain ⟨x, hx⟩ : ∃ x, x = zs.getD j 0 := ⟨_, rfl⟩; obtain ⟨y, hy⟩ : ∃ y, y = ys.getD j 0 := ⟨_, rfl⟩; obtain ⟨z, hz⟩ : ∃ z, z = zs.getD q 0 := ⟨_, rfl⟩; rw [<- hx] at c1 o1 o2; rw [<- hy] at c2 o1; rw [<- hz] at c3 o2; have d1 : decide (x < y) = false := decide_eq_false (by omega); have d2 : decide (z < x) = false := decide_eq_false (by omega); clear he hf hq hx hy hz o1 o2; go_wp2
   go_round
   case rel => exact ⟨j + 1, by omega, by go_num⟩
   case measure => simp [intOf]; omega
  ·go_wp2
   go_ret
   exact ⟨rfl, HB.out⟩
structure TyOk (w : World) (cs : Array Value) (nm : ByteArray) (sh : List Int) (T : Bell.Ty) (sa : Option Addr) (sn sc qb qo qn qc gb go gn gc : Nat) : Prop where
 mem : TyAt w cs nm sh T sa sn sc qb qo qn qc gb go gn gc
 good : GoodT sh T
 name : nameB nm = true
 size : nm.size <= 140737488351232
 cap : qn <= qc /\ qc <= 9223372036854775807
theorem TyOk.keep {w w' : World} {cs : Array Value} {nm : ByteArray} {sh : List Int} {T : Bell.Ty} {sa : Option Addr} {sn sc qb qo qn qc gb go gn gc : Nat} (h : TyOk w cs nm sh T sa sn sc qb qo qn qc gb go gn gc) (hb : Below w.heap.size w w') : TyOk w' cs nm sh T sa sn sc qb qo qn qc gb go gn gc :=
 ⟨h.mem.keep hb, h.good, h.name, h.size, h.cap⟩
theorem dirs_list {T : Bell.Ty} (hd : T.direct.length = 8) : T.direct = [T.direct.getD 0 0, T.direct.getD 1 0, T.direct.getD 2 0, T.direct.getD 3 0, T.direct.getD 4 0, T.direct.getD 5 0, T.direct.getD 6 0, T.direct.getD 7 0] := by
 match T.direct, hd with
 | [a0, a1, a2, a3, a4, a5, a6, a7], _ => rfl
set_option maxHeartbeats 4000000 in
set_option maxRecDepth 100000 in
theorem CheckType_ok {cs : Array Value} {nm : ByteArray} {sh : List Int} {T : Bell.Ty} {sa : Option Addr} {sn sc qb qo qn qc gb go gn gc : Nat} (w : World) (hT : TyOk w cs nm sh T sa sn sc qb qo qn qc gb go gn gc) :
  Calls Tryz.prog 32 #[.agg cs] w fun e w' => e = .returned (.int .i64 0) /\ Below w.heap.size w w' := by
 have HO := lh hT; have HT := lh hT.mem; have HG := lh hT.good; have hgn : gn <= 6 /\ 0 < gn := by have := HG.out.cnt.1; rw [HT.out.sets.1] at this; exact ⟨this.2, this.1⟩
 have hqn : qn <= 8 /\ 0 < qn := by have := HG.out.cnt.2; rw [HT.out.squares.1] at this; exact ⟨this.2, this.1⟩
 obtain ⟨hgn1, hgn2⟩ := hgn; obtain ⟨hqn1, hqn2⟩ := hqn; have hsd : Hid (withinE T.side 0 1000 = 0) := withinE_in HG.out.ty.side0 HG.out.ty.side1; clear hT
 go_enter Tryz.func32, Tryz.ntmps32
 go_upto_region 1 with fail
 obtain ⟨w1, hw1⟩ : ∃ W, W = w.alloc (.cells cs 42) := ⟨_, rfl⟩; rw [<- hw1]; have T1 : Hid (Blk w1 w.heap.size 42 cs) := by show Blk _ _ _ _; rw [hw1]; exact Blk.new _ _ _
 have HB1 : Hid (Below w.heap.size w w1) := by show Below _ _ _; rw [hw1]; exact (Below.refl _ _).alloc (Nat.le_refl _) _
 obtain ⟨g, hg⟩ : ∃ g, g = w.heap.size := ⟨_, rfl⟩; rw [<- hg] at T1 ⊢; have HGs := lh hg; clear hw1 hg; have bw : ∀ d os, Below w1.heap.size w1 (grow (redrawn w1 d) os) := fun d os => below_regrown w1 d os
 have kp : ∀ d os, Below w.heap.size w (grow (redrawn w1 d) os) := fun d os => HB1.out.trans ((bw d os).mono HB1.out.size)
 have t0 := fun d os => cell_regrown ((T1.out.cell 0).trans HT.out.c0) d os
 have t1 := fun d os => cell_regrown ((T1.out.cell 1).trans HT.out.c1) d os
 have t10 := fun d os => cell_regrown ((T1.out.cell 10).trans HT.out.c10) d os
 have t11 := fun d os => cell_regrown ((T1.out.cell 11).trans HT.out.c11) d os
 have t12 := fun d os => cell_regrown ((T1.out.cell 12).trans HT.out.c12) d os
 have hdirs : ∀ d os, IntsAt (grow (redrawn w1 d) os) (some ⟨g, 2, none⟩) 8 T.direct := fun d os => ⟨HG.out.dl, fun _ => ⟨g, 2, rfl, fun i hi => cell_regrown ((T1.out.cell (2 + i)).trans (HT.out.dir hi)) d os⟩⟩
 have hdr : ∀ x, x ∈ T.direct -> 0 <= x /\ x <= 2000 := fun x hx => by
  obtain ⟨i, hi, rfl⟩ := List.getElem_of_mem hx; have := HG.out.ty.dir i (by rw [<- HG.out.dl]; exact hi); rw [List.getD_eq_getElem?_getD, List.getElem?_eq_getElem hi, Option.getD_some] at this; exact this
 have c1 := fun d os => Calls.regrown_of (srcName_ok nm (grow (redrawn w1 d) os) HO.out.size HO.out.name)
 have c2 := fun d os => Calls.regrown_of (checkShares_ok sa sn sc sh (grow (redrawn w1 d) os) (HT.out.shares.keep (kp d os)) HG.out.sh)
 have c3 := fun d os => Calls.regrown_of (Calls.grow_same (firstIn_ok 111 0 2000 (some ⟨g, 2, none⟩) 8 8 T.direct (grow (redrawn w1 d) os) (by omega) enters_srcDirect srcDirect_st (hdirs d os) hdr))
 have c4 := fun d os => Calls.regrown_of (Calls.grow_same (srcFactor_st T.side (grow (redrawn w1 d) os)))
 rw [hsd.out] at c4; have c5 := fun d os => Calls.regrown_of (checkSquares_ok qb qo qn qc T.squares (grow (redrawn w1 d) os) (HT.out.squares.keep (kp d os)) HG.out.sq HG.out.sqr hqn1 HO.out.cap.1 HO.out.cap.2)
 have c6 := fun d os => Calls.regrown_of (Calls.grow_same (countSets_ok (some ⟨gb, go, none⟩) gn gc 6 (grow (redrawn w1 d) os) hgn2 (by omega)))
 refine wp_region_below_tail 18 (by kernel_rfl) (by kernel_rfl) ?_; simp only [List.take_succ_cons, List.take_zero, List.drop_succ_cons, List.drop_zero]
 iterate 2 (quiet_step (fail))
 quiet_step (exact c1 _ _)
 iterate 2 (quiet_step (fail))
 quiet_step (exact c2 _ _)
 iterate 2 (quiet_step (fail))
 quiet_step (exact c3 _ _)
 iterate 2 (quiet_step (fail))
 quiet_step (exact c4 _ _)
 iterate 2 (quiet_step (fail))
 quiet_step (exact c5 _ _)
 iterate 2 (quiet_step (fail))
 quiet_step (exact c6 _ _)
 refine wpQuiet_nil ?_; intro w2 hw'; obtain ⟨⟨dq, osq⟩, hw''⟩ := hw'; have hb2 := bw dq osq; rw [<- hw''] at hb2; have T2 := lh (T1.out.below hb2); have HB2 := lh (HB1.out.trans (hb2.mono HB1.out.size)); clear hw'' hb2 t0 t1 t10 t11 t12 hdirs hdr c1 c2 c3 c4 c5 c6 bw kp T1 HB1 hsd
 go_wp2_with fail
 refine (first_any w2.heap.size 6 6 [0, 0, 0, 0, 0, 0] _ rfl (by omega) (fun i hi => by
  match i, hi with
  | 0, _ => go_simp
  | 1, _ => go_simp
  | 2, _ => go_simp
  | 3, _ => go_simp
  | 4, _ => go_simp
  | 5, _ => go_simp)).mono ?_
 rw [show firstE [0, 0, 0, 0, 0, 0] = 0 from rfl]; rintro e w3 ⟨rfl, rfl⟩; obtain ⟨w4, hw4⟩ : ∃ W, W = w2.alloc (.cells #[.int .i64 0, .int .i64 0, .int .i64 0, .int .i64 0, .int .i64 0, .int .i64 0] 37) := ⟨_, rfl⟩; rw [<- hw4]; have hb4 : Below w2.heap.size w2 w4 := by rw [hw4]; exact (Below.refl _ _).alloc (Nat.le_refl _) _
 have T4 := lh (T2.out.below hb4); have HB4 := lh (HB2.out.trans (hb4.mono HB2.out.size)); clear hw4 hb4 T2 HB2; have t11 := (T4.out.cell 11).trans HT.out.c11; obtain ⟨i0, hi, hz0, hz1, hz2⟩ := info_parts infoInt
 go_upto_region 5 with (at_make; refine wpList_make_full _ rfl _ _ 22 rfl w4.heap.size 3 i0 (.int .i64 0) 1 Tryz.underlying22 hi hz0 hz1 _ _ _ _ qn rfl rfl rfl rfl (by rw [hz2]; omega) (by unfold maxLen; omega) (Nat.le_refl _) ?_; intro w5 hown hg1)
 have hb5 : Below w4.heap.size w4 w5 := Below.grown (Below.refl _ _) hg1 (Nat.le_refl _) (fun k hk => by cases hk); rw [made_zero] at hown; have hO : OwnI w5 w4.heap.size (.slice (some ⟨w4.heap.size, 0, none⟩) qn qn) (List.replicate qn (0 : Int)) := by unfold OwnI; rw [List.length_replicate]; exact hown
 have hI5 := hO.at_; obtain ⟨w6, hw6⟩ : ∃ W, W = w5.alloc (.cells #[.int .i64 0, .slice (some ⟨w4.heap.size, 0, none⟩) qn qn] 172) := ⟨_, rfl⟩; rw [<- hw6]; have hb6 : Below w5.heap.size w5 w6 := by rw [hw6]; exact (Below.refl _ _).alloc (Nat.le_refl _) _
 have S6 : Hid (Blk w6 w5.heap.size 172 #[.int .i64 (prevP T.sets 0), .slice (some ⟨w4.heap.size, 0, none⟩) qn qn]) := by show Blk _ _ _ _; rw [hw6]; exact Blk.new _ _ _
 have HI6 : Hid (IntsAt w6 (some ⟨w4.heap.size, 0, none⟩) qn (prevE T.sets T.squares.length 0)) := by
  show IntsAt _ _ _ _
  have : prevE T.sets T.squares.length 0 = List.replicate qn (0 : Int) := by unfold prevE; rw [if_pos rfl, HT.out.squares.1]
  rw [this]; exact hI5.keep hb6
 have hb46 := hb5.trans (hb6.mono hb5.size); have T6 := lh (T4.out.below hb46); have HB6 := lh (HB4.out.trans (hb46.mono HB4.out.size))
 have hgs : Hid (w.heap.size + 1 <= w5.heap.size /\ g < w5.heap.size) := by
  have h1 := lt_of_block T4.out; have h2 := hb5.size; have h3 := HGs.out; show _ /\ _; omega
 obtain ⟨g4, hg4⟩ : ∃ x, x = w4.heap.size := ⟨_, rfl⟩; obtain ⟨gs, hgs2⟩ : ∃ x, x = w5.heap.size := ⟨_, rfl⟩; rw [<- hg4, <- hgs2] at S6 ⊢; rw [<- hg4] at HI6; rw [<- hgs2] at hgs; clear hw6 hown hg1 hO hI5 hb5 hb6 hb46 T4 HB4 t11 hg4 hgs2 hi hz0 hz1 hz2; have t12 := (T6.out.cell 12).trans HT.out.c12; go_wp2; clear t12
 go_loopw [6, 7, 39] (fun _ _ k wr => ∃ j : Nat, j <= gn /\ k = .int .i64 j /\ ∃ fa fc, Hid (Blk wr gs 172 #[.int .i64 (prevP T.sets j), .slice fa qn fc]) /\ Hid (IntsAt wr fa qn (prevE T.sets T.squares.length j)) /\ Hid (Below w.heap.size w wr)) (fun _ _ k _ => gn - (intOf k).toNat)
 case atStart => exact ⟨0, Nat.zero_le _, rfl, _, _, S6, HI6, HB6⟩
 case round =>
  obtain ⟨j, hj, rfl, fa, fc, hs, hi, hb⟩ := hrel
  by_cases hlt : j < gn
  ·obtain ⟨ea, en, ec, k1, k2, k3⟩ := HT.out.sets.2 j hlt; have kc : ∀ {x : Addr} {v : Value}, w.cell? x = some v -> wr.cell? x = some v := fun {x v} hc => by rw [hb.out.cell (World.block_lt_of_cell? _ _ hc)]; exact hc
   have h1 := kc k1; have h2 := kc k2; have h3 := k3.keep hb.out; have K3 := lh k3; clear k1 k2 k3 kc; have hf := HG.out.follows (k := j) (by rw [HT.out.sets.1]; exact hlt); obtain ⟨p, hp⟩ : ∃ p, p = Bell.ePow T.sets j := ⟨_, rfl⟩; obtain ⟨zs, hzs⟩ : ∃ z, z = (T.sets.getD j (0, [])).2 := ⟨_, rfl⟩; obtain ⟨p0, hp0⟩ : ∃ p, p = prevP T.sets j := ⟨_, rfl⟩; obtain ⟨ys, hys⟩ : ∃ z, z = prevE T.sets T.squares.length j := ⟨_, rfl⟩; rw [<- hp, <- hzs, <- hp0, <- hys] at hf; rw [<- hp] at h1; rw [<- hzs] at h3 K3; rw [<- hp0] at hs; rw [<- hys] at hi; have HF := lh hf; have H3 := lh h3; have HP := lh hp; have HZS := lh hzs; have hlen : en = qn := by rw [<- h3.1, hf.len]; exact hi.out.1
   have HLN := lh hlen; have hs0 := hs.out.cell 0; have hs1 := hs.out.cell 1; simp only [List.getElem?_toArray, List.getElem?_cons_zero, List.getElem?_cons_succ] at hs0 hs1; clear hp hzs hp0 hys hf h3 hlen
   go_upto_region 8 with fail
   obtain ⟨w7, hw7⟩ : ∃ W, W = wr.alloc (.cells #[.int .i64 p, .slice ea en ec] 172) := ⟨_, rfl⟩; rw [<- hw7]; have hb7 : Below wr.heap.size wr w7 := by rw [hw7]; exact (Below.refl _ _).alloc (Nat.le_refl _) _
   have P7 : Hid (Blk w7 wr.heap.size 172 #[.int .i64 p, .slice ea en ec]) := by show Blk _ _ _ _; rw [hw7]; exact Blk.new _ _ _
   have S7 := lh (hs.out.below hb7); have I7 := lh (hi.out.keep hb7); have J7 := lh (H3.out.keep hb7); have HB7 := lh (hb.out.trans (hb7.mono hb.out.size)); obtain ⟨gp, hgp⟩ : ∃ x, x = wr.heap.size := ⟨_, rfl⟩; rw [<- hgp] at P7 ⊢; clear hw7 hb7 h1 h2 hs0 hs1 hgp; have hs0 := S7.out.cell 0; have hs1 := S7.out.cell 1; have p0' := P7.out.cell 0; have p1' := P7.out.cell 1; simp only [List.getElem?_toArray, List.getElem?_cons_zero, List.getElem?_cons_succ] at hs0 hs1 p0' p1'
   go_wp2_with fail
   refine (settingCheck_ok p p0 ea en ec fa qn fc zs ys w7 J7.out I7.out hqn1 HF.out).mono ?_; rintro e w8 ⟨rfl, hb8⟩; have P8 := lh (P7.out.below hb8); have S8 := lh (S7.out.below hb8); have J8 := lh (J7.out.keep hb8); have HB8 := lh (HB7.out.trans (hb8.mono HB7.out.size)); clear hb8 hs0 hs1 p0' p1' P7 S7 I7 J7 HB7; have p0' := P8.out.cell 0; have p1' := P8.out.cell 1; simp only [List.getElem?_toArray, List.getElem?_cons_zero, List.getElem?_cons_succ] at p0' p1'
   go_wp2_with (refine wpList_store_row rfl 172 _ _ rfl gs #[.int .i64 p, .slice ea en ec] rfl rfl 172 _ S8.out (by kernel_rfl) rfl (by simp [Value.oneCell']) ?_)
   go_roundw
   case rel =>
    have e1 : prevP T.sets (j + 1) = p := by unfold prevP; rw [if_neg (by omega), HP.out, Nat.add_sub_cancel]
    have e2 : prevE T.sets T.squares.length (j + 1) = zs := by unfold prevE; rw [if_neg (by omega), HZS.out, Nat.add_sub_cancel]
    refine ⟨j + 1, by omega, by go_num, ea, ec, ?_, ?_, ?_⟩
    ·rw [e1, <- HLN.out]; exact S8.out.setRow _
    ·rw [e2, <- HLN.out]; exact K3.out.keep (HB8.out.setRow' (by have := hgs.out; omega) _)
    ·exact HB8.out.setRow' (by have := hgs.out; omega) _
   case measure => simp [intOf]; omega
  ·go_wp2
   go_ret
   exact ⟨rfl, hb.out⟩
def Open (F : Fence) : Prop := F = Fence.wide ∨ ∃ l, F = Fence.wide.inRound l
theorem Open.fn {F : Fence} (h : Open F) (f : FuncId) : F.fn f := by
 rcases h with rfl | ⟨l, rfl⟩ <;> trivial
theorem Open.depth {F : Fence} (h : Open F) : F.depth = none := by
 rcases h with rfl | ⟨l, rfl⟩ <;> rfl
theorem Open.calls {F : Fence} (h : Open F) {n : Nat} {P : Program} {f : FuncId} {args : Array Value} {w : World} {R : Ending -> World -> Prop} (hc : Calls P f args w R) : CallsIn F n P f args w R := by
 rcases h with rfl | ⟨l, rfl⟩
 ·exact callsIn_wide.2 hc
 ·exact CallsIn.inRound l (callsIn_wide.2 hc)
def noDefer (ops : Array Oper) : Bool := ops.all fun o => match o.op with | .defer _ => false | _ => true
theorem noDefer_at {ops : Array Oper} (h : noDefer ops = true) {i : Nat} {o : Oper} (hi : ops[i]? = some o) : ∀ c, o.op ≠ .defer c := by
 intro c hc; have hm : o ∈ ops := Array.mem_of_getElem? hi; have := (Array.all_eq_true_iff_forall_mem.1 h) o hm; rw [hc] at this
 cases this
section
variable {P : Program} {ops : Array Oper} {md : Region.Mode} {C : World -> Prop} {F : Fence} {m : Nat}
theorem wpOpIn_of_q (hF : Open F) (hd : noDefer ops = true) {i : Nat} {a : Act} {K : Act -> Prop} {K' : Act -> World -> Prop} {Q' : Exit -> Act -> World -> Prop} {w : World} (hC : C w) (h : ∀ a w', C w' -> K a -> K' a w') (hh : qOp P ops C i K a) : wpOpIn F m P ops Q' i K' a w := by
 unfold qOp at hh; unfold wpOpIn
 split
 ·rename_i ho; simp only [ho] at hh; exact h _ _ hC hh
 ·rename_i o ho
  simp only [ho] at hh
  split
  ·rename_i hw
   simp only [hw, if_true] at hh; refine ⟨fun f _ => hF.fn f, ?_⟩; rw [Oper.semAt_eq _ _ _ (noDefer_at hd ho)]; obtain ⟨v, h1, h2⟩ := hh; have h3 := h1 w hC; unfold Oper.quietAt at h3
   generalize (execOp a.eval o).run P w = r at *
   cases r with
   | halt x w' => simp only [Oper.quietUpon] at h3
   | ok nx w' =>
     cases nx <;> simp only [Oper.quietUpon] at h3 <;> simp only [Oper.uponIn]
     case value u =>
      obtain ⟨e1, e2⟩ := h3; rw [e1, e2]; exact h _ _ hC h2
     case skip =>
      obtain ⟨e1, e2⟩ := h3; rw [e1, <- e2]; exact h _ _ hC h2
     case enter f args =>
      obtain ⟨e1, hc⟩ := h3; rw [e1]; refine ⟨fun hs => (by rw [hF.depth] at hs; cases hs), hF.calls (hc.mono fun e w'' ⟨he, hw''⟩ => ?_)⟩; subst he; exact h _ _ hw'' h2
  ·rename_i hw; simp only [hw] at hh; exact ⟨fun f _ => hF.fn f, h _ _ hC hh⟩
theorem anyIn_of_anyHead (hF : Open F) (hd : noDefer ops = true) {n g : Nat} {L : Array Bool -> Act -> Prop} {Q' : Exit -> Act -> World -> Prop} (hL : ∀ seen a w, C w -> L seen a -> wpAnyIn F m P md ops Q' g seen a w) (f : Nat) :
  ∀ (seen : Array Bool) (a : Act) (w : World), C w -> anyHead P md ops C n L f seen a -> wpAnyIn F m P md ops Q' (f + g) seen a w := by
 induction f with
 | zero => intro seen a w hw h; rw [Nat.zero_add]; exact hL _ _ _ hw h
 | succ f ih =>
   intro seen a w hw h; rw [show f + 1 + g = (f + g) + 1 by omega]; exact ⟨fun h0 => absurd h0 h.1, fun i hi => wpOpIn_of_q hF hd hw (fun a' w' hw' h' => ih _ a' w' hw' h') (h.2 i hi).2⟩
theorem anyIn_of_seq {Q' : Exit -> Act -> World -> Prop} (l : List Oper) : ∀ (k : Nat) (seen : Array Bool) (a : Act) (w : World), (∀ j, l[j]? = ops[k + j]?) ->
  Region.seqB md ops l.length k seen = true -> wpListIn F m P ops Q' l a w -> wpAnyIn F m P md ops Q' l.length seen a w := by
 induction l with
 | nil => intro k seen a w _ hB h; exact ⟨by simpa [Region.seqB] using hB, h⟩
 | cons o l ih =>
   intro k seen a w hl hB h; have h0 : ops[k]? = some o := by simpa using (hl 0).symm
   simp only [List.length_cons, Region.seqB, Bool.and_eq_true, decide_eq_true_eq] at hB; refine ⟨fun h1 => (by rw [hB.1] at h1; cases h1), fun i hi => ?_⟩; rw [hB.1] at hi; obtain rfl : i = k := by simpa using hi
   have hw : wpOpIn F m P ops Q' i (wpListIn F m P ops Q' l) a w := by unfold wpOpIn; simp only [h0]; exact h
   exact wpOpIn_mono (fun a' w' h' => ih (i + 1) _ a' w' (fun j => by have := hl (j + 1); simpa [Nat.add_assoc, Nat.add_comm 1 j] using this) hB.2 h') hw
end
theorem wpIn_region_below_tail {F : Fence} (hF : Open F) {m : Nat} {P : Program} {id : Nat} {Q : Exit -> Act -> World -> Prop} {a : Act} {w : World} {l : List Oper} (n : Nat) (hm : P.follows .mixedOrders = true) (hB : Region.lexTailB .any l.toArray n = true) (hd : noDefer l.toArray = true)
  (h : wpQuiet P l.toArray (fun w' => ∃ p : Regrown, w' = grow (redrawn w p.d) p.os) (fun a' => ∀ w', (∃ p : Regrown, w' = grow (redrawn w p.d) p.os) -> wpListIn F m P l.toArray Q (l.drop n) a' w') (l.take n) a) : (Code.region id l.toArray true).wpIn F m P Q a w := by
 simp only [Region.lexTailB, Bool.and_eq_true, decide_eq_true_eq] at hB; obtain ⟨⟨⟨⟨hsel, hn⟩, hs⟩, hc⟩, hlex⟩ := hB; have hn' : n < l.length := by simpa using hn
 have htl : (l.take n).length = n := by simp; omega
 have hdl : (l.drop n).length = l.toArray.size - n := by simp
 have H := anyHead_lex (P := P) (C := fun w' => ∃ p : Regrown, w' = grow (redrawn w p.d) p.os) (md := .any) (g := l.toArray.size - n) hsel hs hc hn (l.take n) 0 (Array.replicate l.toArray.size false) a
  (fun j hj => by have hj' : j < n := by rw [htl] at hj; exact hj
                  simp [hj']) (by simpa using htl)
  ⟨by simp, fun j oj _ hl => (by rw [getD_replicate_false] at hl; cases hl), fun t _ ht => getD_in (by simpa using ht) (getD_replicate_false _ _)⟩ (by rw [htl]; exact hlex) h
 refine wpIn_region_any hm ?_
 have := anyIn_of_anyHead (F := F) (m := m) (Q' := Q) (g := l.toArray.size - n) hF hd (fun seen a' w' hw' hL => by
  have := anyIn_of_seq (F := F) (m := m) (P := P) (md := .any) (Q' := Q) (l.drop n) n seen a' w' (fun j => by simp [List.getElem?_drop]) (by rw [hdl]; exact hL.1) (hL.2 w' hw')
  rwa [hdl] at this) _ _ _ { w with drawn := w.drawn + 1 } ⟨⟨w.drawn + 1, #[]⟩, by rw [grow_empty]; rfl⟩ H
 rw [htl, show n + (l.toArray.size - n) = l.toArray.size by omega] at this; exact this
theorem plE_good {r : Bell.Pl} (h : GoodPl r) : placeE r.x r.y r.z = 0 := by
 obtain ⟨h1, h2, h3⟩ := h
 simp [placeE, firstE, withinE_in h1.1 h1.2, withinE_in h2.1 h2.2, withinE_in h3.1 h3.2]
/-! states: what it hands back, and the boxes that it has made. -/
attribute [local go_sem] growsTo growUpon
set_option maxHeartbeats 1000000 in
set_option maxRecDepth 100000 in
theorem states_of (b off n c : Nat) (l : List Bell.Fx) (f t : Int) (w : World) (hl : FixesAt w b off n l) (hg : Bell.GoodTr l) :
  Calls Tryz.prog 136 #[.slice (some ⟨b, off, none⟩) n c, .agg #[.int .i64 f, .int .i64 t]] w fun e w' => ∃ g1 g2 g3, e = .returned (.func (.func 184) #[] #[.pointer (some ⟨g1, 0, none⟩), .pointer (some ⟨g2, 0, none⟩), .pointer (some ⟨g3, 0, none⟩)]) /\
   Blk w' g1 3 #[.int .i64 (min t (Bell.fxAt l (l.length - 1)).t)] /\ Blk w' g2 3 #[.int .i64 (max f (Bell.fxAt l 0).t)] /\ Blk w' g3 67 #[.slice (some ⟨b, off, none⟩) n c] /\ (w.heap.size <= g1 /\ w.heap.size <= g2 /\ w.heap.size <= g3) /\ Below w.heap.size w w' := by
 have hn := hl.1; have n1 := hg.lo; have n2 := hg.hi; obtain ⟨m, rfl⟩ : ∃ m, n = m + 1 := ⟨n - 1, by omega⟩; have HL := lh hl; have hln : l.length - 1 = m := by omega
 rw [hln]; obtain ⟨A, hA⟩ : ∃ A, A = Bell.fxAt l 0 := ⟨_, rfl⟩; obtain ⟨B, hB⟩ : ∃ B, B = Bell.fxAt l m := ⟨_, rfl⟩; have hL := lh (fun W (hb : Below w.heap.size w W) => last_any b off m c l W (hl.keep hb) (by omega)); have h0 := lh (fun W (hb : Below w.heap.size w W) => ((hl.keep hb).2 0 (by omega)).1); rw [<- hB] at hL ⊢; rw [<- hA] at h0 ⊢; simp only [fxV] at hL; obtain ⟨F, hF⟩ : ∃ x, x = max f A.t := ⟨_, rfl⟩; obtain ⟨U, hU⟩ : ∃ x, x = min t B.t := ⟨_, rfl⟩; have r1 : ∀ ts tt W, (Builtin.max_ ts tt #[.int .i64 f, .int .i64 A.t]).run Tryz.prog W = .ok (.int .i64 F) W := fun ts tt W => by rw [hF]; exact run_max2' _ _ _ _ _ _
 have r2 : ∀ ts tt W, (Builtin.min_ ts tt #[.int .i64 t, .int .i64 B.t]).run Tryz.prog W = .ok (.int .i64 U) W := fun ts tt W => by rw [hU]; exact run_min2' _ _ _ _ _ _
 have hfl := fix_tick B.t B.x B.y B.z B.p; rw [<- hF, <- hU]; have hm1 : 0 < m + 1 := by omega
 clear hl hg hn n1 n2 hln hA hB hF hU HL
 go_enter Tryz.func136, Tryz.ntmps136
 go_upto_region 1 with fail
 obtain ⟨w1, hw1⟩ : ∃ W, W = (w.alloc (.cells #[.slice (some ⟨b, off, none⟩) (m + 1) c] 67)).alloc (.cells #[.int .i64 f, .int .i64 t] 93) := ⟨_, rfl⟩; rw [<- hw1]; have L1 : Hid (Blk w1 w.heap.size 67 #[.slice (some ⟨b, off, none⟩) (m + 1) c]) := by show Blk _ _ _ _; rw [hw1]; exact (Blk.new _ _ _).alloc _
 have S1 : Hid (Blk w1 (w.heap.size + 1) 93 #[.int .i64 f, .int .i64 t]) := by show Blk _ _ _ _; rw [hw1]; exact Blk.at_size _ _ (by simp)
 have HB1 : Hid (Below w.heap.size w w1) := by show Below _ _ _; rw [hw1]; exact ((Below.refl _ _).alloc (Nat.le_refl _) _).alloc (by simp) _
 obtain ⟨g, hg⟩ : ∃ g, g = w.heap.size := ⟨_, rfl⟩; rw [<- hg] at L1 S1 ⊢; have HGE := lh hg; clear hw1 hg; have a0 := fun d os => cell_regrown (S1.out.cell 0) d os
 have a1 := fun d os => cell_regrown (L1.out.cell 0) d os
 have a2 := fun d os => cell_regrown (h0.out w1 HB1.out) d os
 simp only [Nat.zero_mul, Nat.add_zero] at a2; refine wp_region_made 8 [(7, 5, #[.int .i64 0], 3)] (by kernel_rfl) (by kernel_rfl) (by kernel_rfl) ?_ ?_
 ·intro x hx o ho ev W; simp only [List.mem_cons, List.not_mem_nil, or_false] at hx; rcases hx with rfl; (obtain rfl := Option.some.inj ho; go_simp)
 simp only [List.take_succ_cons, List.take_zero, List.drop_succ_cons, List.drop_zero]; refine wpG_step (by rfl) (fun K hK => ?_)
 go_simp
 first
  | (refine hK _ ?_; clear hK K)
  | (apply Exists.intro
     refine ⟨fun d os => ?_, hK _ ?_⟩
     (fail)
     clear hK K)
 refine wpG_step (by rfl) (fun K hK => ?_)
 go_simp
 first
  | (refine hK _ ?_; clear hK K)
  | (apply Exists.intro
     refine ⟨fun d os => ?_, hK _ ?_⟩
     (fail)
     clear hK K)
 refine wpG_step (by rfl) (fun K hK => ?_)
 go_simp
 first
  | (refine hK _ ?_; clear hK K)
  | (apply Exists.intro
     refine ⟨fun d os => ?_, hK _ ?_⟩
     (fail)
     clear hK K)
 refine wpG_step (by rfl) (fun K hK => ?_)
 go_simp
 first
  | (refine hK _ ?_; clear hK K)
  | (apply Exists.intro
     refine ⟨fun d os => ?_, hK _ ?_⟩
     (fail)
     clear hK K)
 refine wpG_step (by rfl) (fun K hK => ?_)
 go_simp
 first
  | (refine hK _ ?_; clear hK K)
  | (apply Exists.intro
     refine ⟨fun d os => ?_, hK _ ?_⟩
     (fail)
     clear hK K)
 refine wpG_step (by rfl) (fun K hK => ?_)
 go_simp
 first
  | (refine hK _ ?_; clear hK K)
  | (apply Exists.intro
     refine ⟨fun d os => ?_, hK _ ?_⟩
     (fail)
     clear hK K)
 refine wpG_step (by rfl) (fun K hK => ?_)
 go_simp
 first
  | (refine hK _ ?_; clear hK K)
  | (apply Exists.intro
     refine ⟨fun d os => ?_, hK _ ?_⟩
     (fail)
     clear hK K)
 refine wpG_skip rfl ?_; refine wpG_nil ?_; intro gs w2 hM; obtain ⟨B1, ge1⟩ := hM.blk 7 _ rfl (by omega) (by simp); have hb := hM.below; simp only [putAll, alOf, List.find?, Nat.reduceBEq, Option.map, Act.put, List.setIfInBounds_toArray, List.set_cons_zero, List.set_cons_succ]; obtain ⟨g2, hg2⟩ : ∃ g, g = gs 7 := ⟨_, rfl⟩; rw [<- hg2] at B1 ge1 ⊢; have L2 := L1.out.below hb; have S2 := S1.out.below hb; have HB2 := HB1.out.trans (hb.mono HB1.out.size); have HL1 : Hid (g + 1 < w1.heap.size /\ w1.heap.size <= g2) := by have h1 := lt_of_block S1.out; exact ⟨h1, ge1⟩
 clear a0 a1 a2 hM hg2 gs L1 S1 hb; have hgl : g2 ≠ g := by have h1 := lt_of_block S2; have h2 := HL1.out; omega
 have hgs : g2 ≠ g + 1 := by have h2 := HL1.out; omega
 have bc := B1.cell 0; have bf := B1.frozen 0; simp only [List.getElem?_toArray, List.getElem?_cons_zero] at bc; have hB2 := lh HB2; have hL2 := lh L2; have hS2 := lh S2; have hB1 := lh B1; have hge := lh (show w.heap.size <= g2 by have := HB1.out.size; omega); have HG2 := lh hge.out; clear B1 L2 S2 HB2 ge1
 go_upto_region 2 with fail
 obtain ⟨w3, hw3⟩ : ∃ W, W = w2.setCell ⟨g2, 0, none⟩ (.int .i64 F) := ⟨_, rfl⟩; rw [<- hw3]; have F3 : Hid (Blk w3 g2 3 #[.int .i64 F]) := by show Blk _ _ _ _; rw [hw3]; exact hB1.out.set_ 0 _
 have L3 : Hid (Blk w3 g 67 #[.slice (some ⟨b, off, none⟩) (m + 1) c]) := by show Blk _ _ _ _; rw [hw3]; exact hL2.out.far (p := ⟨g2, 0, none⟩) hgl.symm _
 have S3 : Hid (Blk w3 (g + 1) 93 #[.int .i64 f, .int .i64 t]) := by show Blk _ _ _ _; rw [hw3]; exact hS2.out.far (p := ⟨g2, 0, none⟩) hgs.symm _
 have HB3 : Hid (Below w.heap.size w w3) := by show Below _ _ _; rw [hw3]; exact hB2.out.setCell (p := ⟨g2, 0, none⟩) hge.out _
 clear hw3 hgl hgs bc bf hB1 hL2 hS2 hB2 hge; have a0 := fun d os => cell_regrown (S3.out.cell 1) d os
 have a1 := fun d os => cell_regrown (L3.out.cell 0) d os
 have cL := fun d os => hL.out (grow (redrawn w3 d) os) (HB3.out.trans ((below_regrown w3 d os).mono HB3.out.size))
 refine wp_region_made 7 [(6, 6, #[.int .i64 0], 3)] (by kernel_rfl) (by kernel_rfl) (by kernel_rfl) ?_ ?_
 ·intro x hx o ho ev W; simp only [List.mem_cons, List.not_mem_nil, or_false] at hx; rcases hx with rfl; (obtain rfl := Option.some.inj ho; go_simp)
 simp only [List.take_succ_cons, List.take_zero, List.drop_succ_cons, List.drop_zero]; refine wpG_step (by rfl) (fun K hK => ?_)
 go_simp
 first
  | (refine hK _ ?_; clear hK K)
  | (apply Exists.intro
     refine ⟨fun d os => ?_, hK _ ?_⟩
     (fail)
     clear hK K)
 refine wpG_step (by rfl) (fun K hK => ?_)
 go_simp
 first
  | (refine hK _ ?_; clear hK K)
  | (apply Exists.intro
     refine ⟨fun d os => ?_, hK _ ?_⟩
     (fail)
     clear hK K)
 refine wpG_step (by rfl) (fun K hK => ?_)
 go_simp
 first
  | (refine hK _ ?_; clear hK K)
  | (apply Exists.intro
     refine ⟨fun d os => ?_, hK _ ?_⟩
     (fail)
     clear hK K)
 refine wpG_step (by rfl) (fun K hK => ?_)
 go_simp
 first
  | (refine hK _ ?_; clear hK K)
  | (apply Exists.intro
     refine ⟨fun d os => ?_, hK _ ?_⟩
     (exact cL _ _)
     clear hK K)
 refine wpG_step (by rfl) (fun K hK => ?_)
 go_simp
 first
  | (refine hK _ ?_; clear hK K)
  | (apply Exists.intro
     refine ⟨fun d os => ?_, hK _ ?_⟩
     (fail)
     clear hK K)
 refine wpG_step (by rfl) (fun K hK => ?_)
 go_simp
 first
  | (refine hK _ ?_; clear hK K)
  | (apply Exists.intro
     refine ⟨fun d os => ?_, hK _ ?_⟩
     (fail)
     clear hK K)
 refine wpG_skip rfl ?_; refine wpG_nil ?_; intro gs w4 hM; obtain ⟨U1, ge1⟩ := hM.blk 6 _ rfl (by omega) (by simp); have hb := hM.below; simp only [putAll, alOf, List.find?, Nat.reduceBEq, Option.map, Act.put, List.setIfInBounds_toArray, List.set_cons_zero, List.set_cons_succ]; obtain ⟨g1, hg1⟩ : ∃ g, g = gs 6 := ⟨_, rfl⟩; rw [<- hg1] at U1 ge1 ⊢; have L4 := L3.out.below hb; have F4 := F3.out.below hb; have HB4 := HB3.out.trans (hb.mono HB3.out.size); have q1 := lt_of_block L3.out; have q2 := lt_of_block F3.out; have q3 := HB3.out.size; clear a0 a1 cL hM hg1 gs L3 S3 F3 hb; have hgl : g1 ≠ g := by omega
 have hgf : g1 ≠ g2 := by omega
 have bc := U1.cell 0; have bf := U1.frozen 0; simp only [List.getElem?_toArray, List.getElem?_cons_zero] at bc; have hB4 := lh HB4; have hL4 := lh L4; have hF4 := lh F4; have hU4 := lh U1; have hge := lh (show w.heap.size <= g1 by omega); clear U1 L4 F4 HB4 ge1 q1 q2 q3; go_wp2; go_ret; refine ⟨g1, g2, g, rfl, hU4.out.set_ 0 _, hF4.out.far (p := ⟨g1, 0, none⟩) hgf.symm _, hL4.out.far (p := ⟨g1, 0, none⟩) hgl.symm _, ⟨hge.out, HG2.out, by rw [HGE.out]; exact Nat.le_refl _⟩, hB4.out.setCell (p := ⟨g1, 0, none⟩) hge.out _⟩
attribute [local go_sem] Oper.semAt_some
structure Steady (n₁ : Nat) (E : Nat -> Prop) (A B : World) : Prop where
 os : B.os = A.os
 tape : B.tape = A.tape
 output : B.output = A.output
 size : A.heap.size <= B.heap.size
 block : ∀ k, k < n₁ -> ¬ E k -> B.heap[k]? = A.heap[k]?
theorem Steady.refl (n₁ : Nat) (E : Nat -> Prop) (A : World) : Steady n₁ E A A := ⟨rfl, rfl, rfl, Nat.le_refl _, fun _ _ _ => rfl⟩
theorem Steady.trans {n₁ : Nat} {E : Nat -> Prop} {A B C : World} (h : Steady n₁ E A B) (k : Steady n₁ E B C) : Steady n₁ E A C :=
 ⟨k.os.trans h.os, k.tape.trans h.tape, k.output.trans h.output, Nat.le_trans h.size k.size, fun i hi he => (k.block i hi he).trans (h.block i hi he)⟩
theorem Steady.of_below {n₁ : Nat} {E : Nat -> Prop} {A B : World} (h : Below n₁ A B) : Steady n₁ E A B := ⟨h.os, h.tape, h.output, h.size, fun k hk _ => h.block k hk⟩
theorem Steady.blk {n₁ : Nat} {E : Nat -> Prop} {A B : World} (h : Steady n₁ E A B) {g : Nat} {t : TypeId} {cs : Array Value} (hb : Blk A g t cs) (hg : g < n₁) (he : ¬ E g) : Blk B g t cs := (h.block g hg he).trans hb
theorem cell_same {A B : World} {p : Addr} (h : B.heap[p.block]? = A.heap[p.block]?) : B.cell? p = A.cell? p := by
 unfold World.cell?; rw [h]
theorem Steady.fixes {n₁ : Nat} {E : Nat -> Prop} {A B : World} (h : Steady n₁ E A B) {b off n : Nat} {l : List Bell.Fx} (hl : FixesAt A b off n l) (hb : b < n₁) (he : ¬ E b) : FixesAt B b off n l := by
 refine ⟨hl.1, fun i hi => ?_⟩; obtain ⟨h0, h1, h2, h3, h4⟩ := hl.2 i hi; have k : ∀ {j : Nat}, B.cell? ⟨b, j, none⟩ = A.cell? ⟨b, j, none⟩ := fun {j} => cell_same (p := ⟨b, j, none⟩) (h.block b hb he)
 exact ⟨k.trans h0, k.trans h1, k.trans h2, k.trans h3, k.trans h4⟩
theorem finRange_take {M k : Nat} (hk : k < M) : (List.finRange M).take (k + 1) = (List.finRange M).take k ++ [⟨k, hk⟩] := by
 rw [List.take_succ_eq_append_getElem (by simpa using hk)]
 simp
set_option maxHeartbeats 4000000 in
set_option maxRecDepth 100000 in
theorem states1_in (n : Nat) (hn : 1 <= n) (lp g1 g2 g3 n₁ : Nat) (E : Nat -> Prop) (e1 : g1 < n₁ /\ ¬ E g1) (e2 : g2 < n₁ /\ ¬ E g2) (e3 : g3 < n₁ /\ ¬ E g3) (b off N c : Nat) (eb : b < n₁ /\ ¬ E b) (l : List Bell.Fx) (f t : Int) (M : Nat) (hM : M = (t - f).toNat)
  (hg : Bell.GoodTr l) (hf : (Bell.fxAt l 0).t <= f) (ht : t <= (Bell.fxAt l (l.length - 1)).t) (hf2 : f <= 100000000) (ht2 : 0 <= t)
  (J Jx : List (Fin M) -> World -> Prop) (B : Nat) (hJ : AbidesFrom B J)
  (hY : ∀ pre (x : Fin M) W1, J pre W1 -> pre.length < M -> YieldAt Fence.wide (n - 1) Tryz.prog lp #[.int .i64 (f + (x.val : Int)), .agg (stV (Bell.stAt l (f + (x.val : Int))))] W1 fun e W' =>
   (e = .returned (.bool true) /\ J (pre ++ [x]) W' /\ Steady n₁ E W1 W') ∨ (e = .returned (.bool false) /\ Jx (pre ++ [x]) W'))
  (W : World) (hl : FixesAt W b off N l) (c1 : Blk W g1 3 #[.int .i64 t]) (c2 : Blk W g2 3 #[.int .i64 f]) (c3 : Blk W g3 67 #[.slice (some ⟨b, off, none⟩) N c]) (hsz : n₁ <= W.heap.size) (h0 : J [] W) :
  CallsIn Fence.wide n Tryz.prog 184 #[.func (.yield lp) #[] #[], .pointer (some ⟨g1, 0, none⟩), .pointer (some ⟨g2, 0, none⟩), .pointer (some ⟨g3, 0, none⟩)] W fun e W' => (∃ v, e = .returned v) /\
   ((∃ ys, ys = List.finRange M /\ J ys W') ∨ (∃ pre, True /\ Jx pre W')) := by
 have gp0 := (hg.pts 0 (by have := hg.lo; omega)).t0; have gpl := (hg.pts (l.length - 1) (by have := hg.lo; omega)).t1; refine callsIn_of_wp Tryz.func184 rfl trivial ?_ rfl; simp only [Tryz.ntmps184, List.size_toArray, List.length_cons, List.length_nil, Nat.reduceAdd, Nat.reduceSub, Array.replicate_succ, Array.replicate_zero, List.push_toArray, List.append_toArray, List.nil_append, List.cons_append]; have k1 := c1.cell 0; have k2 := c2.cell 0; simp only [List.getElem?_toArray, List.getElem?_cons_zero] at k1 k2
 gi_wp2
 clear k1 k2
 gi_loopw [5, 9] (fun _ i wr => ∃ k : Nat, k <= M /\ i = .int .i64 k /\ Hid (J ((List.finRange M).take k) wr) /\ Hid (Steady n₁ E W wr)) (fun _ i _ => M - (intOf i).toNat)
 case atStart => exact ⟨0, Nat.zero_le _, rfl, h0, Steady.refl _ _ _⟩
 case round =>
  obtain ⟨k, hk, rfl, hJs, hst⟩ := hrel
  by_cases hlt : k < M
  ·have q1 : (k : Int) < t - f := by omega
   have x2 := (hst.out.blk c2 e2.1 e2.2).cell 0; have x3 := (hst.out.blk c3 e3.1 e3.2).cell 0; simp only [List.getElem?_toArray, List.getElem?_cons_zero] at x2 x3; have y2 := fun d os => cell_regrown x2 d os
   have y3 := fun d os => cell_regrown x3 d os
   have hlr := hst.out.fixes hl eb.1 eb.2; have cS := fun d os => Calls.regrown_of (state_any b off N c l (f + (k : Int)) (grow (redrawn wr d) os) (hlr.keep (below_regrown wr d os)) hg (by omega) (by omega))
   have w1 : IntKind.i64.wrap (f + (k : Int)) = f + (k : Int) := IntWalk.i64_in _ (by omega)
   gi_wp2
   refine wpIn_region_below_tail (Or.inl rfl) 9 (by kernel_rfl) (by kernel_rfl) (by kernel_rfl) ?_; simp only [List.take_succ_cons, List.take_zero, List.drop_succ_cons, List.drop_zero]
   iterate 8 (quiet_step (fail))
   quiet_step (exact cS _ _)
   refine wpQuiet_nil ?_; intro w2 hw'; obtain ⟨⟨dq, osq⟩, hw''⟩ := hw'; have hb2 := below_regrown wr dq osq; rw [<- hw''] at hb2; have hst2 : Hid (Steady n₁ E W w2) := hst.out.trans (Steady.of_below (hb2.mono (Nat.le_trans hsz hst.out.size))); have hJ2 := hJ _ wr w2 none hJs.out ⟨hb2.os, hb2.tape, hb2.output, hb2.size, fun k hk _ => hb2.block k hk⟩ (fun r e => by cases e); obtain ⟨fn, tmps, assign, body, hy, hR⟩ := hY _ ⟨k, hlt⟩ w2 hJ2 (by simp; omega); clear hw'' hb2 y2 y3 x2 x3 cS hJs hst hlr w1 hJ2
   gi_wp2
   refine hR.mono ?_; rintro e W3 (⟨rfl, hJ3, hk3⟩ | ⟨rfl, hJx3⟩)
   ·have HJ3 : Hid (J ((List.finRange M).take (k + 1)) W3) := by show J _ _; rw [finRange_take hlt]; exact hJ3
    have hst3 : Hid (Steady n₁ E W W3) := hst2.out.trans hk3; clear hJ3 hk3
    gi_wp2
    go_roundw
    case rel => exact ⟨k + 1, by omega, by go_num, HJ3, hst3⟩
    case measure => simp [intOf]; omega
   ·gi_wp2
    refine bodyPost_ret (results_none rfl _ _ _) rfl ?_; exact ⟨⟨_, rfl⟩, .inr ⟨_, trivial, hJx3⟩⟩
  ·have q1 : ¬ (k : Int) < t - f := by omega
   have hall : Hid (J (List.finRange M) wr) := by
    have := hJs.out; rw [List.take_of_length_le (by simp; omega)] at this; exact this
   gi_wp2
   go_end0
   exact ⟨⟨_, rfl⟩, .inl hall.out⟩
end Go.Proofs.YtmafmebcgmegeaaGreatDoor
