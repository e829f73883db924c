/- Part. -/
import Derived.Test.YtmafmebcgmegeaaGreatDoorGz1
import Derived.Test.YtmafmebcgmegeaaGreatDoorGz19
import Derived.Test.YtmafmebcgmegeaaGreatDoorGz11
import Derived.Test.YtmafmebcgmegeaaGreatDoorGz2
namespace Go.Proofs.YtmafmebcgmegeaaGreatDoor
open Go.RowKit Go.Sort
theorem enters_compare (args : Array Value) (W : World) : (callFunc 143 args).run Tryz.prog W = .ok (.enter 143 args) W := by kernel_rfl
theorem compare_loud (f m : Fl) (x y : Int) (w : World) :
  Calls Tryz.prog 143 #[.agg #[.string f.nm, .string f.ty, .slice f.A f.n f.c, .int .i64 x], .agg #[.string m.nm, .string m.ty, .slice m.A m.n m.c, .int .i64 y]] w fun e w' => e = .returned (.int .i64 (cmpI x y)) /\ Below w.heap.size w w' := by
 go_enter Tryz.func143, Tryz.ntmps143
 go_upto_region 1 with fail
 obtain ⟨w1, hw1⟩ : ∃ W, W = ((w.alloc (.cells #[.string f.nm, .string f.ty, .slice f.A f.n f.c, .int .i64 x] 213)).alloc (.cells #[.string m.nm, .string m.ty, .slice m.A m.n m.c, .int .i64 y] 213)) := ⟨_, rfl⟩; rw [<- hw1]; have A : Hid (Blk w1 (w.heap.size) 213 #[.string f.nm, .string f.ty, .slice f.A f.n f.c, .int .i64 x]) := by show Blk _ _ _ _; rw [hw1]; exact (Blk.new _ _ _).alloc _
 have B : Hid (Blk w1 (w.heap.size + 1) 213 #[.string m.nm, .string m.ty, .slice m.A m.n m.c, .int .i64 y]) := by show Blk _ _ _ _; rw [hw1]; exact Blk.at_size _ _ (by simp)
 have hb1 : Below w.heap.size w w1 := by rw [hw1]; exact (((Below.refl _ _).alloc (Nat.le_refl _) _).alloc (by simp) _)
 obtain ⟨ga, hga⟩ : ∃ g, g = w.heap.size := ⟨_, rfl⟩; obtain ⟨gb, hgb⟩ : ∃ g, g = w.heap.size + 1 := ⟨_, rfl⟩; have HGw1 : Hid (ga = w.heap.size /\ gb = w.heap.size + 1) := ⟨hga, hgb⟩; rw [<- hgb] at B
 try rw [<- hgb]
 rw [<- hga] at A
 try rw [<- hga]
 clear hw1 hga hgb; have HB : Hid (Below w.heap.size w w1) := hb1; have AA := A.out; have BB := B.out; have ac0 := AA.cell 0; have af0 := AA.frozen 0; have ac1 := AA.cell 1; have af1 := AA.frozen 1; have ac2 := AA.cell 2; have af2 := AA.frozen 2; have ac3 := AA.cell 3; have af3 := AA.frozen 3; simp only [List.getElem?_toArray, List.getElem?_cons_zero, List.getElem?_cons_succ] at ac0 ac1 ac2 ac3; clear AA; have bc0 := BB.cell 0; have bf0 := BB.frozen 0; have bc1 := BB.cell 1; have bf1 := BB.frozen 1; have bc2 := BB.cell 2; have bf2 := BB.frozen 2; have bc3 := BB.cell 3; have bf3 := BB.frozen 3; simp only [List.getElem?_toArray, List.getElem?_cons_zero, List.getElem?_cons_succ] at bc0 bc1 bc2 bc3; clear BB; clear hb1 A B
 go_wp2_with fail
 refine (compare_int x y w1).mono ?_; rintro e w2 ⟨rfl, rfl⟩; go_wp2; go_ret; exact ⟨rfl, HB.out⟩
def bestTo (V : Nat -> Int) : Nat -> Nat
 | 0 => 0
 | k + 1 => if V (bestTo V k) < V (k + 1) then k + 1 else bestTo V k
theorem cmpI_pos (x y : Int) : decide (0 < cmpI x y) = decide (y < x) := by
 unfold cmpI
 by_cases h1 : x < y
 ·rw [if_pos h1]; simp; omega
 ·rw [if_neg h1]
  by_cases h2 : y < x
  ·rw [if_pos h2]; simp [h2]
  ·rw [if_neg h2]; simp; omega
theorem LoudsAt.row {w : World} {g n i : Nat} {fs : List Fl} {V : Nat -> Int} (h : LoudsAt w g n fs V) (hi : i < n) : Hid (∀ W, Below w.heap.size w W -> W.cell? ⟨g, i * 4, none⟩ = some (.string (flAt fs i).nm) /\ W.cell? ⟨g, i * 4 + 1, none⟩ = some (.string (flAt fs i).ty) /\ W.cell? ⟨g, i * 4 + 2, none⟩ = some (.slice (flAt fs i).A (flAt fs i).n (flAt fs i).c) /\ W.cell? ⟨g, i * 4 + 3, none⟩ = some (.int .i64 (V i))) :=
 fun _ hb => (h.keep hb) i hi
attribute [local go_sem] enters_compare in
set_option maxHeartbeats 1000000 in
set_option maxRecDepth 100000 in
theorem maxFunc_loud (g n : Nat) (fs : List Fl) (V : Nat -> Int) (w : World) (hz : LoudsAt w g n fs V) (hn0 : 0 < n) (hn : n <= 1000000) :
  Calls Tryz.prog 142 #[.slice (some ⟨g, 0, none⟩) n n, .func (.func 143) #[] #[]] w
   fun e w' => e = .returned (.agg (loudV (flAt fs (bestTo V (n - 1))).nm (flAt fs (bestTo V (n - 1))).ty (flAt fs (bestTo V (n - 1))).A (flAt fs (bestTo V (n - 1))).n (flAt fs (bestTo V (n - 1))).c (V (bestTo V (n - 1))))) /\ Below w.heap.size w w' := by
 have HZ := lh hz; clear hz
 go_enter Tryz.func142, Tryz.ntmps142
 go_upto_region 3 with fail
 obtain ⟨w1, hw1⟩ : ∃ W, W = (w.alloc (.cells #[.string ⟨#[]⟩, .string ⟨#[]⟩, .slice none 0 0, .int .i64 0] 213)) := ⟨_, rfl⟩; rw [<- hw1]; have B4 : Hid (Blk w1 (w.heap.size) 213 #[.string ⟨#[]⟩, .string ⟨#[]⟩, .slice none 0 0, .int .i64 0]) := by show Blk _ _ _ _; rw [hw1]; exact Blk.new _ _ _
 have hb1 : Below w.heap.size w w1 := by rw [hw1]; exact ((Below.refl _ _).alloc (Nat.le_refl _) _)
 obtain ⟨g4, hg4⟩ : ∃ g, g = w.heap.size := ⟨_, rfl⟩; have HGw1 : Hid (g4 = w.heap.size) := hg4; rw [<- hg4] at B4
 try rw [<- hg4]
 clear hw1 hg4; have HB : Hid (Below w.heap.size w w1) := hb1; clear hb1; obtain ⟨c0, c1, c2, c3⟩ := (HZ.out.keep HB.out).row hn0 |>.out w1 (Below.refl _ _); simp only [Nat.zero_mul, Nat.zero_add] at c0 c1 c2 c3; have h0n : (0 : Int) < (n : Int) := by omega
 go_upto_region 4 with fail
 obtain ⟨w2, hw2⟩ : ∃ W, W = (w1.alloc (.cells #[.string (flAt fs 0).nm, .string (flAt fs 0).ty, .slice (flAt fs 0).A (flAt fs 0).n (flAt fs 0).c, .int .i64 (V 0)] 213)) := ⟨_, rfl⟩; rw [<- hw2]; have B5 : Hid (Blk w2 (w1.heap.size) 213 #[.string (flAt fs 0).nm, .string (flAt fs 0).ty, .slice (flAt fs 0).A (flAt fs 0).n (flAt fs 0).c, .int .i64 (V 0)]) := by show Blk _ _ _ _; rw [hw2]; exact Blk.new _ _ _
 have hb2 : Below w1.heap.size w1 w2 := by rw [hw2]; exact ((Below.refl _ _).alloc (Nat.le_refl _) _)
 obtain ⟨g5, hg5⟩ : ∃ g, g = w1.heap.size := ⟨_, rfl⟩; have HGw2 : Hid (g5 = w1.heap.size) := hg5; rw [<- hg5] at B5
 try rw [<- hg5]
 clear hw2 hg5; have HN : Hid (w.heap.size <= g5 /\ g4 < g5) := ⟨by rw [HGw2.out]; exact HB.out.size, by rw [HGw2.out]; exact lt_of_block B4.out⟩; replace HB := lh (HB.out.trans (hb2.mono HB.out.size)); replace B4 := lh (B4.out.below hb2); clear hb2; clear c0 c1 c2 c3 h0n; go_wp2
 go_loopw [6] (fun i wr => ∃ k : Nat, 1 <= k /\ k <= n /\ i = .int .i64 k /\ Hid (Blk wr g5 213 (loudV (flAt fs (bestTo V (k - 1))).nm (flAt fs (bestTo V (k - 1))).ty (flAt fs (bestTo V (k - 1))).A (flAt fs (bestTo V (k - 1))).n (flAt fs (bestTo V (k - 1))).c (V (bestTo V (k - 1))))) /\ Hid (Blk wr g4 213 #[.string ⟨#[]⟩, .string ⟨#[]⟩, .slice none 0 0, .int .i64 0]) /\ Hid (Below w.heap.size w wr)) (fun i _ => n - (intOf i).toNat)
 case atStart => exact ⟨1, Nat.le_refl _, hn0, rfl, B5, B4, HB⟩
 case round =>
  clear B5 B4 HB; obtain ⟨k, hk1, hk, rfl, B5, B4, HB⟩ := hrel
  by_cases hlt : k < n
  ·have HR := ((HZ.out.keep HB.out).row hlt)
   have HBE : Hid (bestTo V (k + 1 - 1) = if V (bestTo V (k - 1)) < V k then k else bestTo V (k - 1)) := by
    show _ = _
    obtain ⟨q, rfl⟩ : ∃ q, k = q + 1 := ⟨k - 1, by omega⟩
    rfl
   obtain ⟨j, hj⟩ : ∃ j, j = bestTo V (k - 1) := ⟨_, rfl⟩; rw [<- hj] at B5 HBE; obtain ⟨f, hf⟩ : ∃ f, f = flAt fs k := ⟨_, rfl⟩; obtain ⟨m, hm⟩ : ∃ m, m = flAt fs j := ⟨_, rfl⟩; obtain ⟨x, hx⟩ : ∃ x, x = V k := ⟨_, rfl⟩; obtain ⟨y, hy⟩ : ∃ y, y = V j := ⟨_, rfl⟩; rw [<- hf, <- hx] at HR; rw [<- hm, <- hy] at B5; rw [<- hx, <- hy] at HBE; have HFM : Hid (f = flAt fs k /\ m = flAt fs j /\ x = V k /\ y = V j) := ⟨hf, hm, hx, hy⟩; unfold loudV at B5; clear hj hf hm hx hy HZ
   go_upto_region 7 with fail
   refine wp_region_grow 7 (by kernel_rfl) (by kernel_rfl) [GR.eq (.func (.func 143) #[] #[]), GR.eq (.slice (some ⟨g, 0, none⟩) n n), GR.eq (.int .i64 k), GR.eq (.pointer (some ⟨g, k * 4, none⟩)), GR.eq (.agg #[.string f.nm, .string f.ty, .slice f.A f.n f.c, .int .i64 x]), GR.eq (.agg #[.string m.nm, .string m.ty, .slice m.A m.n m.c, .int .i64 y]), GR.eq (.int .i64 (cmpI x y))] 33 rfl (by kernel_rfl) ?_ ?_
   ·refine ⟨?_, ?_, ?_, ?_, ?_, ?_, ?_, trivial⟩
    ·intro a W hE hd ho; have e1 : a.tmps[1]?.getD undef = .func (.func 143) #[] #[] := ho 1 (by kernel_rfl); exact gs_same (v := .func (.func 143) #[] #[]) (by go_simp) rfl
    ·intro a W hE hd ho; have e0 : a.tmps[0]?.getD undef = .slice (some ⟨g, 0, none⟩) n n := ho 0 (by kernel_rfl); exact gs_same (v := .slice (some ⟨g, 0, none⟩) n n) (by go_simp) rfl
    ·intro a W hE hd ho; have e6 : a.tmps[6]?.getD undef = .int .i64 k := ho 6 (by kernel_rfl); exact gs_same (v := .int .i64 k) (by go_simp) rfl
    ·intro a W hE hd ho; have e21 : a.tmps[21]?.getD undef = .slice (some ⟨g, 0, none⟩) n n := hd 1 21 (by kernel_rfl) (by kernel_rfl); have e22 : a.tmps[22]?.getD undef = .int .i64 k := hd 2 22 (by kernel_rfl) (by kernel_rfl); have i1 : (0 : Int) <= (k : Int) := by omega
     have i2 : (k : Int) < (n : Int) := by omega
     exact gs_same (v := .pointer (some ⟨g, k * 4, none⟩)) (by go_simp) rfl
    ·intro a W hE hd ho; have e23 : a.tmps[23]?.getD undef = .pointer (some ⟨g, k * 4, none⟩) := hd 3 23 (by kernel_rfl) (by kernel_rfl); obtain ⟨k0, k1, k2, k3⟩ := HR.out W hE; exact gs_same (v := .agg #[.string f.nm, .string f.ty, .slice f.A f.n f.c, .int .i64 x]) (by go_simp) rfl
    ·intro a W hE hd ho; have e5 : a.tmps[5]?.getD undef = .pointer (some ⟨g5, 0, none⟩) := ho 5 (by kernel_rfl); have C := B5.out.below hE; have k0 := C.cell 0; have k1 := C.cell 1; have k2 := C.cell 2; have k3 := C.cell 3; simp only [List.getElem?_toArray, List.getElem?_cons_zero, List.getElem?_cons_succ] at k0 k1 k2 k3; exact gs_same (v := .agg #[.string m.nm, .string m.ty, .slice m.A m.n m.c, .int .i64 y]) (by go_simp) rfl
    ·intro a W hE hd ho; have e20 : a.tmps[20]?.getD undef = .func (.func 143) #[] #[] := hd 0 20 (by kernel_rfl) (by kernel_rfl); have e24 : a.tmps[24]?.getD undef = .agg #[.string f.nm, .string f.ty, .slice f.A f.n f.c, .int .i64 x] := hd 4 24 (by kernel_rfl) (by kernel_rfl); have e25 : a.tmps[25]?.getD undef = .agg #[.string m.nm, .string m.ty, .slice m.A m.n m.c, .int .i64 y] := hd 5 25 (by kernel_rfl) (by kernel_rfl); refine gs_call (f := 143) (args := #[.agg #[.string f.nm, .string f.ty, .slice f.A f.n f.c, .int .i64 x], .agg #[.string m.nm, .string m.ty, .slice m.A m.n m.c, .int .i64 y]]) (by go_simp) ?_; refine (compare_loud f m x y W).mono ?_; rintro e w' ⟨rfl, hb⟩; exact ⟨_, rfl, hb, rfl⟩
   intro vs wq hE hR; have y0 : vs 0 = .func (.func 143) #[] #[] := hR 0 (by omega); have y1 : vs 1 = .slice (some ⟨g, 0, none⟩) n n := hR 1 (by omega); have y2 : vs 2 = .int .i64 k := hR 2 (by omega); have y3 : vs 3 = .pointer (some ⟨g, k * 4, none⟩) := hR 3 (by omega); have y4 : vs 4 = .agg #[.string f.nm, .string f.ty, .slice f.A f.n f.c, .int .i64 x] := hR 4 (by omega); have y5 : vs 5 = .agg #[.string m.nm, .string m.ty, .slice m.A m.n m.c, .int .i64 y] := hR 5 (by omega); have y6 : vs 6 = .int .i64 (cmpI x y) := hR 6 (by omega); simp only [List.range, List.range.loop, List.foldl_cons, List.foldl_nil, y0, y1, y2, y3, y4, y5, y6, List.drop_succ_cons, List.drop_zero]; simp only [dstAt, List.getElem?_toArray, List.getElem?_cons_zero, List.getElem?_cons_succ, Option.bind_some, Act.put, List.setIfInBounds_toArray, List.set_cons_zero, List.set_cons_succ]; clear y0 y1 y2 y3 y4 y5 y6 hR; have HE2 := hE
   replace HB := lh (HB.out.trans (HE2.mono HB.out.size)); replace B5 := lh (B5.out.below HE2); replace B4 := lh (B4.out.below HE2); clear HE2; obtain ⟨k0, k1, k2, k3⟩ := HR.out _ hE; clear hE; have HCP : Hid (decide (0 < cmpI x y) = decide (y < x)) := cmpI_pos x y; obtain ⟨q, hq⟩ : ∃ q, q = cmpI x y := ⟨_, rfl⟩; rw [<- hq] at HCP ⊢; clear hq
   by_cases hlt2 : y < x
   ·have hq : 0 < q := by have := HCP.out; simp [hlt2] at this; exact this
    have hB : bestTo V (k + 1 - 1) = k := by rw [HBE.out, if_pos hlt2]
    go_upto_region 6 with (refine wpList_store_row rfl 213 _ _ rfl g5 #[.string f.nm, .string f.ty, .slice f.A f.n f.c, .int .i64 x] rfl rfl 213 _ B5.out (by kernel_rfl) rfl (by simp [Value.oneCell']) ?_)
    obtain ⟨wz, hwz⟩ : ∃ X, X = wq.setRow g5 #[.string f.nm, .string f.ty, .slice f.A f.n f.c, .int .i64 x] := ⟨_, rfl⟩; rw [<- hwz]
    have B5F : Hid (Blk wz g5 213 (loudV (flAt fs (bestTo V (k + 1 - 1))).nm (flAt fs (bestTo V (k + 1 - 1))).ty (flAt fs (bestTo V (k + 1 - 1))).A (flAt fs (bestTo V (k + 1 - 1))).n (flAt fs (bestTo V (k + 1 - 1))).c (V (bestTo V (k + 1 - 1))))) := by
     show Blk _ _ _ _
     rw [hB, <- HFM.out.1, <- HFM.out.2.2.1, hwz]; exact B5.out.setRow _
    have B4F : Hid (Blk wz g4 213 #[.string ⟨#[]⟩, .string ⟨#[]⟩, .slice none 0 0, .int .i64 0]) := by
     show Blk _ _ _ _
     rw [hwz]; exact B4.out.setRow_far (by have := HN.out.2; omega) _
    have HBF : Hid (Below w.heap.size w wz) := by
     show Below _ _ _
     rw [hwz]; exact HB.out.setRow' HN.out.1 _
    clear hwz hB; go_wp2; go_roundw
    case rel => exact ⟨k + 1, by omega, by omega, by go_num, B5F, B4F, HBF⟩
    case measure => simp [intOf]; omega
   ·have hq : ¬ 0 < q := by have := HCP.out; simp [hlt2] at this; omega
    have hB : bestTo V (k + 1 - 1) = j := by rw [HBE.out, if_neg hlt2]
    have B5F : Hid (Blk wq g5 213 (loudV (flAt fs (bestTo V (k + 1 - 1))).nm (flAt fs (bestTo V (k + 1 - 1))).ty (flAt fs (bestTo V (k + 1 - 1))).A (flAt fs (bestTo V (k + 1 - 1))).n (flAt fs (bestTo V (k + 1 - 1))).c (V (bestTo V (k + 1 - 1))))) := by
     show Blk _ _ _ _
     rw [hB, <- HFM.out.2.1, <- HFM.out.2.2.2]; exact B5.out
    clear hB; go_wp2; go_roundw
    case rel => exact ⟨k + 1, by omega, by omega, by go_num, B5F, B4, HB⟩
    case measure => simp [intOf]; omega
  ·obtain rfl : k = n := by omega
   obtain ⟨j, hj⟩ : ∃ j, j = bestTo V (k - 1) := ⟨_, rfl⟩; have HJ := lh hj; rw [<- hj] at B5; unfold loudV at B5; obtain ⟨m, hm⟩ : ∃ m, m = flAt fs j := ⟨_, rfl⟩; obtain ⟨y, hy⟩ : ∃ y, y = V j := ⟨_, rfl⟩; rw [<- hm, <- hy] at B5; have HM : Hid (m = flAt fs j /\ y = V j) := ⟨hm, hy⟩; clear hj hm hy; have BB := B5.out; have zc0 := BB.cell 0; have zf0 := BB.frozen 0; have zc1 := BB.cell 1; have zf1 := BB.frozen 1; have zc2 := BB.cell 2; have zf2 := BB.frozen 2; have zc3 := BB.cell 3; have zf3 := BB.frozen 3; simp only [List.getElem?_toArray, List.getElem?_cons_zero, List.getElem?_cons_succ] at zc0 zc1 zc2 zc3; clear BB; have hlv := (B4.out.setRow #[.string m.nm, .string m.ty, .slice m.A m.n m.c, .int .i64 y]).lv Tryz.prog (T := 213) Tryz.underlying213 rfl (by kernel_rfl); have HLV := lh hlv; clear hlv
   go_wp2_with (refine wpList_store_row rfl 213 _ _ rfl g4 #[.string m.nm, .string m.ty, .slice m.A m.n m.c, .int .i64 y] rfl rfl 213 _ B4.out (by kernel_rfl) rfl (by simp [Value.oneCell']) ?_)
   refine bodyPost_ret (v := .agg #[.string m.nm, .string m.ty, .slice m.A m.n m.c, .int .i64 y]) (by simp [results, Tryz.results142, asAddr]; exact HLV.out) rfl ?_; exact ⟨by rw [<- HJ.out, <- HM.out.1, <- HM.out.2]; rfl, HB.out.setRow' (by rw [HGw1.out]; exact Nat.le_refl _) _⟩
def totTo (V : Nat -> Int) : Nat -> Int
 | 0 => 0
 | k + 1 => totTo V k + V k
theorem totTo_in {V : Nat -> Int} {n : Nat} (h : ∀ i, i < n -> 0 <= V i /\ V i <= 100000000000000000) : ∀ k, k <= n -> 0 <= totTo V k /\ totTo V k <= 100000000000000000 * k
 | 0, _ => by simp [totTo]
 | k + 1, hk => by
   have h1 := totTo_in h k (by omega); have h2 := h k (by omega); simp only [totTo]
   omega
set_option maxHeartbeats 1000000 in
set_option maxRecDepth 100000 in
theorem Loudest_ok (A : Option Addr) (tn tc : Nat) (ts : List Tp) (FA : Option Addr) (fn fc : Nat) (fs : List Fl) (r : Bell.Pl) (V : Nat -> Int) (w : World) (hts : TpsAt w A tn ts) (hfs : FlsAt w FA fn fs) (hL : Listed ts tn fs fn r V) (hf0 : 0 < fn) (hfn : fn <= 16) :
  Calls Tryz.prog 67 #[.slice A tn tc, .slice FA fn fc, .agg (plV r)] w
   fun e w' => e = .returned (.tuple #[.string (flAt fs (bestTo V (fn - 1))).nm, .int .i64 0]) /\ Below w.heap.size w w' := by
 have HTS := lh hts; have HFS := lh hfs; have HX := lh (fun W (hb : Below w.heap.size w W) => exposed_ok A tn tc ts FA fn fc fs r V W (hts.keep hb) (hfs.keep hb) hL); unfold plV at HX ⊢; clear hts hfs hL
 go_enter Tryz.func67, Tryz.ntmps67
 go_upto_region 1 with fail
 obtain ⟨w1, hw1⟩ : ∃ W, W = (w.alloc (.cells #[.int .i64 r.x, .int .i64 r.y, .int .i64 r.z] 28)) := ⟨_, rfl⟩; rw [<- hw1]; have B5 : Hid (Blk w1 (w.heap.size) 28 #[.int .i64 r.x, .int .i64 r.y, .int .i64 r.z]) := by show Blk _ _ _ _; rw [hw1]; exact Blk.new _ _ _
 have hb1 : Below w.heap.size w w1 := by rw [hw1]; exact ((Below.refl _ _).alloc (Nat.le_refl _) _)
 obtain ⟨g5, hg5⟩ : ∃ g, g = w.heap.size := ⟨_, rfl⟩; have HGw1 : Hid (g5 = w.heap.size) := hg5; rw [<- hg5] at B5
 try rw [<- hg5]
 clear hw1 hg5; have HB : Hid (Below w.heap.size w w1) := hb1; have BB := B5.out; have zc0 := BB.cell 0; have zf0 := BB.frozen 0; have zc1 := BB.cell 1; have zf1 := BB.frozen 1; have zc2 := BB.cell 2; have zf2 := BB.frozen 2; simp only [List.getElem?_toArray, List.getElem?_cons_zero, List.getElem?_cons_succ] at zc0 zc1 zc2; clear BB; clear hb1
 go_wp2_with fail
 refine (HX.out w1 HB.out).mono ?_; rintro e w2 ⟨g, rfl, hlo, hb⟩; have HLO := lh hlo; replace HB := lh (HB.out.trans (hb.mono HB.out.size)); clear hb; have hf1 : ((fn : Int) == 0) = false := by simp; omega
 clear hlo zc0 zc1 zc2 zf0 zf1 zf2 HX B5
 go_wp2_with fail
 refine (maxFunc_loud g fn fs V w2 HLO.out hf0 (by omega)).mono ?_; unfold loudV; rintro e w3 ⟨rfl, hb⟩; replace HB := lh (HB.out.trans (hb.mono HB.out.size)); clear hb; obtain ⟨s, hs⟩ : ∃ s, s = (flAt fs (bestTo V (fn - 1))).nm := ⟨_, rfl⟩; rw [<- hs]; have HS := lh hs; clear hs; have hq1 : ∀ (n t : ByteArray) (a : Option Addr) (x c : Nat) (v : Int) (W : World), (Instr.field 213 (.agg #[.string n, .string t, .slice a x c, .int .i64 v]) 0).run Tryz.prog W = .ok (.agg #[.string n, .string t, .slice a x c]) W := fun n t a x c v W => by kernel_rfl
 have hq2 : ∀ (n t : ByteArray) (a : Option Addr) (x c : Nat) (W : World), (Instr.field 168 (.agg #[.string n, .string t, .slice a x c]) 0).run Tryz.prog W = .ok (.string n) W := fun n t a x c W => by kernel_rfl
 go_wp2
 (try simp only [Exit.inBlock, Exit.then])
 refine bodyPost_ret (v := .tuple #[.string s, .int .i64 0]) (by simp [results, Tryz.results67, go_sem, asAddr]) rfl ?_; exact ⟨by rw [HS.out], HB.out⟩
set_option maxHeartbeats 1000000 in
set_option maxRecDepth 100000 in
theorem Total_ok (A : Option Addr) (tn tc : Nat) (ts : List Tp) (FA : Option Addr) (fn fc : Nat) (fs : List Fl) (r : Bell.Pl) (V : Nat -> Int) (w : World) (hts : TpsAt w A tn ts) (hfs : FlsAt w FA fn fs) (hL : Listed ts tn fs fn r V) (hfn : fn <= 16) (hV : ∀ i, i < fn -> 0 <= V i /\ V i <= 100000000000000000) :
  Calls Tryz.prog 63 #[.slice A tn tc, .slice FA fn fc, .agg (plV r)] w
   fun e w' => e = .returned (.tuple #[.int .i64 (totTo V fn), .int .i64 0]) /\ Below w.heap.size w w' := by
 have HX := lh (fun W (hb : Below w.heap.size w W) => exposed_ok A tn tc ts FA fn fc fs r V W (hts.keep hb) (hfs.keep hb) hL); have HV := lh hV; unfold plV at HX ⊢; clear hts hfs hL hV
 go_enter Tryz.func63, Tryz.ntmps63
 go_upto_region 1 with fail
 obtain ⟨w1, hw1⟩ : ∃ W, W = (w.alloc (.cells #[.int .i64 r.x, .int .i64 r.y, .int .i64 r.z] 28)) := ⟨_, rfl⟩; rw [<- hw1]; have B5 : Hid (Blk w1 (w.heap.size) 28 #[.int .i64 r.x, .int .i64 r.y, .int .i64 r.z]) := by show Blk _ _ _ _; rw [hw1]; exact Blk.new _ _ _
 have hb1 : Below w.heap.size w w1 := by rw [hw1]; exact ((Below.refl _ _).alloc (Nat.le_refl _) _)
 obtain ⟨g5, hg5⟩ : ∃ g, g = w.heap.size := ⟨_, rfl⟩; have HGw1 : Hid (g5 = w.heap.size) := hg5; rw [<- hg5] at B5
 try rw [<- hg5]
 clear hw1 hg5; have HB : Hid (Below w.heap.size w w1) := hb1; have BB := B5.out; have zc0 := BB.cell 0; have zf0 := BB.frozen 0; have zc1 := BB.cell 1; have zf1 := BB.frozen 1; have zc2 := BB.cell 2; have zf2 := BB.frozen 2; simp only [List.getElem?_toArray, List.getElem?_cons_zero, List.getElem?_cons_succ] at zc0 zc1 zc2; clear BB; clear hb1
 go_wp2_with fail
 refine (HX.out w1 HB.out).mono ?_; rintro e w2 ⟨g, rfl, hlo, hb⟩; have HLO := lh hlo; replace HB := lh (HB.out.trans (hb.mono HB.out.size)); clear hb; clear hlo zc0 zc1 zc2 zf0 zf1 zf2 HX B5
 go_wp2_with fail
 go_loopw [10, 25] (fun s i wr => ∃ k : Nat, k <= fn /\ i = .int .i64 k /\ s = .int .i64 (totTo V k) /\ Hid (LoudsAt wr g fn fs V) /\ Hid (Below w.heap.size w wr)) (fun _ i _ => fn - (intOf i).toNat)
 case atStart => exact ⟨0, Nat.zero_le _, rfl, rfl, HLO, HB⟩
 case round =>
  clear HLO HB; obtain ⟨k, hk, rfl, rfl, HLO, HB⟩ := hrel
  by_cases hlt : k < fn
  ·obtain ⟨c0, c1, c2, c3⟩ := HLO.out k hlt; have hS := totTo_in HV.out k hk; have hv := HV.out k hlt; have hT : Hid (totTo V (k + 1) = totTo V k + V k) := rfl; obtain ⟨f, hf⟩ : ∃ f, f = flAt fs k := ⟨_, rfl⟩; obtain ⟨x, hx⟩ : ∃ x, x = V k := ⟨_, rfl⟩; obtain ⟨S, hSS⟩ : ∃ S, S = totTo V k := ⟨_, rfl⟩; rw [<- hf] at c0 c1 c2; rw [<- hx] at c3 hv hT; rw [<- hSS] at hS hT ⊢; have hwr : IntKind.i64.wrap (S + x) = S + x := IntWalk.i64_in _ (by omega); clear hf hx hSS
   go_upto_region 8 with fail
   obtain ⟨wa, hwa⟩ : ∃ W, W = (wr.alloc (.cells #[.string f.nm, .string f.ty, .slice f.A f.n f.c, .int .i64 x] 213)) := ⟨_, rfl⟩; rw [<- hwa]; have B : Hid (Blk wa (wr.heap.size) 213 #[.string f.nm, .string f.ty, .slice f.A f.n f.c, .int .i64 x]) := by show Blk _ _ _ _; rw [hwa]; exact Blk.new _ _ _
   have hba : Below wr.heap.size wr wa := by rw [hwa]; exact ((Below.refl _ _).alloc (Nat.le_refl _) _)
   obtain ⟨gx, hgx⟩ : ∃ g, g = wr.heap.size := ⟨_, rfl⟩; have HGwa : Hid (gx = wr.heap.size) := hgx; rw [<- hgx] at B
   try rw [<- hgx]
   clear hwa hgx; have BB := B.out; have zc0 := BB.cell 0; have zf0 := BB.frozen 0; have zc1 := BB.cell 1; have zf1 := BB.frozen 1; have zc2 := BB.cell 2; have zf2 := BB.frozen 2; have zc3 := BB.cell 3; have zf3 := BB.frozen 3; simp only [List.getElem?_toArray, List.getElem?_cons_zero, List.getElem?_cons_succ] at zc0 zc1 zc2 zc3; clear BB; replace HB := lh (HB.out.trans (hba.mono HB.out.size)); replace HLO := lh (HLO.out.keep hba); clear hba; clear c0 c1 c2 c3 B; go_wp2; go_roundw
   case rel => exact ⟨k + 1, by omega, by go_num, by rw [hT.out], HLO, HB⟩
   case measure => simp [intOf]; omega
  ·obtain rfl : k = fn := by omega
   obtain ⟨S, hSS⟩ : ∃ S, S = totTo V k := ⟨_, rfl⟩; have HS := lh hSS; rw [<- hSS]; clear hSS; go_wp2
   (try simp only [Exit.inBlock, Exit.then])
   refine bodyPost_ret (v := .tuple #[.int .i64 S, .int .i64 0]) (by simp [results, Tryz.results63, go_sem, asAddr]) rfl ?_; exact ⟨by rw [HS.out], HB.out⟩
set_option maxHeartbeats 1000000 in
set_option maxRecDepth 100000 in
theorem Emission_ok {cs : Array Value} {nm : ByteArray} {sh : List Int} {T : Bell.Ty} {sa : Option Addr} {sn sc qb qo qn qc gb go gn gc : Nat} (p q : Int) (w : World) (hT : TyOk w cs nm sh T sa sn sc qb qo qn qc gb go gn gc) (hp : 1 <= p /\ p <= 100) (hq : 0 <= q /\ q <= 100000000000) :
  Calls Tryz.prog 15 #[.agg cs, .int .i64 p, .int .i64 q] w fun e w' => e = .returned (.tuple #[.int .i64 (Bell.emis T.sets (Bell.reachOf T.squares q) p), .int .i64 0]) /\ Below w.heap.size w w' := by
 have HO := lh hT; have IT := lh hT.mem.info; have HP : Hid (withinE p 1 100 = 0 /\ withinE q 0 100000000000 = 0) := ⟨withinE_in hp.1 hp.2, withinE_in hq.1 hq.2⟩; have HE := lh (fun W (hb : Below w.heap.size w W) => emission_any p q W (hT.mem.keep hb) hT.good hp ⟨hq.1, by omega⟩); obtain ⟨V, hV⟩ : ∃ V, V = Bell.emis T.sets (Bell.reachOf T.squares q) p := ⟨_, rfl⟩; rw [<- hV] at HE ⊢; clear hT hp hq hV
 go_enter Tryz.func15, Tryz.ntmps15
 go_upto_region 1 with fail
 obtain ⟨w1, hw1⟩ : ∃ W, W = (w.alloc (.cells cs 42)) := ⟨_, rfl⟩; rw [<- hw1]; have B3 : Hid (Blk w1 (w.heap.size) 42 cs) := by show Blk _ _ _ _; rw [hw1]; exact Blk.new _ _ _
 have hb1 : Below w.heap.size w w1 := by rw [hw1]; exact ((Below.refl _ _).alloc (Nat.le_refl _) _)
 obtain ⟨g3, hg3⟩ : ∃ g, g = w.heap.size := ⟨_, rfl⟩; have HGw1 : Hid (g3 = w.heap.size) := hg3; rw [<- hg3] at B3
 try rw [<- hg3]
 clear hw1 hg3; have HB : Hid (Below w.heap.size w w1) := hb1; clear hb1
 go_wp2_with (refine wpList_load_row rfl 42 _ rfl g3 rfl 42 cs (0, 0) _ B3.out Tryz.underlying42 rfl IT.out ?_)
 refine (CheckType_ok w1 (HO.out.keep HB.out)).mono ?_; rintro e w2 ⟨rfl, hb⟩; replace HB := lh (HB.out.trans (hb.mono HB.out.size)); replace B3 := lh (B3.out.below hb); clear hb
 go_wp2_with fail
 refine (srcPower_st p w2).mono ?_; rw [HP.out.1]; rintro e w3 ⟨rfl, rfl⟩
 go_wp2_with fail
 refine (srcSquare_st q w3).mono ?_; rw [HP.out.2]; rintro e w4 ⟨rfl, rfl⟩
 go_wp2_with fail
 obtain ⟨w5, hw5⟩ : ∃ W, W = (w4.alloc (.cells #[.int .i64 0, .int .i64 0, .int .i64 0] 37)) := ⟨_, rfl⟩; rw [<- hw5]; have ES : Hid (Blk w5 (w4.heap.size) 37 #[.int .i64 0, .int .i64 0, .int .i64 0]) := by show Blk _ _ _ _; rw [hw5]; exact Blk.new _ _ _
 have hb5 : Below w4.heap.size w4 w5 := by rw [hw5]; exact ((Below.refl _ _).alloc (Nat.le_refl _) _)
 obtain ⟨ge, hge⟩ : ∃ g, g = w4.heap.size := ⟨_, rfl⟩; have HGw5 : Hid (ge = w4.heap.size) := hge; rw [<- hge] at ES
 try rw [<- hge]
 clear hw5 hge; replace HB := lh (HB.out.trans (hb5.mono HB.out.size)); replace B3 := lh (B3.out.below hb5); clear hb5; refine (first3 _ _ 0 0 0 _ (ES.out.cell 0) (ES.out.cell 1) (ES.out.cell 2)).mono ?_; rw [show firstE [0, 0, 0] = 0 from rfl]; rintro e w6 ⟨rfl, rfl⟩; clear ES
 go_wp2_with (refine wpList_load_row rfl 42 _ rfl g3 rfl 42 cs (0, 0) _ B3.out Tryz.underlying42 rfl IT.out ?_)
 refine (HE.out w5 HB.out).mono ?_; rintro e w7 ⟨rfl, hb⟩; replace HB := lh (HB.out.trans (hb.mono HB.out.size)); clear hb; go_wp2
 (try simp only [Exit.inBlock, Exit.then])
 refine bodyPost_ret (v := .tuple #[.int .i64 V, .int .i64 0]) (by simp [results, Tryz.results15, go_sem, asAddr]) rfl ?_; exact ⟨rfl, HB.out⟩
set_option maxHeartbeats 1000000 in
set_option maxRecDepth 100000 in
theorem Sector_ok (hx hy x y : Int) (w : World) (h1 : -200000 <= hx /\ hx <= 200000) (h2 : -200000 <= hy /\ hy <= 200000) (h3 : -200000 <= x /\ x <= 200000) (h4 : -200000 <= y /\ y <= 200000) :
  Calls Tryz.prog 17 #[.agg #[.int .i64 hx, .int .i64 hy], .agg #[.int .i64 x, .int .i64 y]] w fun e w' => e = .returned (.tuple #[.int .i64 (Bell.sectorOf hx hy x y : Nat), .int .i64 0]) /\ Below w.heap.size w w' := by
 have HD1 : Hid (∀ W, Calls Tryz.prog 91 #[.agg #[.int .i64 hx, .int .i64 hy]] W fun e w' => e = .returned (.int .i64 0) /\ Below W.heap.size W w') := fun W => by
  have := checkDirection_any hx hy W
  rwa [show dirE hx hy = 0 by simp [dirE, firstE, withinE_in h1.1 h1.2, withinE_in h2.1 h2.2]] at this
 have HD2 : Hid (∀ W, Calls Tryz.prog 91 #[.agg #[.int .i64 x, .int .i64 y]] W fun e w' => e = .returned (.int .i64 0) /\ Below W.heap.size W w') := fun W => by
  have := checkDirection_any x y W
  rwa [show dirE x y = 0 by simp [dirE, firstE, withinE_in h3.1 h3.2, withinE_in h4.1 h4.2]] at this
 have HS := lh (fun W => sector_any hx hy x y W ⟨by omega, by omega⟩ ⟨by omega, by omega⟩ ⟨by omega, by omega⟩ ⟨by omega, by omega⟩); obtain ⟨S, hS⟩ : ∃ S, S = Bell.sectorOf hx hy x y := ⟨_, rfl⟩; rw [<- hS] at HS ⊢; clear h1 h2 h3 h4 hS
 go_enter Tryz.func17, Tryz.ntmps17
 go_upto_region 1 with fail
 obtain ⟨w1, hw1⟩ : ∃ W, W = ((w.alloc (.cells #[.int .i64 hx, .int .i64 hy] 30)).alloc (.cells #[.int .i64 x, .int .i64 y] 30)) := ⟨_, rfl⟩; rw [<- hw1]; have B2 : Hid (Blk w1 (w.heap.size) 30 #[.int .i64 hx, .int .i64 hy]) := by show Blk _ _ _ _; rw [hw1]; exact (Blk.new _ _ _).alloc _
 have B3 : Hid (Blk w1 (w.heap.size + 1) 30 #[.int .i64 x, .int .i64 y]) := by show Blk _ _ _ _; rw [hw1]; exact Blk.at_size _ _ (by simp)
 have hb1 : Below w.heap.size w w1 := by rw [hw1]; exact (((Below.refl _ _).alloc (Nat.le_refl _) _).alloc (by simp) _)
 obtain ⟨g2, hg2⟩ : ∃ g, g = w.heap.size := ⟨_, rfl⟩; obtain ⟨g3, hg3⟩ : ∃ g, g = w.heap.size + 1 := ⟨_, rfl⟩; have HGw1 : Hid (g2 = w.heap.size /\ g3 = w.heap.size + 1) := ⟨hg2, hg3⟩; rw [<- hg3] at B3
 try rw [<- hg3]
 rw [<- hg2] at B2
 try rw [<- hg2]
 clear hw1 hg2 hg3; have HB : Hid (Below w.heap.size w w1) := hb1; clear hb1; refine wp_region_grow 4 (by kernel_rfl) (by kernel_rfl) [GR.eq (.agg #[.int .i64 hx, .int .i64 hy]), GR.eq (.int .i64 0), GR.eq (.agg #[.int .i64 x, .int .i64 y]), GR.eq (.int .i64 0)] 19 rfl (by kernel_rfl) ?_ ?_
 ·refine ⟨?_, ?_, ?_, ?_, trivial⟩
  ·intro a W hE hd ho; have e2 : a.tmps[2]?.getD undef = .pointer (some ⟨g2, 0, none⟩) := ho 2 (by kernel_rfl); have C := (B2.out.below hE); have k0 := C.cell 0; have k1 := C.cell 1; simp only [List.getElem?_toArray, List.getElem?_cons_zero, List.getElem?_cons_succ] at k0 k1; exact gs_same (v := .agg #[.int .i64 hx, .int .i64 hy]) (by go_simp) rfl
  ·intro a W hE hd ho; have e7 : a.tmps[7]?.getD undef = .agg #[.int .i64 hx, .int .i64 hy] := hd 0 7 (by kernel_rfl) (by kernel_rfl); refine gs_call (f := 91) (args := #[.agg #[.int .i64 hx, .int .i64 hy]]) (by go_simp) ?_; refine (HD1.out W).mono ?_; rintro e w' ⟨rfl, hb⟩; exact ⟨_, rfl, hb, rfl⟩
  ·intro a W hE hd ho; have e3 : a.tmps[3]?.getD undef = .pointer (some ⟨g3, 0, none⟩) := ho 3 (by kernel_rfl); have C := (B3.out.below hE); have k0 := C.cell 0; have k1 := C.cell 1; simp only [List.getElem?_toArray, List.getElem?_cons_zero, List.getElem?_cons_succ] at k0 k1; exact gs_same (v := .agg #[.int .i64 x, .int .i64 y]) (by go_simp) rfl
  ·intro a W hE hd ho; have e9 : a.tmps[9]?.getD undef = .agg #[.int .i64 x, .int .i64 y] := hd 2 9 (by kernel_rfl) (by kernel_rfl); refine gs_call (f := 91) (args := #[.agg #[.int .i64 x, .int .i64 y]]) (by go_simp) ?_; refine (HD2.out W).mono ?_; rintro e w' ⟨rfl, hb⟩; exact ⟨_, rfl, hb, rfl⟩
 intro vs wq hE hR; have y0 : vs 0 = .agg #[.int .i64 hx, .int .i64 hy] := hR 0 (by omega); have y1 : vs 1 = .int .i64 0 := hR 1 (by omega); have y2 : vs 2 = .agg #[.int .i64 x, .int .i64 y] := hR 2 (by omega); have y3 : vs 3 = .int .i64 0 := hR 3 (by omega); simp only [List.range, List.range.loop, List.foldl_cons, List.foldl_nil, y0, y1, y2, y3, List.drop_succ_cons, List.drop_zero]; simp only [dstAt, List.getElem?_toArray, List.getElem?_cons_zero, List.getElem?_cons_succ, Option.bind_some, Act.put, List.setIfInBounds_toArray, List.set_cons_zero, List.set_cons_succ]; clear y0 y1 y2 y3 hR; have HE2 := hE; replace HB := lh (HB.out.trans (HE2.mono HB.out.size)); replace B2 := lh (B2.out.below HE2); replace B3 := lh (B3.out.below HE2); clear HE2; clear hE HD1 HD2
 go_wp2_with fail
 obtain ⟨w4, hw4⟩ : ∃ W, W = (wq.alloc (.cells #[.int .i64 0, .int .i64 0] 37)) := ⟨_, rfl⟩; rw [<- hw4]; have ES : Hid (Blk w4 (wq.heap.size) 37 #[.int .i64 0, .int .i64 0]) := by show Blk _ _ _ _; rw [hw4]; exact Blk.new _ _ _
 have hb4 : Below wq.heap.size wq w4 := by rw [hw4]; exact ((Below.refl _ _).alloc (Nat.le_refl _) _)
 obtain ⟨ge, hge⟩ : ∃ g, g = wq.heap.size := ⟨_, rfl⟩; have HGw4 : Hid (ge = wq.heap.size) := hge; rw [<- hge] at ES
 try rw [<- hge]
 clear hw4 hge; replace HB := lh (HB.out.trans (hb4.mono HB.out.size)); replace B2 := lh (B2.out.below hb4); replace B3 := lh (B3.out.below hb4); clear hb4; refine (first2 _ _ 0 0 _ (ES.out.cell 0) (ES.out.cell 1)).mono ?_; rw [show firstE [0, 0] = 0 from rfl]; rintro e w5 ⟨rfl, rfl⟩; clear ES; have AA := B2.out; have BB := B3.out; have ac0 := AA.cell 0; have af0 := AA.frozen 0; have ac1 := AA.cell 1; have af1 := AA.frozen 1; simp only [List.getElem?_toArray, List.getElem?_cons_zero, List.getElem?_cons_succ] at ac0 ac1; clear AA; have bc0 := BB.cell 0; have bf0 := BB.frozen 0; have bc1 := BB.cell 1; have bf1 := BB.frozen 1; simp only [List.getElem?_toArray, List.getElem?_cons_zero, List.getElem?_cons_succ] at bc0 bc1; clear BB
 go_wp2_with fail
 refine (HS.out w4).mono ?_; rintro e w6 ⟨rfl, hb⟩; replace HB := lh (HB.out.trans (hb.mono HB.out.size)); clear hb; go_wp2
 (try simp only [Exit.inBlock, Exit.then])
 refine bodyPost_ret (v := .tuple #[.int .i64 S, .int .i64 0]) (by simp [results, Tryz.results17, go_sem, asAddr]) rfl ?_; exact ⟨rfl, HB.out⟩
end Go.Proofs.YtmafmebcgmegeaaGreatDoor
