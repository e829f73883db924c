/- Part. -/
import Derived.Test.YtmafmebcgmegeaaGreatDoorGz1
import Derived.Test.YtmafmebcgmegeaaGreatDoorGz7
namespace Go.Proofs.YtmafmebcgmegeaaGreatDoor
open Go.RowKit Go.Sort
theorem TyAt.c11 {w : World} {cs : Array Value} {nm : ByteArray} {sh : List Int} {T : Bell.Ty} {sa : Option Addr} {sn sc qb qo qn qc gb go gn gc : Nat} (h : TyAt w cs nm sh T sa sn sc qb qo qn qc gb go gn gc) : cs[11]? = some (.slice (some ⟨qb, qo, none⟩) qn qc) := by rw [h.cells]; rfl
theorem TyAt.c12 {w : World} {cs : Array Value} {nm : ByteArray} {sh : List Int} {T : Bell.Ty} {sa : Option Addr} {sn sc qb qo qn qc gb go gn gc : Nat} (h : TyAt w cs nm sh T sa sn sc qb qo qn qc gb go gn gc) : cs[12]? = some (.slice (some ⟨gb, go, none⟩) gn gc) := by rw [h.cells]; rfl
theorem TyAt.c10 {w : World} {cs : Array Value} {nm : ByteArray} {sh : List Int} {T : Bell.Ty} {sa : Option Addr} {sn sc qb qo qn qc gb go gn gc : Nat} (h : TyAt w cs nm sh T sa sn sc qb qo qn qc gb go gn gc) : cs[10]? = some (.int .i64 T.side) := by rw [h.cells]; rfl
theorem TyAt.c1 {w : World} {cs : Array Value} {nm : ByteArray} {sh : List Int} {T : Bell.Ty} {sa : Option Addr} {sn sc qb qo qn qc gb go gn gc : Nat} (h : TyAt w cs nm sh T sa sn sc qb qo qn qc gb go gn gc) : cs[1]? = some (.slice sa sn sc) := by rw [h.cells]; rfl
theorem TyAt.c0 {w : World} {cs : Array Value} {nm : ByteArray} {sh : List Int} {T : Bell.Ty} {sa : Option Addr} {sn sc qb qo qn qc gb go gn gc : Nat} (h : TyAt w cs nm sh T sa sn sc qb qo qn qc gb go gn gc) : cs[0]? = some (.string nm) := by rw [h.cells]; rfl
theorem TyAt.size {w : World} {cs : Array Value} {nm : ByteArray} {sh : List Int} {T : Bell.Ty} {sa : Option Addr} {sn sc qb qo qn qc gb go gn gc : Nat} (h : TyAt w cs nm sh T sa sn sc qb qo qn qc gb go gn gc) : cs.size = 13 := by rw [h.cells]; rfl
theorem TyAt.dir {w : World} {cs : Array Value} {nm : ByteArray} {sh : List Int} {T : Bell.Ty} {sa : Option Addr} {sn sc qb qo qn qc gb go gn gc : Nat} (h : TyAt w cs nm sh T sa sn sc qb qo qn qc gb go gn gc) {i : Nat} (hi : i < 8) : cs[2 + i]? = some (.int .i64 (T.direct.getD i 0)) := by
 rw [h.cells]
 match i, hi with
 | 0, _ => rfl
 | 1, _ => rfl
 | 2, _ => rfl
 | 3, _ => rfl
 | 4, _ => rfl
 | 5, _ => rfl
 | 6, _ => rfl
 | 7, _ => rfl
theorem TyAt.info {w : World} {cs : Array Value} {nm : ByteArray} {sh : List Int} {T : Bell.Ty} {sa : Option Addr} {sn sc qb qo qn qc gb go gn gc : Nat} (h : TyAt w cs nm sh T sa sn sc qb qo qn qc gb go gn gc) : (Tryz.prog.info? 42).map (·.size) = some cs.size := by rw [h.size]; kernel_rfl
theorem TyAt.lv {w W : World} {cs : Array Value} {nm : ByteArray} {sh : List Int} {T : Bell.Ty} {sa : Option Addr} {sn sc qb qo qn qc gb go gn gc g : Nat} (h : TyAt w cs nm sh T sa sn sc qb qo qn qc gb go gn gc) (hb : Blk W g 42 cs) : (loadVar 42 ⟨g, 0, none⟩).run Tryz.prog W = .ok (.agg cs) W :=
 hb.lv Tryz.prog (T := 42) Tryz.underlying42 rfl h.info
set_option maxHeartbeats 1000000 in
set_option maxRecDepth 100000 in
theorem reach_any {cs : Array Value} {nm : ByteArray} {sh : List Int} {T : Bell.Ty} {sa : Option Addr} {sn sc qb qo qn qc gb go gn gc : Nat} (q : Int) (w : World) (hT : TyAt w cs nm sh T sa sn sc qb qo qn qc gb go gn gc) (hG : GoodT sh T) (hq : 0 <= q) (hq2 : q <= 1000000000000) :
  Calls Tryz.prog 158 #[.agg cs, .int .i64 q] w fun e w' => e = .returned (.int .i64 (Bell.reachOf T.squares q : Nat)) /\ Below w.heap.size w w' := by
 have HT := lh hT; have HG := lh hG; clear hT hG
 go_enter Tryz.func158, Tryz.ntmps158
 go_upto_region 1 with fail
 obtain ⟨w1, hw1⟩ : ∃ X, X = w.alloc (.cells cs 42) := ⟨_, rfl⟩; rw [<- hw1]; have B1 : Blk w1 w.heap.size 42 cs := by rw [hw1]; exact Blk.new _ _ _
 have hb : Below w.heap.size w w1 := by rw [hw1]; exact (Below.refl _ _).alloc (Nat.le_refl _) _
 have c11 := (B1.cell 11).trans HT.out.c11; have HQ := lh (HT.out.keep hb).squares; have HB := lh hb; have hn : qn <= 8 := by have := HG.out.cnt.2.2; rw [HT.out.squares.1] at this; exact this
 clear hw1 B1 hb
 go_wp2_with fail
 refine (searchInts_any qb qo qn qc T.squares q w1 HQ.out hn HG.out.sq hq hq2).mono ?_; rintro e w2 ⟨rfl, hb2⟩; have HB2 := lh (HB.out.trans (hb2.mono HB.out.size)); have hlt : Bell.reachOf T.squares q < 8 := by have := Bell.reach_lt (q := q) HG.out.ty.sq; have := HG.out.cnt.2.2; omega
 obtain ⟨R, hR⟩ : ∃ R, R = Bell.reachOf T.squares q := ⟨_, rfl⟩; have HR := lh hR; rw [<- hR] at hlt ⊢; clear hb2 c11 hR; go_wp2; go_ret; exact ⟨ret_int (by rw [<- HR.out]), HB2.out⟩
theorem emission1_any (p x : Int) (ea : Option Addr) (en ec g : Nat) (w : World) (hc : w.cell? ⟨g, 0, none⟩ = some (.int .i64 p)) :
  Calls Tryz.prog 160 #[.agg #[.int .i64 x, .slice ea en ec], .pointer (some ⟨g, 0, none⟩)] w fun e w' => e = .returned (.bool (decide (p <= x))) /\ Below w.heap.size w w' := by
 have hb : Below w.heap.size w (w.alloc (.cells #[.int .i64 x, .slice ea en ec] 172)) := (Below.refl _ w).alloc (Nat.le_refl _) _
 have hc1 : (w.alloc (.cells #[.int .i64 x, .slice ea en ec] 172)).cell? ⟨g, 0, none⟩ = some (.int .i64 p) := by
  rw [hb.cell (p := ⟨g, 0, none⟩) (World.block_lt_of_cell? _ _ hc)]; exact hc
 have HB := lh hb; clear hb hc
 go_enter Tryz.func160, Tryz.ntmps160
 go_wp2
 go_ret
 exact ⟨rfl, HB.out⟩
theorem next_at_of {s : Bell.Sets} {p : Int} {k : Nat} (hk : k < s.length) (h1 : ∀ j, j < k -> Bell.ePow s j < p) (h2 : p <= Bell.ePow s k) : Bell.nextOf s p = k := by
 unfold Bell.nextOf; refine (List.findIdx_eq hk).2 ⟨?_, fun j hj => ?_⟩
 ·unfold Bell.ePow at h2; rw [List.getD_eq_getElem?_getD, List.getElem?_eq_getElem hk, Option.getD_some] at h2; exact decide_eq_true h2
 ·have := h1 j hj; unfold Bell.ePow at this; rw [List.getD_eq_getElem?_getD, List.getElem?_eq_getElem (by omega), Option.getD_some] at this; exact decide_eq_false (by omega)
theorem next_none_of {s : Bell.Sets} {p : Int} (h1 : ∀ j, j < s.length -> Bell.ePow s j < p) : Bell.nextOf s p = s.length := by
 unfold Bell.nextOf; refine List.findIdx_eq_length.2 fun x hx => ?_
 obtain ⟨j, hj, rfl⟩ := List.getElem_of_mem hx; have := h1 j hj; unfold Bell.ePow at this; rw [List.getD_eq_getElem?_getD, List.getElem?_eq_getElem hj, Option.getD_some] at this; exact decide_eq_false (by omega)
def nextI (s : Bell.Sets) (p : Int) : Int := if Bell.nextOf s p = s.length then -1 else (Bell.nextOf s p : Int)
set_option maxHeartbeats 1000000 in
set_option maxRecDepth 100000 in
theorem indexFunc_sets (b off n c g : Nat) (s : Bell.Sets) (p : Int) (w : World) (hs : SetsAt w b off n s) (hn : n <= 6) (hc : w.cell? ⟨g, 0, none⟩ = some (.int .i64 p)) :
  Calls Tryz.prog 159 #[.slice (some ⟨b, off, none⟩) n c, .func (.func 160) #[] #[.pointer (some ⟨g, 0, none⟩)]] w
   fun e w' => e = .returned (.int .i64 (nextI s p)) /\ Below w.heap.size w w' := by
 have HS := lh hs; have HC := lh hc; have HN := lh hs.1; clear hs hc
 go_enter Tryz.func159, Tryz.ntmps159
 go_wp2
 go_loopw [5, 8] (fun _ k wr => ∃ j : Nat, j <= n /\ k = .int .i64 j /\ Hid (∀ q, q < j -> Bell.ePow s q < p) /\ Hid (Below w.heap.size w wr)) (fun _ k _ => n - (intOf k).toNat)
 case atStart => exact ⟨0, Nat.zero_le _, rfl, (fun q hq => by omega), Below.refl _ _⟩
 case round =>
  obtain ⟨j, hj, rfl, hp, hb⟩ := hrel
  by_cases hlt : j < n
  ·obtain ⟨ea, en, ec, h1, h2, _⟩ := (HS.out.keep hb.out).2 j hlt
   have hcr : Hid (wr.cell? ⟨g, 0, none⟩ = some (.int .i64 p)) := by
    show _ = _
    rw [hb.out.cell (p := ⟨g, 0, none⟩) (World.block_lt_of_cell? _ _ HC.out)]; exact HC.out
   obtain ⟨x, hx⟩ : ∃ x, x = Bell.ePow s j := ⟨_, rfl⟩; rw [<- hx] at h1; have HX := lh hx; clear hx
   go_wp2_with fail
   refine (emission1_any p x ea en ec g wr hcr.out).mono ?_; rintro e w2 ⟨rfl, hb2⟩; have HB2 := lh (hb.out.trans (hb2.mono hb.out.size)); clear hb2 h1 h2
   by_cases hle : p <= x
   ·have hd : decide (p <= x) = true := decide_eq_true hle
    have hr : Hid (nextI s p = (j : Int)) := by
     show _ = _
     have := next_at_of (s := s) (p := p) (k := j) (by rw [HN.out]; exact hlt) hp.out (by rw [<- HX.out]; exact hle); unfold nextI; rw [this, if_neg (by rw [HN.out]; omega)]
    rw [hd]; clear hle hd; go_wp2; go_ret; exact ⟨ret_int hr.out.symm, HB2.out⟩
   ·have hd : decide (p <= x) = false := decide_eq_false hle
    have hq : Hid (∀ q, q < j + 1 -> Bell.ePow s q < p) := fun q hq => by
     by_cases hqj : q = j
     ·subst hqj; rw [<- HX.out]; omega
     ·exact hp.out q (by omega)
    rw [hd]; clear hle hd; go_wp2; go_roundw
    case rel => exact ⟨j + 1, by omega, by go_num, hq, HB2⟩
    case measure => simp [intOf]; omega
  ·have hr : Hid (nextI s p = -1) := by
    show _ = _
    have := next_none_of (s := s) (p := p) (fun q hq => hp.out q (by rw [HN.out] at hq; omega)); unfold nextI; rw [this, if_pos rfl]
   go_wp2
   go_ret
   exact ⟨ret_int hr.out.symm, hb.out⟩
theorem SetsAt.at {w : World} {b off n : Nat} {s : Bell.Sets} (h : SetsAt w b off n s) {k r m : Nat} (hk : k < n) (hm : ((s.getD k (0, [])).2).length = m) (hr : r < m) :
  ∃ eb eo en ec, w.cell? ⟨b, off + k * 2, none⟩ = some (.int .i64 (Bell.ePow s k)) /\ w.cell? ⟨b, off + k * 2 + 1, none⟩ = some (.slice (some ⟨eb, eo, none⟩) en ec) /\ en = m /\ w.cell? ⟨eb, eo + r, none⟩ = some (.int .i64 (Bell.eAt s k r)) := by
 obtain ⟨ea, en, ec, h1, h2, h3⟩ := h.2 k hk; have hen : en = m := by rw [<- h3.1, hm]
 obtain ⟨eb, eo, rfl, h4⟩ := h3.2 (by omega); exact ⟨eb, eo, en, ec, h1, h2, hen, h4 r (by omega)⟩
set_option maxHeartbeats 4000000 in
set_option maxRecDepth 100000 in
theorem emission_any {cs : Array Value} {nm : ByteArray} {sh : List Int} {T : Bell.Ty} {sa : Option Addr} {sn sc qb qo qn qc gb go gn gc : Nat} (p q : Int) (w : World) (hT : TyAt w cs nm sh T sa sn sc qb qo qn qc gb go gn gc) (hG : GoodT sh T) (hp : 1 <= p /\ p <= 100) (hq : 0 <= q /\ q <= 1000000000000) :
  Calls Tryz.prog 90 #[.agg cs, .int .i64 p, .int .i64 q] w fun e w' => e = .returned (.int .i64 (Bell.emis T.sets (Bell.reachOf T.squares q) p)) /\ Below w.heap.size w w' := by
 have HT := lh hT; have HG := lh hG; have HQ := lh hq; obtain ⟨p1, p2⟩ := hp; clear hT hG hq; have hrl : Bell.reachOf T.squares q < T.squares.length := Bell.reach_lt HG.out.ty.sq; have hm8 := HG.out.cnt.2.2; have hn6 : gn <= 6 := by have := HG.out.cnt.1.2; rw [HT.out.sets.1] at this; exact this
 have hn1 : 0 < gn := by have := HG.out.cnt.1.1; rw [HT.out.sets.1] at this; exact this
 obtain ⟨R, hR⟩ : ∃ R, R = Bell.reachOf T.squares q := ⟨_, rfl⟩; rw [<- hR] at hrl ⊢; have HRC := lh (fun W (hb : Below w.heap.size w W) => reach_any q W (HT.out.keep hb) HG.out HQ.out.1 HQ.out.2); rw [<- hR] at HRC; clear hR; obtain ⟨V, hV⟩ : ∃ V, V = Bell.emis T.sets R p := ⟨_, rfl⟩; rw [<- hV]; have HV := lh hV; obtain ⟨m, hm⟩ : ∃ m, m = T.squares.length := ⟨_, rfl⟩; rw [<- hm] at hrl hm8; have HM := lh hm; have HL : Hid (∀ k, k < gn -> ((T.sets.getD k (0, [])).2).length = m) := fun k hk => by rw [HM.out]; exact HG.out.len (by rw [HT.out.sets.1]; exact hk)
 have HER : Hid (∀ k, k < gn -> 0 <= Bell.eAt T.sets k R /\ Bell.eAt T.sets k R <= 100000000) := fun k hk =>
  ⟨HG.out.ty.sets.lo k R (by rw [HT.out.sets.1]; exact hk) (by rw [<- HM.out]; exact hrl), HG.out.ty.sets.hi k R (by rw [HT.out.sets.1]; exact hk) (by rw [<- HM.out]; exact hrl)⟩
 clear hV hm
 go_enter Tryz.func90, Tryz.ntmps90
 go_upto_region 1 with fail
 obtain ⟨w1, hw1⟩ : ∃ X, X = (w.alloc (.cells cs 42)).alloc (.cells #[.int .i64 p] 3) := ⟨_, rfl⟩; rw [<- hw1]; have B1 : Hid (Blk w1 w.heap.size 42 cs) := by show Blk _ _ _ _; rw [hw1]; exact (Blk.new _ _ _).alloc _
 have P1 : Hid (Blk w1 (w.heap.size + 1) 3 #[.int .i64 p]) := by show Blk _ _ _ _; rw [hw1]; exact Blk.at_size _ _ (by simp)
 have HB : Hid (Below w.heap.size w w1) := by show Below _ _ _; rw [hw1]; exact ((Below.refl _ _).alloc (Nat.le_refl _) _).alloc (by simp) _
 obtain ⟨g, hg⟩ : ∃ g, g = w.heap.size := ⟨_, rfl⟩; rw [<- hg] at B1 P1 ⊢; clear hw1 hg; have IT := lh HT.out.info
 go_wp2_with (refine wpList_load_row rfl 42 _ rfl g rfl 42 cs (0, 0) _ B1.out Tryz.underlying42 rfl IT.out ?_)
 refine (HRC.out w1 HB.out).mono ?_; rintro e w2 ⟨rfl, hb2⟩; have B2 := lh (B1.out.below hb2); have P2 := lh (P1.out.below hb2); have HB2 := lh (HB.out.trans (hb2.mono HB.out.size)); have c12 := (B2.out.cell 12).trans HT.out.c12; clear hb2 B1 P1 HB HRC
 go_wp2_with fail
 refine (indexFunc_sets gb go gn gc (g + 1) T.sets p w2 (HT.out.sets.keep HB2.out) hn6 (P2.out.cell 0)).mono ?_; rintro e w3 ⟨rfl, hb3⟩; have B3 := lh (B2.out.below hb3); have P3 := lh (P2.out.below hb3); have HB3 := lh (HB2.out.trans (hb3.mono HB2.out.size)); have HS3 := lh (HT.out.sets.keep HB3.out); clear hb3 B2 P2 HB2 c12; have c12 := (B3.out.cell 12).trans HT.out.c12; have HSL := lh HT.out.sets.1; have hle := Bell.next_le T.sets p; rw [HSL.out] at hle
 by_cases hlast : Bell.nextOf T.sets p = gn
 ·have hv : Hid (nextI T.sets p = -1) := by show _ = _; unfold nextI; rw [HSL.out, if_pos hlast]
  obtain ⟨k, rfl⟩ : ∃ k, gn = k + 1 := ⟨gn - 1, by omega⟩; have he : Hid (V = Bell.eAt T.sets k R) := by show _ = _; rw [HV.out]; unfold Bell.emis; rw [HSL.out, if_pos hlast, Nat.add_sub_cancel]
  obtain ⟨eb, eo, en, ec, s1, s2, rfl, s4⟩ := HS3.out.at (k := k) (r := R) (by omega) (HL.out k (by omega)) hrl; rw [<- he.out] at s4; rw [hv.out]; clear hlast hle hn1; go_wp2; go_ret; exact ⟨rfl, HB3.out⟩
 ·have hlt : Bell.nextOf T.sets p < gn := by omega
  have hv : Hid (nextI T.sets p = (Bell.nextOf T.sets p : Int)) := by show _ = _; unfold nextI; rw [HSL.out, if_neg hlast]
  rw [hv.out]; have HUP := lh (Bell.next_at (s := T.sets) (p := p) (by rw [HSL.out]; exact hlt)); have HDN := lh (fun i (hi : i < Bell.nextOf T.sets p) => Bell.next_before (s := T.sets) (p := p) hi)
  have he : Hid (V = if Bell.nextOf T.sets p = 0 then Bell.eAt T.sets 0 R else Bell.betw (Bell.eAt T.sets (Bell.nextOf T.sets p - 1) R) (Bell.eAt T.sets (Bell.nextOf T.sets p) R) (p - Bell.ePow T.sets (Bell.nextOf T.sets p - 1)) (Bell.ePow T.sets (Bell.nextOf T.sets p) - Bell.ePow T.sets (Bell.nextOf T.sets p - 1))) := by
   show _ = _; rw [HV.out]; unfold Bell.emis; rw [HSL.out, if_neg hlast]
  obtain ⟨N, hN⟩ : ∃ N, N = Bell.nextOf T.sets p := ⟨_, rfl⟩; rw [<- hN] at hlt he HUP HDN ⊢; obtain ⟨eb, eo, en, ec, s1, s2, s3, s4⟩ := HS3.out.at (k := N) (r := R) hlt (HL.out N hlt) hrl; have hre : R < en := by omega
  clear hlast hle hv hN hn1; rcases Nat.eq_zero_or_pos N with h0 | h0
  ·subst h0; have he0 : Hid (V = Bell.eAt T.sets 0 R) := by show _ = _; rw [he.out, if_pos rfl]
   rw [<- he0.out] at s4; simp only [Nat.zero_mul, Nat.add_zero] at s1 s2; have hb4 := (Below.refl w3.heap.size w3).alloc (Nat.le_refl _) (.cells #[.int .i64 (Bell.ePow T.sets 0), .slice (some ⟨eb, eo, none⟩) en ec] 172)
   have s5 : (w3.alloc (.cells #[.int .i64 (Bell.ePow T.sets 0), .slice (some ⟨eb, eo, none⟩) en ec] 172)).cell? ⟨eb, eo + R, none⟩ = some (.int .i64 V) := by
    rw [hb4.cell (p := ⟨eb, eo + R, none⟩) (World.block_lt_of_cell? _ _ s4)]; exact s4
   have HB5 := lh (HB3.out.trans (hb4.mono HB3.out.size)); clear hb4 s3; go_wp2; go_ret; exact ⟨rfl, HB5.out⟩
  ·obtain ⟨k, rfl⟩ : ∃ k, N = k + 1 := ⟨N - 1, by omega⟩; have he1 : Hid (V = Bell.betw (Bell.eAt T.sets k R) (Bell.eAt T.sets (k + 1) R) (p - Bell.ePow T.sets k) (Bell.ePow T.sets (k + 1) - Bell.ePow T.sets k)) := by show _ = _; rw [he.out, if_neg (by omega), Nat.add_sub_cancel]
   obtain ⟨fb, fo, fn, fc, r1, r2, r3, r4⟩ := HS3.out.at (k := k) (r := R) (by omega) (HL.out k (by omega)) hrl; have q1 := HG.out.pow (k := k) (by rw [HSL.out]; omega); have q2 := HG.out.pow (k := k + 1) (by rw [HSL.out]; omega); have q3 := HUP.out; have q4 := HDN.out k (by omega); have q5 := HER.out k (by omega); have q6 := HER.out (k + 1) (by omega); obtain ⟨X, hX⟩ : ∃ X, X = Bell.ePow T.sets k := ⟨_, rfl⟩; obtain ⟨Y, hY⟩ : ∃ Y, Y = Bell.ePow T.sets (k + 1) := ⟨_, rfl⟩; obtain ⟨E, hE⟩ : ∃ E, E = Bell.eAt T.sets k R := ⟨_, rfl⟩; obtain ⟨D, hD⟩ : ∃ D, D = Bell.eAt T.sets (k + 1) R := ⟨_, rfl⟩; rw [<- hX] at q1 q4 r1 he1; rw [<- hY] at q2 q3 s1 he1; rw [<- hE] at q5 r4 he1; rw [<- hD] at q6 s4 he1; obtain ⟨q11, q12⟩ := q1; obtain ⟨q21, q22⟩ := q2; obtain ⟨q51, q52⟩ := q5; obtain ⟨q61, q62⟩ := q6; have HP3 := lh (P3.out.cell 0); clear he HUP HDN hX hY hE hD HV HL HER HG; have hrf : R < fn := by omega
   clear s3 r3 hm8 hrl
   go_upto_region 6 with fail
   obtain ⟨w4, hw4⟩ : ∃ W, W = w3.alloc (.cells #[.int .i64 Y, .slice (some ⟨eb, eo, none⟩) en ec] 172) := ⟨_, rfl⟩; rw [<- hw4]; have hb4 : Below w3.heap.size w3 w4 := by rw [hw4]; exact (Below.refl _ _).alloc (Nat.le_refl _) _
   have K4 : ∀ {x : Addr} {v : Value}, w3.cell? x = some v -> w4.cell? x = some v := fun {x v} hc => by rw [hb4.cell (World.block_lt_of_cell? _ _ hc)]; exact hc
   have M4 : Hid (Blk w4 w3.heap.size 172 #[.int .i64 Y, .slice (some ⟨eb, eo, none⟩) en ec]) := by show Blk _ _ _ _; rw [hw4]; exact Blk.new _ _ _
   obtain ⟨g4, hg4⟩ : ∃ g, g = w3.heap.size := ⟨_, rfl⟩; rw [<- hg4] at M4 ⊢; have d12 := K4 c12; have e1 := K4 r1; have e2 := K4 r2; have e4 := lh (K4 r4); have f4 := lh (K4 s4); have p4 := lh (K4 HP3.out); have HB4 := lh (HB3.out.trans (hb4.mono HB3.out.size)); clear c12 r1 r2 r4 s1 s2 s4 HP3 hw4 hb4 K4 hg4 HB3; have hk1 : ((k + 1 : Nat) : Int) - 1 = (k : Int) := by omega
   go_upto_region 9 with fail
   obtain ⟨w5, hw5⟩ : ∃ W, W = w4.alloc (.cells #[.int .i64 X, .slice (some ⟨fb, fo, none⟩) fn fc] 172) := ⟨_, rfl⟩; rw [<- hw5]; have hb5 : Below w4.heap.size w4 w5 := by rw [hw5]; exact (Below.refl _ _).alloc (Nat.le_refl _) _
   have K5 : ∀ {x : Addr} {v : Value}, w4.cell? x = some v -> w5.cell? x = some v := fun {x v} hc => by rw [hb5.cell (World.block_lt_of_cell? _ _ hc)]; exact hc
   have M5 : Blk w5 w4.heap.size 172 #[.int .i64 X, .slice (some ⟨fb, fo, none⟩) fn fc] := by rw [hw5]; exact Blk.new _ _ _
   obtain ⟨g5, hg5⟩ : ∃ g, g = w4.heap.size := ⟨_, rfl⟩; rw [<- hg5] at M5 ⊢; have k4 := K5 e4.out; have k5 := K5 f4.out; have k6 := K5 p4.out; have N4 := M4.out.below hb5; have a0 := M5.cell 0; have a1 := M5.cell 1; have b0 := N4.cell 0; have b1 := N4.cell 1; simp only [List.getElem?_toArray, List.getElem?_cons_zero, List.getElem?_cons_succ] at a0 a1 b0 b1; have HB5 := lh (HB4.out.trans (hb5.mono HB4.out.size)); clear hw5 hb5 K5 hg5 HB4 M5 N4 M4 e4 f4 p4 d12 e1 e2; refine wp_region_still_tail 19 (by kernel_rfl) (by kernel_rfl) ?_; simp only [List.take_succ_cons, List.take_zero, List.drop_succ_cons, List.drop_zero]
   change wpStill _ _ (World.drew _) _ _ _
   repeat still_step
   refine wpStill_nil ?_
   change wpList _ _ _ _ _ (World.drew _)
   go_wp2_with fail
   refine (between_st E D (p - X) (Y - X) _ (by omega) (by omega) (by omega) (by omega) (by omega) (by omega) (by omega) (by omega)).mono ?_; rintro e w6 ⟨rfl, rfl⟩; go_wp2; go_ret; exact ⟨ret_int he1.out.symm, HB5.out.drew⟩
def GoodPl (r : Bell.Pl) : Prop := (-100000 <= r.x /\ r.x <= 100000) /\ (-100000 <= r.y /\ r.y <= 100000) /\ (0 <= r.z /\ r.z <= 20000)
def plV (r : Bell.Pl) : Array Value := #[.int .i64 r.x, .int .i64 r.y, .int .i64 r.z]
set_option maxHeartbeats 4000000 in
set_option maxRecDepth 100000 in
theorem heard_any {cs : Array Value} {nm : ByteArray} {sh : List Int} {T : Bell.Ty} {sa : Option Addr} {sn sc qb qo qn qc gb go gn gc : Nat} (s : Bell.St) (r : Bell.Pl) (w : World) (hT : TyAt w cs nm sh T sa sn sc qb qo qn qc gb go gn gc) (hG : GoodT sh T) (hs : Bell.GoodSt s) (hr : GoodPl r) :
  Calls Tryz.prog 95 #[.agg cs, .agg (stV s), .agg (plV r)] w fun e w' => e = .returned (.int .i64 (Bell.heardOf T s r)) /\ Below w.heap.size w w' := by
 have HT := lh hT; have HG := lh hG; obtain ⟨x0, x1, y0, y1, z0, z1, hx0, hx1, hy0, hy1, p0, p1⟩ := hs; obtain ⟨⟨rx0, rx1⟩, ⟨ry0, ry1⟩, ⟨rz0, rz1⟩⟩ := hr; clear hT hG; obtain ⟨V, hV⟩ : ∃ V, V = Bell.heardOf T s r := ⟨_, rfl⟩; rw [<- hV]; have HV := lh hV; clear hV; unfold stV plV; obtain ⟨a, ha⟩ : ∃ a, a = r.x - s.x := ⟨_, rfl⟩; obtain ⟨b, hb⟩ : ∃ b, b = r.y - s.y := ⟨_, rfl⟩; obtain ⟨c, hc⟩ : ∃ c, c = r.z - s.z := ⟨_, rfl⟩; have a1 : -200000 <= a /\ a <= 200000 := by omega
 have b1 : -200000 <= b /\ b <= 200000 := by omega
 have c1 : -20000 <= c /\ c <= 20000 := by omega
 have sa1 := sq_in a1.1 a1.2; have sb1 := sq_in b1.1 b1.2; have sc1 := sq_in c1.1 c1.2; have hM := lh (fun W => minus_any r.x r.y r.z s.x s.y s.z W (by omega) (by omega) (by omega) (by omega) (by omega) (by omega)); rw [<- ha, <- hb, <- hc] at hM; have hSq := lh (fun W => square_any a b c W (by omega) (by omega) (by omega)); have hLs := lh (fun W => levelSquare_any a b c W (by omega) (by omega)); have hSc := lh (fun W => sector_any s.hx s.hy a b W (by omega) (by omega) (by omega) (by omega)); have hEm := lh (fun W (hb : Below w.heap.size w W) => emission_any s.p (a * a + b * b + c * c) W (HT.out.keep hb) HG.out ⟨p0, p1⟩ ⟨by omega, by omega⟩); obtain ⟨E, hE⟩ : ∃ E, E = Bell.emis T.sets (Bell.reachOf T.squares (a * a + b * b + c * c)) s.p := ⟨_, rfl⟩; obtain ⟨S, hS⟩ : ∃ S, S = Bell.sectorOf s.hx s.hy a b := ⟨_, rfl⟩; have hS8 : S < 8 := by rw [hS]; exact Bell.sector_lt _ _ _ _
 have hEr := Bell.emis_range HG.out.ty.sets (r := Bell.reachOf T.squares (a * a + b * b + c * c)) (Bell.reach_lt HG.out.ty.sq) s.p; obtain ⟨D, hD⟩ : ∃ D, D = T.direct.getD S 0 := ⟨_, rfl⟩; have hDr := HG.out.ty.dir S hS8
 have hv : Hid (V = if a * a + b * b <= 4 * c * c then E * D / 1000 else E * D * T.side / 1000000) := by
  show _ = _
  rw [HV.out, hE, hD, hS, ha, hb, hc]; unfold Bell.heardOf Bell.steepOf Bell.energyOf Bell.sqOf; rfl
 rw [<- hE] at hEm hEr; rw [<- hS] at hSc; rw [<- hD] at hDr; have HDir := lh (HT.out.dir hS8); rw [<- hD] at HDir; have hED := mul_in (a := E) (b := D) (m := 100000000) (n := 2000) (by omega) (by omega) (by omega) (by omega); have hED0 : 0 <= E * D := Int.mul_nonneg hEr.1 hDr.1; obtain ⟨X, hX⟩ : ∃ X, X = E * D := ⟨_, rfl⟩; have hXe : Hid (E * D = X) := hX.symm; rw [<- hX] at hED hED0 hv; have hsd0 := HG.out.ty.side0; have hsd1 := HG.out.ty.side1; have hXS := mul_in (a := X) (b := T.side) (m := 200000000000) (n := 1000) (by omega) (by omega) (by omega) (by omega); have hXS0 : 0 <= X * T.side := Int.mul_nonneg hED0 hsd0; obtain ⟨sd, hsd⟩ : ∃ x, x = T.side := ⟨_, rfl⟩; have HSide := lh HT.out.c10; rw [<- hsd] at HSide hXS hXS0 hsd0 hsd1 hv; have hX1 : X <= 200000000000 := by omega
 have hXS1 : X * sd <= 200000000000000 := by omega
 obtain ⟨E0, E1⟩ := hEr; obtain ⟨D0, D1⟩ := hDr; obtain ⟨sa1, sa2⟩ := sa1; obtain ⟨sb1, sb2⟩ := sb1; obtain ⟨sc1, sc2⟩ := sc1; clear ha hb hc hE hS hD hX hsd HV hED hXS
 go_enter Tryz.func95, Tryz.ntmps95
 go_upto_region 1 with fail
 obtain ⟨w1, hw1⟩ : ∃ W, W = ((w.alloc (.cells cs 42)).alloc (.cells #[.int .i64 s.x, .int .i64 s.y, .int .i64 s.z, .int .i64 s.hx, .int .i64 s.hy, .int .i64 s.p] 46)).alloc (.cells #[.int .i64 r.x, .int .i64 r.y, .int .i64 r.z] 28) := ⟨_, rfl⟩; rw [<- hw1]; have T1 : Hid (Blk w1 w.heap.size 42 cs) := by show Blk _ _ _ _; rw [hw1]; exact ((Blk.new _ _ _).alloc _).alloc _
 have S1 : Hid (Blk w1 (w.heap.size + 1) 46 #[.int .i64 s.x, .int .i64 s.y, .int .i64 s.z, .int .i64 s.hx, .int .i64 s.hy, .int .i64 s.p]) := by show Blk _ _ _ _; rw [hw1]; exact (Blk.at_size _ _ (by simp)).alloc _
 have R1 : Hid (Blk w1 (w.heap.size + 1 + 1) 28 #[.int .i64 r.x, .int .i64 r.y, .int .i64 r.z]) := by show Blk _ _ _ _; rw [hw1]; exact Blk.at_size _ _ (by simp)
 have HB1 : Hid (Below w.heap.size w w1) := by show Below _ _ _; rw [hw1]; exact (((Below.refl _ _).alloc (Nat.le_refl _) _).alloc (by simp) _).alloc (by simp; omega) _
 obtain ⟨g, hg⟩ : ∃ g, g = w.heap.size := ⟨_, rfl⟩; rw [<- hg] at T1 S1 R1 ⊢; clear hw1 hg; have r0 := R1.out.cell 0; have r1 := R1.out.cell 1; have r2 := R1.out.cell 2; have s0 := S1.out.cell 0; have s1 := S1.out.cell 1; have s2 := S1.out.cell 2; simp only [List.getElem?_toArray, List.getElem?_cons_zero, List.getElem?_cons_succ] at r0 r1 r2 s0 s1 s2
 go_wp2_with fail
 refine (hM.out w1).mono ?_; rintro e w2 ⟨rfl, hb2⟩; have T2 := lh (T1.out.below hb2); have S2 := lh (S1.out.below hb2); have HB2 := lh (HB1.out.trans (hb2.mono HB1.out.size)); clear r0 r1 r2 s0 s1 s2 hb2 T1 S1 R1 HB1 hM
 go_upto_region 2 with fail
 obtain ⟨w3, hw3⟩ : ∃ W, W = w2.alloc (.cells #[.int .i64 a, .int .i64 b, .int .i64 c] 28) := ⟨_, rfl⟩; rw [<- hw3]; have hb3 : Below w2.heap.size w2 w3 := by rw [hw3]; exact (Below.refl _ _).alloc (Nat.le_refl _) _
 have V3 : Hid (Blk w3 w2.heap.size 28 #[.int .i64 a, .int .i64 b, .int .i64 c]) := by show Blk _ _ _ _; rw [hw3]; exact Blk.new _ _ _
 have T3 := lh (T2.out.below hb3); have S3 := lh (S2.out.below hb3); have HB3 := lh (HB2.out.trans (hb3.mono HB2.out.size)); obtain ⟨gv, hgv⟩ : ∃ g, g = w2.heap.size := ⟨_, rfl⟩; rw [<- hgv] at V3 ⊢; clear hw3 hgv hb3 T2 S2 HB2; have bw : ∀ d os, Below w3.heap.size w3 (grow (redrawn w3 d) os) := fun d os => below_regrown w3 d os
 have lT := fun d os => HT.out.lv (T3.out.below (bw d os))
 have v0 := fun d os => cell_regrown (V3.out.cell 0) d os
 have v1 := fun d os => cell_regrown (V3.out.cell 1) d os
 have v2 := fun d os => cell_regrown (V3.out.cell 2) d os
 have s3 := fun d os => cell_regrown (S3.out.cell 3) d os
 have s4 := fun d os => cell_regrown (S3.out.cell 4) d os
 have s5 := fun d os => cell_regrown (S3.out.cell 5) d os
 have td := fun d os => cell_regrown ((T3.out.cell (2 + S)).trans HDir.out) d os
 have cq := fun d os => Calls.regrown_of (hSq.out (grow (redrawn w3 d) os))
 have ce := fun d os => Calls.regrown_of (hEm.out (grow (redrawn w3 d) os) (HB3.out.trans ((bw d os).mono HB3.out.size)))
 have cf := fun d os => Calls.regrown_of (flat_any a b c (grow (redrawn w3 d) os))
 have cc := fun d os => Calls.regrown_of (hSc.out (grow (redrawn w3 d) os))
 have hXe' := hXe.out; clear a1 b1 c1 x0 x1 y0 y1 z0 z1 hx0 hx1 hy0 hy1 p0 p1 rx0 rx1 ry0 ry1 rz0 rz1 E0 E1 D0 D1; refine wp_region_quiet_below (by kernel_rfl) (by kernel_rfl) ?_; refine quiet_load _ _ rfl (by rfl) _ _ rfl lT ?_
 iterate 3 (quiet_step (fail))
 quiet_step (exact cq _ _)
 quiet_step (exact ce _ _)
 iterate 3 (quiet_step (fail))
 quiet_step (exact cf _ _)
 quiet_step (exact cc _ _)
 have hS8i : (S : Int) < 8 := by omega
 repeat (quiet_step (fail))
 refine wpQuiet_nil ?_; intro w4 hw'; obtain ⟨⟨dq, osq⟩, hw''⟩ := hw'; have hb4 := bw dq osq; rw [<- hw''] at hb4; have T4 := lh (T3.out.below hb4); have V4 := lh (V3.out.below hb4); have HB4 := lh (HB3.out.trans (hb4.mono HB3.out.size)); clear hw'' hb4 lT v0 v1 v2 s3 s4 s5 td cq ce cf cc bw T3 V3 S3 HB3 hXe' hSq hSc hEm HDir
 go_upto_region 3 with fail
 have v0 := fun d os => cell_regrown (V4.out.cell 0) d os
 have v1 := fun d os => cell_regrown (V4.out.cell 1) d os
 have v2 := fun d os => cell_regrown (V4.out.cell 2) d os
 have cl := fun d os => Calls.regrown_of (hLs.out (grow (redrawn w4 d) os))
 have ca := fun d os => Calls.regrown_of (ascending_any (a * a + b * b) (4 * c * c) (grow (redrawn w4 d) os))
 have bw : ∀ d os, Below w4.heap.size w4 (grow (redrawn w4 d) os) := fun d os => below_regrown w4 d os
 have hcc : 4 * c * c = 4 * (c * c) := by rw [Int.mul_assoc]
 have hcb1 : 0 <= 4 * c * c := by omega
 have hcb2 : 4 * c * c <= 1600000000 := by omega
 have c1 : -20000 <= c := by rw [<- Int.not_lt]; intro h; have := Int.mul_self_le_mul_self (show (0:Int) <= 20001 by omega) (show 20001 <= -c by omega); rw [Int.neg_mul_neg] at this; omega
 have c2 : c <= 20000 := by rw [<- Int.not_lt]; intro h; have := Int.mul_self_le_mul_self (show (0:Int) <= 20001 by omega) (show 20001 <= c by omega); omega
 have wr1 : IntKind.i64.wrap (4 * c) = 4 * c := IntWalk.i64_in _ (by omega); have wr2 : IntKind.i64.wrap (4 * c * c) = 4 * c * c := IntWalk.i64_in _ (by omega); clear hcc; refine wp_region_quiet_below (by kernel_rfl) (by kernel_rfl) ?_
 quiet_step (fail)
 quiet_step (exact cl _ _)
 iterate 7 (quiet_step (fail))
 quiet_step (exact ca _ _)
 repeat (quiet_step (fail))
 refine wpQuiet_nil ?_; intro w5 hw'; obtain ⟨⟨dq5, osq5⟩, hw''⟩ := hw'; have hb5 := bw dq5 osq5; rw [<- hw''] at hb5; have T5 := lh (T4.out.below hb5); have HB5 := lh (HB4.out.trans (hb5.mono HB4.out.size)); have t10 := (T5.out.cell 10).trans HSide.out; clear hw'' hb5 v0 v1 v2 cl ca bw T4 V4 HB4
 by_cases hst : a * a + b * b <= 4 * c * c
 ·have hd : decide (a * a + b * b <= 4 * c * c) = true := decide_eq_true hst; rw [if_pos hst] at hv; rw [hd]; clear hst hd; go_wp2; go_ret; exact ⟨ret_int hv.out.symm, HB5.out⟩
 ·have hd : decide (a * a + b * b <= 4 * c * c) = false := decide_eq_false hst; rw [if_neg hst] at hv; rw [hd]; clear hst hd; go_wp2; go_ret; exact ⟨ret_int hv.out.symm, HB5.out⟩
def lowTo (l : List Int) (j : Nat) : Int := (l.take j).foldl min (l.headD 0)
def highTo (l : List Int) (j : Nat) : Int := (l.take j).foldl max (l.headD 0)
theorem lowTo_succ {l : List Int} {j : Nat} (h : j < l.length) : lowTo l (j + 1) = min (lowTo l j) (l.getD j 0) := by
 unfold lowTo; rw [take_snocI l j h, List.foldl_append]; rfl
theorem highTo_succ {l : List Int} {j : Nat} (h : j < l.length) : highTo l (j + 1) = max (highTo l j) (l.getD j 0) := by
 unfold highTo; rw [take_snocI l j h, List.foldl_append]; rfl
theorem lowTo_all (l : List Int) : lowTo l l.length = Bell.dLow l := by unfold lowTo; rw [List.take_length]; rfl
theorem highTo_all (l : List Int) : highTo l l.length = Bell.dHigh l := by unfold highTo; rw [List.take_length]; rfl
theorem dir_index (d0 d1 d2 d3 d4 d5 d6 d7 : Int) {k : Nat} (hk : k < 8) (W : World) :
  (Instr.index 23 (.agg #[.int .i64 d0, .int .i64 d1, .int .i64 d2, .int .i64 d3, .int .i64 d4, .int .i64 d5, .int .i64 d6, .int .i64 d7]) (.int .i64 k)).run Tryz.prog W = .ok (.int .i64 ([d0, d1, d2, d3, d4, d5, d6, d7].getD k 0)) W := by
 match k, hk with
 | 0, _ => show _ = _; kernel_rfl
 | 1, _ => show _ = _; kernel_rfl
 | 2, _ => show _ = _; kernel_rfl
 | 3, _ => show _ = _; kernel_rfl
 | 4, _ => show _ = _; kernel_rfl
 | 5, _ => show _ = _; kernel_rfl
 | 6, _ => show _ = _; kernel_rfl
 | 7, _ => show _ = _; kernel_rfl
set_option maxHeartbeats 4000000 in
set_option maxRecDepth 100000 in
theorem directivities_any {cs : Array Value} {nm : ByteArray} {sh : List Int} {T : Bell.Ty} {sa : Option Addr} {sn sc qb qo qn qc gb go gn gc : Nat} (w : World) (hT : TyAt w cs nm sh T sa sn sc qb qo qn qc gb go gn gc) (hd : T.direct.length = 8) :
  Calls Tryz.prog 186 #[.agg cs] w fun e w' => e = .returned (.agg #[.int .i64 (Bell.dLow T.direct), .int .i64 (Bell.dHigh T.direct)]) /\ Below w.heap.size w w' := by
 have HT := lh hT
 obtain ⟨d0, d1, d2, d3, d4, d5, d6, d7, he⟩ : ∃ d0 d1 d2 d3 d4 d5 d6 d7, T.direct = [d0, d1, d2, d3, d4, d5, d6, d7] := by
  match T.direct, hd with
  | [a0, a1, a2, a3, a4, a5, a6, a7], _ => exact ⟨_, _, _, _, _, _, _, _, rfl⟩
 have D := lh (fun i (hi : i < 8) => HT.out.dir (i := i) hi); rw [he] at D ⊢; obtain ⟨l, hl⟩ : ∃ l, l = [d0, d1, d2, d3, d4, d5, d6, d7] := ⟨_, rfl⟩; have HLen : Hid (l.length = 8) := by show _ = _; rw [hl]; rfl
 have HE := lh hl; have H0 : Hid (l.headD 0 = d0) := by show _ = _; rw [hl]; rfl
 have HR1 : Hid (Bell.dLow [d0, d1, d2, d3, d4, d5, d6, d7] = lowTo l 8) := by show _ = _; rw [<- hl, <- lowTo_all, HLen.out]
 have HR2 : Hid (Bell.dHigh [d0, d1, d2, d3, d4, d5, d6, d7] = highTo l 8) := by show _ = _; rw [<- hl, <- highTo_all, HLen.out]
 rw [HR1.out, HR2.out]; clear hT hd he hl HR1 HR2
 go_enter Tryz.func186, Tryz.ntmps186
 go_upto_region 1 with fail
 obtain ⟨w1, hw1⟩ : ∃ W, W = (w.alloc (.cells cs 42)).alloc (.cells #[.int .i64 0, .int .i64 0] 100) := ⟨_, rfl⟩; rw [<- hw1]; have T1 : Hid (Blk w1 w.heap.size 42 cs) := by show Blk _ _ _ _; rw [hw1]; exact (Blk.new _ _ _).alloc _
 have R1 : Hid (Blk w1 (w.heap.size + 1) 100 #[.int .i64 0, .int .i64 0]) := by show Blk _ _ _ _; rw [hw1]; exact Blk.at_size _ _ (by simp)
 have HB1 : Hid (Below w.heap.size w w1) := by show Below _ _ _; rw [hw1]; exact ((Below.refl _ _).alloc (Nat.le_refl _) _).alloc (by simp) _
 obtain ⟨g, hg⟩ : ∃ g, g = w.heap.size := ⟨_, rfl⟩; rw [<- hg] at T1 R1 ⊢; have HG := lh hg; clear hw1 hg; have t2 := (T1.out.cell 2).trans (D.out 0 (by omega)); simp only [List.getD_cons_zero] at t2
 go_upto_region 2 with fail
 obtain ⟨w2, hw2⟩ : ∃ W, W = w1.alloc (.cells #[.int .i64 d0, .int .i64 d0] 100) := ⟨_, rfl⟩; rw [<- hw2]; have hb2 : Below w1.heap.size w1 w2 := by rw [hw2]; exact (Below.refl _ _).alloc (Nat.le_refl _) _
 have X2 : Hid (Blk w2 w1.heap.size 100 #[.int .i64 d0, .int .i64 d0]) := by show Blk _ _ _ _; rw [hw2]; exact Blk.new _ _ _
 have T2 := lh (T1.out.below hb2); have R2 := lh (R1.out.below hb2); have HB2 := lh (HB1.out.trans (hb2.mono HB1.out.size)); have hgx : Hid (g + 2 <= w1.heap.size) := by have := lt_of_block R1.out; show _ <= _; omega
 obtain ⟨gx, hgx2⟩ : ∃ g, g = w1.heap.size := ⟨_, rfl⟩; rw [<- hgx2] at X2 hgx ⊢; clear hw2 hgx2 hb2 T1 R1 HB1 t2; have t2 := (T2.out.cell 2).trans (D.out 0 (by omega)); have t3 := (T2.out.cell 3).trans (D.out 1 (by omega)); have t4 := (T2.out.cell 4).trans (D.out 2 (by omega)); have t5 := (T2.out.cell 5).trans (D.out 3 (by omega)); have t6 := (T2.out.cell 6).trans (D.out 4 (by omega)); have t7 := (T2.out.cell 7).trans (D.out 5 (by omega)); have t8 := (T2.out.cell 8).trans (D.out 6 (by omega)); have t9 := (T2.out.cell 9).trans (D.out 7 (by omega)); simp only [List.getD_cons_zero, List.getD_cons_succ] at t2 t3 t4 t5 t6 t7 t8 t9; go_wp2; clear t2 t3 t4 t5 t6 t7 t8 t9
 go_loopw [5, 15] (fun _ k wr => ∃ j : Nat, j <= 8 /\ k = .int .i64 j /\ Hid (Blk wr gx 100 #[.int .i64 (lowTo l j), .int .i64 (highTo l j)]) /\ Hid (Blk wr (g + 1) 100 #[.int .i64 0, .int .i64 0]) /\ Hid (Below w.heap.size w wr)) (fun _ k _ => 8 - (intOf k).toNat)
 case atStart =>
  refine ⟨0, Nat.zero_le _, rfl, ?_, R2, HB2⟩; have e1 : lowTo l 0 = d0 := by unfold lowTo; exact H0.out
  have e2 : highTo l 0 = d0 := by unfold highTo; exact H0.out
  rw [e1, e2]; exact X2
 case round =>
  obtain ⟨j, hj, rfl, hx, hr, hb⟩ := hrel
  by_cases hlt : j < 8
  ·have hlt' : (j : Int) < 8 := by omega
   have hi := fun W => dir_index d0 d1 d2 d3 d4 d5 d6 d7 hlt W
   have h0 := hx.out.cell 0; have h1 := hx.out.cell 1; have f0 := hx.out.frozen 0; have f1 := hx.out.frozen 1; simp only [List.getElem?_toArray, List.getElem?_cons_zero, List.getElem?_cons_succ] at h0 h1; have e1 := lh (lowTo_succ (l := l) (j := j) (by rw [HLen.out]; exact hlt)); have e2 := lh (highTo_succ (l := l) (j := j) (by rw [HLen.out]; exact hlt)); rw [<- HE.out] at hi; obtain ⟨x, hxx⟩ : ∃ x, x = l.getD j 0 := ⟨_, rfl⟩; obtain ⟨L, hL⟩ : ∃ x, x = lowTo l j := ⟨_, rfl⟩; obtain ⟨H, hH⟩ : ∃ x, x = highTo l j := ⟨_, rfl⟩; rw [<- hxx] at hi e1 e2; rw [<- hL] at h0 e1 hx; rw [<- hH] at h1 e2 hx; obtain ⟨L2, hL2⟩ : ∃ y, y = min L x := ⟨_, rfl⟩; obtain ⟨H2, hH2⟩ : ∃ y, y = max H x := ⟨_, rfl⟩; rw [<- hL2] at e1; rw [<- hH2] at e2; have r1 : ∀ ts t W, (Builtin.min_ ts t #[.int .i64 L, .int .i64 x]).run Tryz.prog W = .ok (.int .i64 L2) W := fun ts t W => by rw [hL2]; exact run_min2' _ _ _ _ _ _
   have r2 : ∀ ts t W, (Builtin.max_ ts t #[.int .i64 H, .int .i64 x]).run Tryz.prog W = .ok (.int .i64 H2) W := fun ts t W => by rw [hH2]; exact run_max2' _ _ _ _ _ _
   clear hxx hL hH hL2 hH2; go_wp2; go_roundw
   case rel =>
    refine ⟨j + 1, by omega, by go_num, ?_, ?_, ?_⟩
    ·rw [e1.out, e2.out]; exact (hx.out.set_ 0 (.int .i64 L2)).set_ 1 (.int .i64 H2)
    ·exact (hr.out.far (p := ⟨gx, 0, none⟩) (by have := hgx.out; show g + 1 ≠ gx; omega) _).far (p := ⟨gx, 1, none⟩) (by have := hgx.out; show g + 1 ≠ gx; omega) _
    ·exact (hb.out.setCell (p := ⟨gx, 0, none⟩) (by have := hgx.out; have := HG.out; show w.heap.size <= gx; omega) _).setCell (p := ⟨gx, 1, none⟩) (by have := hgx.out; have := HG.out; show w.heap.size <= gx; omega) _
   case measure => simp [intOf]; omega
  ·obtain rfl : j = 8 := by omega
   have h0 := hx.out.cell 0; have h1 := hx.out.cell 1; simp only [List.getElem?_toArray, List.getElem?_cons_zero, List.getElem?_cons_succ] at h0 h1
   go_wp2_with (refine wpList_store_row rfl 100 _ _ rfl (g + 1) #[.int .i64 (lowTo l 8), .int .i64 (highTo l 8)] rfl rfl 100 _ hr.out (by kernel_rfl) rfl (by simp [Value.oneCell']) ?_)
   have hlv := (hr.out.setRow #[.int .i64 (lowTo l 8), .int .i64 (highTo l 8)]).lv Tryz.prog (T := 100) Tryz.underlying100 rfl (by kernel_rfl); refine bodyPost_ret (v := .agg #[.int .i64 (lowTo l 8), .int .i64 (highTo l 8)]) (by simp [results, Tryz.results186, asAddr]; exact hlv) rfl ?_; exact ⟨rfl, hb.out.setRow' (by have := HG.out; omega) _⟩
end Go.Proofs.YtmafmebcgmegeaaGreatDoor
