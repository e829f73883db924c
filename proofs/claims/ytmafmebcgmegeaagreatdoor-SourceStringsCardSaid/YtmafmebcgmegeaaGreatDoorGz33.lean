/- Part. -/
import Derived.Test.YtmafmebcgmegeaaGreatDoorGz1
import Derived.Deep.RegionHeld3
import Derived.Deep.MidRow
import Derived.Great.Walk
import Derived.Test.YtmafmebcgmegeaaGreatDoorGz29
import Derived.Test.YtmafmebcgmegeaaGreatDoorGz22
import Derived.Test.YtmafmebcgmegeaaGreatDoorGz32
namespace Go.Proofs.YtmafmebcgmegeaaGreatDoor
open Go.RowKit Go.Sort
structure PMem (w : World) (b : Nat) (cs : Array Value) (va vq vs : Value) (sh sq : List Int) (st : Bell.Sets) (P : List (Int × Value)) : Prop where
 box : Blk w b 42 cs
 shr : OwnI w b va sh
 sqr : OwnI w b vq sq
 row : w.ownsRow b 172 2 vs st.length (stCells P)
 len : P.length = st.length
 each : ∀ j, j < st.length -> (P.getD j (0, undef)).1 = Bell.ePow st j /\ OwnI w b (P.getD j (0, undef)).2 ((st.getD j (0, [])).2)
theorem PMem.keep {w w' : World} {b : Nat} {cs : Array Value} {va vq vs : Value} {sh sq : List Int} {st : Bell.Sets} {P : List (Int × Value)} (h : PMem w b cs va vq vs sh sq st P) (hb : Below w.heap.size w w') : PMem w' b cs va vq vs sh sq st P :=
 ⟨h.box.below hb, h.shr.below hb, h.sqr.below hb, row_ext h.row hb, h.len, fun j hj => ⟨(h.each j hj).1, (h.each j hj).2.below hb⟩⟩
theorem own_cell {w : World} {b : Nat} {cs : Array Value} {v : Value} {zs : List Int} {base : Nat} (h : OwnI w base v zs) (hb : Blk w b 42 cs) (i : Nat) (u : Value) : OwnI (w.setCell ⟨b, i, none⟩ u) base v zs := row_cell h hb (by decide) i u
theorem PMem.put {w : World} {b : Nat} {cs : Array Value} {va vq vs : Value} {sh sq : List Int} {st : Bell.Sets} {P : List (Int × Value)} (h : PMem w b cs va vq vs sh sq st P) (i : Nat) (u : Value) : PMem (w.setCell ⟨b, i, none⟩ u) b (cs.setIfInBounds i u) va vq vs sh sq st P :=
 ⟨h.box.set_ i u, own_cell h.shr h.box i u, own_cell h.sqr h.box i u, row_cell h.row h.box (by decide) i u, h.len, fun j hj => ⟨(h.each j hj).1, own_cell (h.each j hj).2 h.box i u⟩⟩
def PTy (w : World) (b : Nat) (nm : ByteArray) (sh : List Int) (T : Bell.Ty) : Prop :=
 T.direct.length = 8 /\ ∃ va vq vs P, PMem w b (tyW nm va T vq vs) va vq vs sh T.squares T.sets P
theorem PTy.keep {w w' : World} {b : Nat} {nm : ByteArray} {sh : List Int} {T : Bell.Ty} (h : PTy w b nm sh T) (hb : Below w.heap.size w w') : PTy w' b nm sh T := by
 obtain ⟨hd, va, vq, vs, P, h⟩ := h; exact ⟨hd, va, vq, vs, P, h.keep hb⟩
set_option maxHeartbeats 1000000 in
set_option maxRecDepth 100000 in
theorem set_1 (w : World) (b : Nat) (nm : ByteArray) (sh : List Int) (T : Bell.Ty) (W : Value) (A : Option Addr) (n : Nat) (zs : List Int) (h : PTy w b nm sh T) (hz : OwnI w b (.slice A n n) zs) :
  Calls Tryz.prog 196 #[.pointer (some ⟨b, 0, none⟩), W, .slice A n n] w fun e w' => e = .returned (.tuple #[]) /\ PTy w' b nm zs T /\ Below b w w' := by
 obtain ⟨hd, va, vq, vs, P, hm⟩ := h; have H := lh hm; have HZ := lh hz; have HD := lh hd; have c1 := hm.box.cell 1; have f1 := hm.box.frozen 1; simp only [tyW, List.getElem?_toArray, List.getElem?_cons_zero, List.getElem?_cons_succ] at c1; clear hm hz hd
 go_enter Tryz.func196, Tryz.ntmps196
 go_wp2
 refine Great.bodyPost_end0 rfl rfl ?_; exact ⟨rfl, ⟨HD.out, .slice A n n, vq, vs, P, { H.out.put 1 (.slice A n n) with shr := own_cell HZ.out H.out.box 1 _ }⟩, (Below.refl _ _).setCell (p := ⟨b, 1, none⟩) (Nat.le_refl _) _⟩
set_option maxHeartbeats 1000000 in
set_option maxRecDepth 100000 in
theorem set_3 (w : World) (b : Nat) (nm : ByteArray) (sh : List Int) (T : Bell.Ty) (W : Value) (A : Option Addr) (n : Nat) (zs : List Int) (h : PTy w b nm sh T) (hz : OwnI w b (.slice A n n) zs) :
  Calls Tryz.prog 198 #[.pointer (some ⟨b, 0, none⟩), W, .slice A n n] w fun e w' => e = .returned (.tuple #[]) /\ PTy w' b nm sh { T with squares := zs } /\ Below b w w' := by
 obtain ⟨hd, va, vq, vs, P, hm⟩ := h; have H := lh hm; have HZ := lh hz; have HD := lh hd; have c11 := hm.box.cell 11; have f11 := hm.box.frozen 11; simp only [tyW, List.getElem?_toArray, List.getElem?_cons_zero, List.getElem?_cons_succ] at c11; clear hm hz hd
 go_enter Tryz.func198, Tryz.ntmps198
 go_wp2
 refine Great.bodyPost_end0 rfl rfl ?_; exact ⟨rfl, ⟨HD.out, va, .slice A n n, vs, P, { H.out.put 11 (.slice A n n) with sqr := own_cell HZ.out H.out.box 11 _ }⟩, (Below.refl _ _).setCell (p := ⟨b, 11, none⟩) (Nat.le_refl _) _⟩
theorem own_blk {w : World} {base n : Nat} {A : Option Addr} {zs : List Int} (h : OwnI w base (.slice A n n) zs) (hn : 0 < n) : ∃ g, A = some ⟨g, 0, none⟩ /\ Blk w g 3 (zs.map (Value.int .i64)).toArray := by
 have hl : zs.length = n := by have := h.at_.1; exact this
 rcases h.2 with ⟨h1, _⟩ | ⟨g, cap, cur, h1, hb, hg, hnc, hm, hs, ht⟩
 ·injection h1 with _ h2 _; omega
 ·injection h1 with h2 h3 h4
  refine ⟨g, h2, ?_⟩
  have e : cur = (zs.map (Value.int .i64)).toArray := by
   apply Array.ext'
   rw [<- ht, List.take_of_length_le]
   simp
   omega
  rw [<- e]; exact hg
set_option maxHeartbeats 1000000 in
set_option maxRecDepth 100000 in
theorem set_2 (w : World) (b : Nat) (nm : ByteArray) (sh : List Int) (T : Bell.Ty) (W : Value) (A : Option Addr) (zs : List Int) (h8 : zs.length = 8) (h : PTy w b nm sh T) (hz : OwnI w b (.slice A 8 8) zs) :
  Calls Tryz.prog 197 #[.pointer (some ⟨b, 0, none⟩), W, .slice A 8 8] w fun e w' => e = .returned (.tuple #[]) /\ PTy w' b nm sh { T with direct := zs } /\ Below b w w' := by
 obtain ⟨hd, va, vq, vs, P, hm⟩ := h; obtain ⟨g, rfl, hB⟩ := own_blk hz (by omega)
 obtain ⟨d0, d1, d2, d3, d4, d5, d6, d7, hzs⟩ : ∃ d0 d1 d2 d3 d4 d5 d6 d7, zs = [d0, d1, d2, d3, d4, d5, d6, d7] := by
  match zs, h8 with
  | [d0, d1, d2, d3, d4, d5, d6, d7], _ => exact ⟨d0, d1, d2, d3, d4, d5, d6, d7, rfl⟩
 subst hzs; have H := lh hm; have HB := lh hB
 have HT : Hid (w.there b 2 8) := fun j hj => by
  rw [hm.box.cell (2 + j), hm.box.frozen (2 + j)]; refine ⟨?_, rfl⟩; rw [Array.getElem?_eq_getElem (by simp [tyW]; omega)]
  rfl
 have IT : Hid ((Tryz.prog.info? 23).map (·.size) = some 8) := by show _ = _; kernel_rfl
 have har : ∀ W, (Instr.arrayAt 23 (.slice (some ⟨g, 0, none⟩) 8 8)).run Tryz.prog W = .ok (.pointer (some ⟨g, 0, none⟩)) W := fun W => by kernel_rfl
 clear hm hB hd
 go_enter Tryz.func197, Tryz.ntmps197
 go_wp2_with (first | (refine wpList_load_row rfl 23 _ rfl g rfl 3 #[.int .i64 d0, .int .i64 d1, .int .i64 d2, .int .i64 d3, .int .i64 d4, .int .i64 d5, .int .i64 d6, .int .i64 d7] (0, 0) _ HB.out Tryz.underlying23 rfl IT.out ?_) | (refine wpList_store_mid rfl 23 _ _ rfl b 2 #[.int .i64 d0, .int .i64 d1, .int .i64 d2, .int .i64 d3, .int .i64 d4, .int .i64 d5, .int .i64 d6, .int .i64 d7] rfl rfl HT.out IT.out (by simp [Value.oneCell']) ?_))
 refine Great.bodyPost_end0 rfl rfl ?_; simp only [World.setCells]; refine ⟨trivial, ⟨rfl, va, vq, vs, P, ?_⟩, ?_⟩
 ·have h := (((((((H.out.put 2 (.int .i64 d0)).put 3 (.int .i64 d1)).put 4 (.int .i64 d2)).put 5 (.int .i64 d3)).put 6 (.int .i64 d4)).put 7 (.int .i64 d5)).put 8 (.int .i64 d6)).put 9 (.int .i64 d7)
  have e : ((((((((tyW nm va T vq vs).setIfInBounds 2 (.int .i64 d0)).setIfInBounds 3 (.int .i64 d1)).setIfInBounds 4 (.int .i64 d2)).setIfInBounds 5 (.int .i64 d3)).setIfInBounds 6 (.int .i64 d4)).setIfInBounds 7 (.int .i64 d5)).setIfInBounds 8 (.int .i64 d6)).setIfInBounds 9 (.int .i64 d7) = tyW nm va { T with direct := [d0, d1, d2, d3, d4, d5, d6, d7] } vq vs := by
   simp [tyW]
  rw [e] at h; exact h
 ·exact ((((((((Below.refl _ _).setCell (p := ⟨b, 2, none⟩) (Nat.le_refl _) _).setCell (p := ⟨b, 3, none⟩) (Nat.le_refl _) _).setCell (p := ⟨b, 4, none⟩) (Nat.le_refl _) _).setCell (p := ⟨b, 5, none⟩) (Nat.le_refl _) _).setCell (p := ⟨b, 6, none⟩) (Nat.le_refl _) _).setCell (p := ⟨b, 7, none⟩) (Nat.le_refl _) _).setCell (p := ⟨b, 8, none⟩) (Nat.le_refl _) _).setCell (p := ⟨b, 9, none⟩) (Nat.le_refl _) _
set_option maxHeartbeats 1000000 in
set_option maxRecDepth 100000 in
theorem set_0 (w : World) (b g : Nat) (nm x : ByteArray) (sh : List Int) (T : Bell.Ty) (A : Option Addr) (v : Int) (h : PTy w b nm sh T) (hs : StrsAt w (some ⟨g, 0, none⟩) 1 [x]) (hz : OwnI w b (.slice A 1 1) [v]) (hgw : g ≠ b) :
  Calls Tryz.prog 195 #[.pointer (some ⟨b, 0, none⟩), .slice (some ⟨g, 0, none⟩) 1 1, .slice A 1 1] w fun e w' => e = .returned (.tuple #[]) /\ PTy w' b x sh { T with side := v } /\ Below b w w' := by
 obtain ⟨hd, va, vq, vs, P, hm⟩ := h; have H := lh hm; have HD := lh hd; obtain ⟨g', o', e, hg, hx⟩ := hs.2 (by omega); have e := Option.some.inj e
 injection e with e1 e2 e3
 subst e1 e2; have hx0 := hx 0 x rfl; rw [Nat.add_zero] at hx0; obtain ⟨gi, oi, rfl, hi⟩ := hz.at_.2 (by omega); have hi0 := hi 0 (by omega); simp only [List.getD_cons_zero, Nat.add_zero] at hi0; have c0 := hm.box.cell 0; have f0 := hm.box.frozen 0; have c10 := hm.box.cell 10; have f10 := hm.box.frozen 10
 have hgi : gi ≠ b := fun e => by
  subst e; rcases hz.form with ⟨h1, _⟩ | ⟨g9, c9, h1, _, _, _, _, _⟩
  ·cases h1
  ·have h2 := hm.box; rcases hz.2 with ⟨h3, _⟩ | ⟨g8, cap, cur, h3, _, h4, _⟩
   ·cases h3
   ·injection h3 with h5
    injection h5 with h5
    injection h5 with h6 _ _
    rw [<- h6] at h4; have := (show w.heap[gi]? = _ from h2).symm.trans h4
    injection this with this
    injection this with _ h7 _
    exact absurd h7 (by decide)
 simp only [tyW, List.getElem?_toArray, List.getElem?_cons_zero, List.getElem?_cons_succ] at c0 c10
 have KS : ∀ (W : World) (i : Nat) (u : Value) (p : Addr) (y : Value), b ≠ p.block -> W.cell? p = some y -> (W.setCell ⟨b, i, none⟩ u).cell? p = some y := fun W i u p y hne hc => by
  rw [World.cell?_setCell_other _ _ _ _ (fun e => hne (by rw [<- e]))]; exact hc
 have k1 := fun u => KS w 0 u ⟨g, 0, none⟩ _ (Ne.symm hgw) hx0
 have k2 := fun u => KS w 0 u ⟨gi, oi, none⟩ _ (Ne.symm hgi) hi0
 have k3 := fun u v => KS (w.setCell ⟨b, 0, none⟩ u) 10 v ⟨g, 0, none⟩ _ (Ne.symm hgw) (k1 u)
 have k4 := fun u v => KS (w.setCell ⟨b, 0, none⟩ u) 10 v ⟨gi, oi, none⟩ _ (Ne.symm hgi) (k2 u)
 clear KS hm hd hs hz hx hi e3 hg
 go_enter Tryz.func195, Tryz.ntmps195
 go_region_held3 (fun W => W.cell? ⟨g, 0, none⟩ = some (.string x) /\ W.cell? ⟨gi, oi, none⟩ = some (.int .i64 v)) (first | exact ⟨hx0, hi0⟩ | exact ⟨k1 _, k2 _⟩ | exact ⟨k3 _ _, k4 _ _⟩) (fail)
 refine Great.bodyPost_end0 rfl rfl ?_; have h := (H.out.put 0 (.string x)).put 10 (.int .i64 v); have e : ((tyW nm va T vq vs).setIfInBounds 0 (.string x)).setIfInBounds 10 (.int .i64 v) = tyW x va { T with side := v } vq vs := by simp [tyW]
 rw [e] at h; have h2 : PTy ((w.setCell ⟨b, 0, none⟩ (.string x)).setCell ⟨b, 10, none⟩ (.int .i64 v)) b x sh { T with side := v } := ⟨HD.out, va, vq, vs, P, h⟩; exact ⟨rfl, h2.keep ((Below.refl _ _).drew), (((Below.refl _ _).setCell (p := ⟨b, 0, none⟩) (Nat.le_refl _) _).setCell (p := ⟨b, 10, none⟩) (Nat.le_refl _) _).drew⟩
set_option maxHeartbeats 1000000 in
set_option maxRecDepth 100000 in
theorem clone_ints (w : World) (g o m : Nat) (zs : List Int) (hm : m <= 100000) (h : IntsAt w (some ⟨g, o, none⟩) m zs) :
  Calls Tryz.prog 200 #[.slice (some ⟨g, o, none⟩) m m] w fun e w' => ∃ A c, e = .returned (.slice A m c) /\ OwnI w' w.heap.size (.slice A m c) zs /\ Below w.heap.size w w' := by
 obtain ⟨i0, hi, hz0, hz1, hz2⟩ := info_parts infoInt; have H := lh h; have hnil : ∀ W, (binOp .eql 22 (.slice (some ⟨g, o, none⟩) m m) (.slice none 0 0)).run Tryz.prog W = .ok (.bool false) W := fun W => by kernel_rfl
 clear h; rcases Nat.eq_zero_or_pos m with rfl | hp
 ·have hz : Hid (zs = []) := List.eq_nil_of_length_eq_zero H.out.1; have hno := fun W : World => app_noneW (P := Tryz.prog) W 22 22 3 i0 hi Tryz.underlying22 ⟨w.heap.size, 0, none⟩ (some ⟨g, o, none⟩) 0
  go_enter Tryz.func200, Tryz.ntmps200
  go_wp2
  go_ret
  refine ⟨_, _, rfl, ?_, (Below.refl _ _).alloc (Nat.le_refl _) _⟩; rw [hz.out]; exact ⟨rfl, .inr ⟨w.heap.size, 0, #[], rfl, Nat.le_refl _, Blk.new _ _ _, Nat.le_refl _, by simp [maxLen], rfl, rfl⟩⟩
 ·go_enter Tryz.func200, Tryz.ntmps200
  go_wp2_with (at_builtin; go_loud (refine wpList_append_own _ rfl _ _ 22 rfl w.heap.size 3 i0 (.int .i64 0) 1 8 Tryz.underlying22 hi hz0 hz1 hz2 rfl (by decide) (.slice (some ⟨w.heap.size, 0, none⟩) 0 0) 0 [] rfl ⟨rfl, .inr ⟨w.heap.size, 0, #[], rfl, Nat.le_refl _, Blk.new _ _ _, Nat.le_refl _, by simp [maxLen], rfl, rfl⟩⟩ ⟨g, o, none⟩ m m (zs.map (Value.int .i64)) rfl (by rw [List.length_map, H.out.1]; omega) (fun j u hu => by
   rw [List.getElem?_map] at hu
   have hj : j < zs.length := by
    rcases Nat.lt_or_ge j zs.length with h | h
    ·exact h
    ·rw [List.getElem?_eq_none h] at hu; cases hu
   rw [List.getElem?_eq_getElem hj] at hu; obtain ⟨b', o', e, hc⟩ := H.out.2 hp; have e := Option.some.inj e
   injection e with e1 e2 e3
   subst e1 e2; have h1 := hc j (by rw [<- H.out.1]; exact hj); have h2 := Option.some.inj hu; rw [<- h2]
   show (w.alloc _).cell? ((⟨g, o, none⟩ : Addr).add j) = _
   rw [addAddr, World.cell?_alloc_old _ _ _ (Nat.ne_of_lt (World.block_lt_of_cell? _ _ h1)), h1]
   simp [List.getD_eq_getElem?_getD, List.getElem?_eq_getElem hj]) (by simp [Value.oneCell']) (by unfold maxLen; omega) (by omega) (by simp) ?_); intro v' w1 hown hgrow _)
  go_wp2
  go_ret
  have hO : OwnI w1 w.heap.size v' zs := by
   unfold OwnI; rw [H.out.1]
   simpa using hown
  obtain ⟨g', c', rfl⟩ : ∃ g c, v' = .slice (some ⟨g, 0, none⟩) m c := by
   rcases hO.form with ⟨_, h0⟩ | ⟨g', c', h1, _⟩
   ·have := H.out.1; rw [h0] at this; simp at this; omega
   ·exact ⟨g', c', by rw [h1, H.out.1]⟩
  exact ⟨_, _, rfl, hO, Below.grown ((Below.refl _ _).alloc (Nat.le_refl _) _) hgrow (by simp) (fun j hj => by cases hj; exact Nat.le_refl _)⟩
set_option maxHeartbeats 4000000 in
set_option maxRecDepth 100000 in
theorem set_4 (w : World) (b : Nat) (nm : ByteArray) (sh : List Int) (T : Bell.Ty) (W : Value) (A : Option Addr) (q : Nat) (zs : List Int) (hq : q + 1 <= 4096) (hl : zs.length = q + 1) (hgn : T.sets.length <= 100000) (h : PTy w b nm sh T) (hz : OwnI w b (.slice A (q + 1) (q + 1)) zs) :
  Calls Tryz.prog 199 #[.pointer (some ⟨b, 0, none⟩), W, .slice A (q + 1) (q + 1)] w fun e w' => e = .returned (.tuple #[]) /\ PTy w' b nm sh { T with sets := T.sets ++ [(zs.headD 0, zs.tail)] } /\ Below b w w' := by
 obtain ⟨hd, va, vq, vs, P, hm⟩ := h; obtain ⟨g, rfl, hB⟩ := own_blk hz (by omega); have hbl : b < w.heap.size := lt_of_block hm.box; have H := lh hm; have HD := lh hd; have HBL : Hid (b < w.heap.size) := hbl
 obtain ⟨p, ys, rfl⟩ : ∃ p ys, zs = p :: ys := by
  match zs, hl with
  | p :: ys, _ => exact ⟨p, ys, rfl⟩
 have hys : ys.length = q := by simpa using hl
 have HL0 : Hid (∀ W, Ext w W -> W.cell? ⟨g, 0, none⟩ = some (.int .i64 p)) := fun W hE => ((hB.below hE).cell 0)
 have HTL : Hid (IntsAt w (some ⟨g, nxO 0 q, none⟩) q ys) := by
  refine ⟨hys, fun hp => ⟨g, nxO 0 q, rfl, fun i hi => ?_⟩⟩; rw [show nxO 0 q = 1 from if_neg (by omega), hB.cell (1 + i), Nat.add_comm]
  simp [List.getD_eq_getElem?_getD, List.getElem?_eq_getElem (show i < ys.length by omega)]
 have HC12 : Hid (∀ W, Ext w W -> W.cell? ⟨b, 12, none⟩ = some vs) := fun W hE => (hm.box.below hE).cell 12
 clear hm hB hd hz
 go_enter Tryz.func199, Tryz.ntmps199
 refine wp_region_growS 13 0 (by kernel_rfl) (by kernel_rfl) (by kernel_rfl) [GR.eq (.pointer (some ⟨b, 0, none⟩)), GR.eq (.pointer (some ⟨b, 0, none⟩)), GR.eq (.pointer (some ⟨b, 0, none⟩)), GR.eq (.pointer (some ⟨b, 12, none⟩)), GR.eq (vs), GR.eq (.slice (some ⟨g, 0, none⟩) (q + 1) (q + 1)), GR.eq (.pointer (some ⟨g, 0, none⟩)), GR.eq (.int .i64 p), GR.eq (.slice (some ⟨g, 0, none⟩) (q + 1) (q + 1)), GR.eq (.slice (some ⟨g, nxO 0 q, none⟩) q q), GR.ints w.heap.size ys, GR.set w.heap.size p ys, GR.one w.heap.size p ys] 22 rfl (by kernel_rfl) (fun c a d v w h => by cases d <;> exact h) ?_ ?_ ?_
 ·intro oq a W hoq hE hd ho; obtain rfl := Option.some.inj hoq.symm; have e0 : a.tmps[0]?.getD undef = .pointer (some ⟨b, 0, none⟩) := ho 0 (by kernel_rfl); refine ⟨.pointer (some ⟨b, 0, none⟩), fun w' => ?_, rfl⟩
  go_simp
 ·refine ⟨?_, ?_, ?_, ?_, ?_, ?_, ?_, ?_, ?_, ?_, ?_, ?_, ?_, trivial⟩
  ·intro a W hE hd ho; have e0 : a.tmps[0]?.getD undef = .pointer (some ⟨b, 0, none⟩) := ho 0 (by kernel_rfl); exact gs_same (v := .pointer (some ⟨b, 0, none⟩)) (by go_simp) rfl
  ·intro a W hE hd ho; have e0 : a.tmps[0]?.getD undef = .pointer (some ⟨b, 0, none⟩) := ho 0 (by kernel_rfl); exact gs_same (v := .pointer (some ⟨b, 0, none⟩)) (by go_simp) rfl
  ·intro a W hE hd ho; have e7 : a.tmps[7]?.getD undef = .pointer (some ⟨b, 0, none⟩) := hd 1 7 (by kernel_rfl) (by kernel_rfl); exact gs_same (v := .pointer (some ⟨b, 0, none⟩)) (by go_simp) rfl
  ·intro a W hE hd ho; have e8 : a.tmps[8]?.getD undef = .pointer (some ⟨b, 0, none⟩) := hd 2 8 (by kernel_rfl) (by kernel_rfl); exact gs_same (v := .pointer (some ⟨b, 12, none⟩)) (by go_simp) rfl
  ·intro a W hE hd ho; have e9 : a.tmps[9]?.getD undef = .pointer (some ⟨b, 12, none⟩) := hd 3 9 (by kernel_rfl) (by kernel_rfl); have c12 := HC12.out W hE; exact gs_same (v := vs) (by go_simp) rfl
  ·intro a W hE hd ho; have e2 : a.tmps[2]?.getD undef = .slice (some ⟨g, 0, none⟩) (q + 1) (q + 1) := ho 2 (by kernel_rfl); exact gs_same (v := .slice (some ⟨g, 0, none⟩) (q + 1) (q + 1)) (by go_simp) rfl
  ·intro a W hE hd ho; have e11 : a.tmps[11]?.getD undef = .slice (some ⟨g, 0, none⟩) (q + 1) (q + 1) := hd 5 11 (by kernel_rfl) (by kernel_rfl); exact gs_same (v := .pointer (some ⟨g, 0, none⟩)) (by go_simp) rfl
  ·intro a W hE hd ho; have e12 : a.tmps[12]?.getD undef = .pointer (some ⟨g, 0, none⟩) := hd 6 12 (by kernel_rfl) (by kernel_rfl); have cp := HL0.out W hE; exact gs_same (v := .int .i64 p) (by go_simp) rfl
  ·intro a W hE hd ho; have e2 : a.tmps[2]?.getD undef = .slice (some ⟨g, 0, none⟩) (q + 1) (q + 1) := ho 2 (by kernel_rfl); exact gs_same (v := .slice (some ⟨g, 0, none⟩) (q + 1) (q + 1)) (by go_simp) rfl
  ·intro a W hE hd ho; have e14 : a.tmps[14]?.getD undef = .slice (some ⟨g, 0, none⟩) (q + 1) (q + 1) := hd 8 14 (by kernel_rfl) (by kernel_rfl); refine gs_same (v := .slice (some ⟨g, nxO 0 q, none⟩) q q) ?_ rfl; rcases Nat.eq_zero_or_pos q with h0 | h0
   ·subst h0; have e0 : nxO 0 0 = 0 := rfl; rw [e0]
    go_simp
   ·have hne : ¬ ((q : Int) + 1 = 1) := by omega
    have e0 : nxO 0 q = 1 := if_neg (by omega); have hq0 : ¬ q = 0 := by omega
    have h1q : (1 : Int) <= (q : Int) + 1 := by omega
    rw [e0]
    go_simp
  ·intro a W hE hd ho; have e15 : a.tmps[15]?.getD undef = .slice (some ⟨g, nxO 0 q, none⟩) q q := hd 9 15 (by kernel_rfl) (by kernel_rfl); refine gs_call (f := 200) (args := #[.slice (some ⟨g, nxO 0 q, none⟩) q q]) (by go_simp) ?_; refine (clone_ints W g (nxO 0 q) q ys (by omega) (HTL.out.keep hE)).mono ?_; rintro e w' ⟨A', c', rfl, h1, h2⟩; exact ⟨_, rfl, h2, h1.mono hE.size⟩
  ·intro a W hE hd ho; have e13 : a.tmps[13]?.getD undef = .int .i64 p := hd 7 13 (by kernel_rfl) (by kernel_rfl); have o1 : OwnI W w.heap.size (a.tmps[16]?.getD undef) ys := hd 10 16 (by kernel_rfl) (by kernel_rfl); obtain ⟨vE, hvE⟩ : ∃ v, v = a.tmps[16]?.getD undef := ⟨_, rfl⟩; rw [<- hvE] at o1; have e16 := hvE.symm; clear hvE
   obtain ⟨A5, n5, c5, rfl⟩ : ∃ A n c, vE = .slice A n c := by
    rcases o1.form with ⟨h1, _⟩ | ⟨g9, c9, h1, _⟩
    ·exact ⟨_, _, _, h1⟩
    ·exact ⟨_, _, _, h1⟩
   exact gs_same (v := .agg #[.int .i64 p, .slice A5 n5 c5]) (by go_simp) ⟨A5, n5, c5, rfl, o1⟩
  ·intro a W hE hd ho; obtain ⟨A5, n5, c5, e17, o1⟩ : ∃ A m c, a.tmps[17]?.getD undef = .agg #[.int .i64 p, .slice A m c] /\ OwnI W w.heap.size (.slice A m c) ys := hd 11 17 (by kernel_rfl) (by kernel_rfl); refine gs_val (v := .slice (some ⟨W.heap.size, 0, none⟩) 1 1) (W' := W.alloc (.cells #[.int .i64 p, .slice A5 n5 c5] 172)) (by go_simp) ((Below.refl _ _).alloc (Nat.le_refl _) _) ⟨W.heap.size, A5, n5, c5, rfl, Blk.new _ _ _, o1.alloc _⟩
 intro vv w5 hE hR; have y0 : vv 0 = .pointer (some ⟨b, 0, none⟩) := hR 0 (by omega); have y1 : vv 1 = .pointer (some ⟨b, 0, none⟩) := hR 1 (by omega); have y2 : vv 2 = .pointer (some ⟨b, 0, none⟩) := hR 2 (by omega); have y3 : vv 3 = .pointer (some ⟨b, 12, none⟩) := hR 3 (by omega); have y4 : vv 4 = vs := hR 4 (by omega); have y5 : vv 5 = .slice (some ⟨g, 0, none⟩) (q + 1) (q + 1) := hR 5 (by omega); have y6 : vv 6 = .pointer (some ⟨g, 0, none⟩) := hR 6 (by omega); have y7 : vv 7 = .int .i64 p := hR 7 (by omega); have y8 : vv 8 = .slice (some ⟨g, 0, none⟩) (q + 1) (q + 1) := hR 8 (by omega); have y9 : vv 9 = .slice (some ⟨g, nxO 0 q, none⟩) q q := hR 9 (by omega); obtain ⟨x10, y10⟩ : ∃ v, vv 10 = v := ⟨_, rfl⟩; obtain ⟨x11, y11⟩ : ∃ v, vv 11 = v := ⟨_, rfl⟩; obtain ⟨gN, A5, n5, c5, y12, BN, o5⟩ : ∃ g A m c, vv 12 = .slice (some ⟨g, 0, none⟩) 1 1 /\ Blk w5 g 172 #[.int .i64 p, .slice A m c] /\ OwnI w5 w.heap.size (.slice A m c) ys := hR 12 (by omega)
 simp only [List.range, List.range.loop, List.foldl_cons, List.foldl_nil, y0, y1, y2, y3, y4, y5, y6, y7, y8, y9, y10, y11, y12]; simp only [dstAt, List.getElem?_toArray, List.getElem?_cons_zero, List.getElem?_cons_succ, Option.bind_some, Act.put, List.setIfInBounds_toArray, List.set_cons_zero, List.set_cons_succ, List.drop_succ_cons, List.drop_zero]; clear y0 y1 y2 y3 y4 y5 y6 y7 y8 y9 y10 y11 y12 hR; have HE5 := lh hE; have M5 := lh (H.out.keep hE); have HO5 : Hid (OwnI w5 b (.slice A5 n5 c5) ys) := o5.mono (Nat.le_of_lt HBL.out)
 have HBN : Hid (∀ (j : Nat) (u : Value), ([.int .i64 p, .slice A5 n5 c5] : List Value)[j]? = some u -> w5.cell? ((⟨gN, 0, none⟩ : Addr).add j) = some u) := fun j u hu => by
  rw [addAddr, Nat.zero_add, BN.cell j]
  simpa using hu
 have hs5 : b <= w5.heap.size := Nat.le_trans (Nat.le_of_lt HBL.out) hE.size; obtain ⟨iS, hiS, hzS, hsS, hbS⟩ := info_parts infoSet; clear hE o5 BN; refine wpList_append_own _ rfl _ _ 40 rfl b 172 iS (.agg #[.int .i64 0, .slice none 0 0]) 2 32 Tryz.underlying40 hiS hzS hsS hbS rfl (by decide) vs T.sets.length (stCells P) rfl M5.out.row ⟨gN, 0, none⟩ 1 1 [.int .i64 p, .slice A5 n5 c5] rfl rfl HBN.out (by simp [Value.oneCell']) (by unfold maxLen; omega) (by omega) hs5 ?_; intro v' w6 hown hgrow _; obtain ⟨g6, c6, rfl⟩ := own_shapeG hown; have R6 := lh hown; have M6b := row_blk M5.out.row hgrow M5.out.box (by decide); have HM6 := lh M6b; have HGR := lh hgrow; have HB6 : Hid (Below b w w6) := Below.grown (HE5.out.below.mono (Nat.le_of_lt HBL.out)) hgrow (by have := HE5.out.size; have := HBL.out; omega) (fun j hj => (M5.out.row.lt j hj).1); have c12 := M6b.cell 12; have f12 := M6b.frozen 12
 simp only [tyW, List.getElem?_toArray, List.getElem?_cons_zero, List.getElem?_cons_succ] at c12; clear hown hgrow M6b; go_wp2; refine Great.bodyPost_end0 rfl rfl ?_; have rr : ∀ {u : Value} {zs : List Int}, OwnI w5 b u zs -> OwnI w6 b u zs := fun h => row_row M5.out.row HGR.out h (by decide)
 have PM : PMem w6 b (tyW nm va T vq vs) va vq (.slice (some ⟨g6, 0, none⟩) (T.sets.length + 1) c6) sh T.squares (T.sets ++ [(p, ys)]) (P ++ [(p, .slice A5 n5 c5)]) := by
  refine ⟨HM6.out, rr M5.out.shr, rr M5.out.sqr, ?_, by simp [M5.out.len], fun j hj => ?_⟩
  ·rw [stCells_snoc]; simpa using R6.out
  ·rw [List.length_append, List.length_singleton] at hj
   by_cases hlt : j < T.sets.length
   ·have h1 := M5.out.each j hlt
    have e1 : (P ++ [(p, Value.slice A5 n5 c5)]).getD j (0, undef) = P.getD j (0, undef) := by
     rw [List.getD_eq_getElem?_getD, List.getElem?_append_left (by rw [M5.out.len]; exact hlt), <- List.getD_eq_getElem?_getD]
    have e2 : (T.sets ++ [(p, ys)]).getD j (0, []) = T.sets.getD j (0, []) := by
     rw [List.getD_eq_getElem?_getD, List.getElem?_append_left hlt, <- List.getD_eq_getElem?_getD]
    have e3 : Bell.ePow (T.sets ++ [(p, ys)]) j = Bell.ePow T.sets j := by unfold Bell.ePow; rw [e2]
    rw [e1, e2, e3]; exact ⟨h1.1, rr h1.2⟩
   ·obtain rfl : j = T.sets.length := by omega
    have e1 : (P ++ [(p, Value.slice A5 n5 c5)]).getD T.sets.length (0, undef) = (p, .slice A5 n5 c5) := by
     rw [<- M5.out.len, List.getD_eq_getElem?_getD]; simp
    have e2 : (T.sets ++ [(p, ys)]).getD T.sets.length (0, []) = (p, ys) := by
     rw [List.getD_eq_getElem?_getD]; simp
    have e3 : Bell.ePow (T.sets ++ [(p, ys)]) T.sets.length = p := by unfold Bell.ePow; rw [e2]
    rw [e1, e2, e3]; exact ⟨rfl, rr HO5.out⟩
 exact ⟨rfl, ⟨HD.out, va, vq, _, _, PM.put 12 (.slice (some ⟨g6, 0, none⟩) (T.sets.length + 1) c6)⟩, HB6.out.setCell (p := ⟨b, 12, none⟩) (Nat.le_refl _) _⟩
end Go.Proofs.YtmafmebcgmegeaaGreatDoor
