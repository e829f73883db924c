/- Part. -/
import Derived.Test.YtmafmebcgmegeaaGreatDoorGz1
import Derived.Test.YtmafmebcgmegeaaGreatDoorGz22
import Derived.Test.YtmafmebcgmegeaaGreatDoorGz10
import Derived.Test.YtmafmebcgmegeaaGreatDoorGz2
namespace Go.Proofs.YtmafmebcgmegeaaGreatDoor
open Go.RowKit Go.Sort
def rowI (sh : List Int) (T : Bell.Ty) (i : Nat) : List Int := if i = 0 then [T.side] else if i = 1 then sh else if i = 2 then T.direct else if i = 3 then T.squares else Bell.ePow T.sets (i - 4) :: (T.sets.getD (i - 4) (0, [])).2
def GR.row1 (B : Nat) (x : Int) : GR := ⟨fun v W => B <= W.heap.size /\ ∃ g, v = .slice (some ⟨g, 0, none⟩) 1 1 /\ Blk W g 3 #[.int .i64 x], fun ⟨b, g, e, h⟩ hE => ⟨Nat.le_trans b hE.size, g, e, h.below hE⟩⟩
def GR.rows4 (B : Nat) (x : Int) (a b c : Value) : GR := ⟨fun v W => ∃ gs g, B <= g /\ v = .slice (some ⟨g, 0, none⟩) 4 4 /\ Blk W gs 3 #[.int .i64 x] /\ Blk W g 22 #[.slice (some ⟨gs, 0, none⟩) 1 1, a, b, c], fun ⟨gs, g, b, e, h, k⟩ hE => ⟨gs, g, b, e, h.below hE, k.below hE⟩⟩
theorem infoSl : (Tryz.prog.info? 22).map (fun i => (i.zero, i.size, i.bytes)) = some (some (.slice none 0 0), 1, 24) := by kernel_rfl
def rowV (r : Option Addr × Nat × Nat) : Value := .slice r.1 r.2.1 r.2.2
def rowD : Option Addr × Nat × Nat := (none, 0, 0)
def IntsSep (w : World) (base : Nat) (A : Option Addr) : Prop := ∀ a, A = some a -> a.block < base ∨ ∃ t cs fz, w.heap[a.block]? = some (.cells cs t fz) /\ t ≠ 22
theorem IntsSep.keep {w w' : World} {base : Nat} {A : Option Addr} (h : IntsSep w base A) (hb : Below w.heap.size w w') : IntsSep w' base A := fun a ha => by
 rcases h a ha with h | ⟨t, cs, fz, h1, h2⟩
 ·exact .inl h
 ·refine .inr ⟨t, cs, fz, ?_, h2⟩
  rw [hb.block a.block (by
   rcases Nat.lt_or_ge a.block w.heap.size with h' | h'
   ·exact h'
   ·rw [Array.getElem?_eq_none h'] at h1; cases h1)]
  exact h1
theorem ints_grown {w w' : World} {base n k : Nat} {A : Option Addr} {zs : List Int} {v : Value} {xs : List Value} (hz : IntsAt w A n zs) (hs : IntsSep w base A) (ho : w.ownsRow base 22 1 v k xs) (hg : w.grownBy w' v.ownBlock) :
  IntsAt w' A n zs /\ IntsSep w' base A := by
 have ne : ∀ a, A = some a -> some a.block ≠ v.ownBlock := fun a ha e => by
  have h1 := ho.lt a.block e.symm; rcases hs a ha with h | ⟨t, cs, fz, h2, h3⟩
  ·omega
  ·rcases ho.2 with ⟨rfl, _⟩ | ⟨g, cap, cur, rfl, _, hgb, _⟩
   ·cases e
   ·have e2 : a.block = g := by simpa [Value.ownBlock] using e
    rw [e2, hgb] at h2
    cases h2
    exact h3 rfl
 refine ⟨⟨hz.1, fun hn => ?_⟩, fun a ha => ?_⟩
 ·obtain ⟨b, o, rfl, hc⟩ := hz.2 hn; refine ⟨b, o, rfl, fun i hi => ?_⟩; have hl := World.block_lt_of_cell? _ _ (hc i hi); exact (World.cell?_of_block (a := ⟨b, o + i, Option.none⟩) (hg.block b hl (ne _ rfl))).trans (hc i hi)
 ·rcases hs a ha with h | ⟨t, cs, fz, h2, h3⟩
  ·exact .inl h
  ·refine .inr ⟨t, cs, fz, ?_, h3⟩
   rw [hg.block a.block (by
    rcases Nat.lt_or_ge a.block w.heap.size with h' | h'
    ·exact h'
    ·rw [Array.getElem?_eq_none h'] at h2; cases h2) (ne a ha)]
   exact h2
theorem own_ints {w : World} {base : Nat} {v : Value} {zs : List Int} (h : OwnI w base v zs) : ∃ A c, v = .slice A zs.length c /\ IntsAt w A zs.length zs /\ IntsSep w base A := by
 rcases h.2 with ⟨hv, hn⟩ | ⟨g, cap, cur, rfl, hb, hg, hnc, hm, hs, ht⟩
 ·refine ⟨Option.none, 0, by rw [hn]; exact hv, ⟨rfl, fun h => by omega⟩, fun a ha => by cases ha⟩
 ·exact ⟨_, _, rfl, OwnI.at_ h, fun a ha => by cases ha; exact .inr ⟨_, _, _, hg, by decide⟩⟩
structure Rows (w : World) (base : Nat) (v : Value) (n : Nat) (sh : List Int) (T : Bell.Ty) (L : List (Option Addr × Nat × Nat)) : Prop where
 len : L.length = n
 own : w.ownsRow base 22 1 v n (L.map rowV)
 ints : ∀ i, i < n -> IntsAt w (L.getD i rowD).1 (L.getD i rowD).2.1 (rowI sh T i) /\ IntsSep w base (L.getD i rowD).1
theorem Rows.keep {w w' : World} {base n : Nat} {v : Value} {sh : List Int} {T : Bell.Ty} {L : List (Option Addr × Nat × Nat)} (h : Rows w base v n sh T L) (hb : Below w.heap.size w w') : Rows w' base v n sh T L :=
 ⟨h.len, World.ownsRow.kept h.own (row := Option.none) ⟨hb.os, hb.tape, hb.output, hb.size, fun k hk _ => hb.block k hk⟩ (Classical.em _), fun i hi => ⟨(h.ints i hi).1.keep hb, (h.ints i hi).2.keep hb⟩⟩
def firstW (k : Nat) : ByteArray := ([⟨#[116, 121, 112, 101]⟩, ⟨#[115, 104, 97, 114, 101, 115]⟩, ⟨#[100, 105, 114, 101, 99, 116]⟩, ⟨#[115, 113, 117, 97, 114, 101, 115]⟩, ⟨#[112, 111, 119, 101, 114]⟩] : List ByteArray).getD k ⟨#[]⟩
def FirstWords (w : World) : Prop := ∀ i, i < 5 -> w.cell? ⟨1, i, none⟩ = some (.string (firstW i))
theorem FirstWords.keep {w w' : World} (h : FirstWords w) (hb : Below w.heap.size w w') : FirstWords w' := fun i hi => by
 rw [hb.cell (p := ⟨1, i, none⟩) (World.block_lt_of_cell? _ _ (h i hi))]; exact h i hi
def wordB (nm : ByteArray) (j : Nat) : ByteArray := if j = 0 then firstW 0 ++ (⟨#[32]⟩ ++ nm) else firstW (min j 4)
def textTo (nm : ByteArray) (sh : List Int) (T : Bell.Ty) : Nat -> List UInt8
 | 0 => []
 | j + 1 => textTo nm sh T j ++ (lineG (wordB nm j) (rowI sh T j)).data.toList
def typeB (nm : ByteArray) (sh : List Int) (T : Bell.Ty) : ByteArray := ⟨(textTo nm sh T (4 + T.sets.length)).toArray⟩
theorem wordB_size {nm : ByteArray} (h : nm.size <= 24) (j : Nat) : (wordB nm j).size <= 1000 := by
 unfold wordB
 split
 ·simp only [size_app]; have : (firstW 0).size = 4 := rfl; have : (⟨#[32]⟩ : ByteArray).size = 1 := rfl
  omega
 ·have : ∀ k, k <= 4 -> (firstW k).size <= 1000 := fun k hk => by
   match k, hk with
   | 0, _ => decide
   | 1, _ => decide
   | 2, _ => decide
   | 3, _ => decide
   | 4, _ => decide
  exact this _ (by omega)
theorem rowI_ok {sh : List Int} {T : Bell.Ty} (hG : GoodT sh T) {i : Nat} (hi : i < 4 + T.sets.length) : (rowI sh T i).length <= 1024 /\ ∀ z ∈ rowI sh T i, 0 <= z /\ z <= 9223372036854775807 := by
 unfold rowI
 split
 ·exact ⟨by simp, fun z hz => by
   rw [List.mem_singleton.1 hz]; have h1 := hG.ty.side0; have h2 := hG.ty.side1
   omega⟩
 split
 ·exact ⟨by have := hG.sh.cnt.2; omega, fun z hz => by have := hG.sh.rng z hz; omega⟩
 split
 ·exact ⟨by have := hG.dl; omega, fun z hz => by
   obtain ⟨k, hk, rfl⟩ := List.getElem_of_mem hz; have := hG.ty.dir k (by rw [<- hG.dl]; exact hk); rw [List.getD_eq_getElem?_getD, List.getElem?_eq_getElem hk, Option.getD_some] at this
   omega⟩
 split
 ·exact ⟨by have := hG.cnt.2.2; omega, fun z hz => by have := hG.sqr z hz; omega⟩
 have hk : i - 4 < T.sets.length := by omega
 have hl := hG.len hk; have h8 := hG.cnt.2.2; refine ⟨by rw [List.length_cons]; omega, fun z hz => ?_⟩; rcases List.mem_cons.1 hz with rfl | hz
 ·have := hG.pow hk; omega
 ·obtain ⟨r, hr, rfl⟩ := List.getElem_of_mem hz; have h1 := hG.ty.sets.lo (i - 4) r hk (by omega); have h2 := hG.ty.sets.hi (i - 4) r hk (by omega); unfold Bell.eAt at h1 h2; rw [List.getD_eq_getElem?_getD (l := (T.sets.getD (i - 4) (0, [])).2), List.getElem?_eq_getElem hr, Option.getD_some] at h1 h2
  omega
theorem textTo_len {nm : ByteArray} {sh : List Int} {T : Bell.Ty} (hG : GoodT sh T) (hn : nm.size <= 24) : ∀ j, j <= 4 + T.sets.length -> (textTo nm sh T j).length <= 30001 * j
 | 0, _ => by simp [textTo]
 | j + 1, hj => by
   have h1 := textTo_len hG hn j (by omega); obtain ⟨h2, h3⟩ := rowI_ok hG (i := j) (by omega); have h4 := bareB_size (wordB nm j) (rowI sh T j) (wordB_size hn j) h2 h3; have h5 : (lineG (wordB nm j) (rowI sh T j)).data.toList.length = (lineG (wordB nm j) (rowI sh T j)).size := rfl
   have h6 : (lineG (wordB nm j) (rowI sh T j)).size = (bareB (wordB nm j) (rowI sh T j)).size + 1 := by
    unfold lineG; rw [size_app]
    rfl
   simp only [textTo, List.length_append]
   omega
theorem isB_keep {T e : TypeId} {B b : Nat} {bs : List Value} {w w' : World} (h : Lib.IsBuilder T e B b bs w) (hb : Below w.heap.size w w') : Lib.IsBuilder T e B b bs w' := by
 have k : ∀ {p : Value}, Lib.BuilderAt T e B b p bs w -> Lib.BuilderAt T e B b p bs w' := fun h => by
  have hl := h.lt; obtain ⟨hB, v, h1, h2, h3⟩ := h; exact ⟨hB, v, (hb.block b hl).trans h1, World.ownsRow.kept h2 (row := Option.none) ⟨hb.os, hb.tape, hb.output, hb.size, fun k hk _ => hb.block k hk⟩ (Classical.em _), h3⟩
 rcases h with h | h
 ·exact .inl (k h)
 ·exact .inr (k h)
theorem form_0 : ∃ fk, (∀ W, (Instr.index 233 (.agg formsV) (.int .i64 0)).run Tryz.prog W = .ok (.agg fk) W) /\ ∀ W, (Instr.field 232 (.agg fk) 0).run Tryz.prog W = .ok (.int .i64 1) W :=
 ⟨#[.int .i64 1, .int .i64 1, .int .i64 1, .func (.func 195) #[] #[]], fun W => by kernel_rfl, fun W => by kernel_rfl⟩
theorem form_n : ∀ K : Nat, 1 <= K -> K <= 4 -> ∃ fk, (∀ W, (Instr.index 233 (.agg formsV) (.int .i64 K)).run Tryz.prog W = .ok (.agg fk) W) /\ ∀ W, (Instr.field 232 (.agg fk) 0).run Tryz.prog W = .ok (.int .i64 0) W
 | 1, _, _ => ⟨#[.int .i64 0, .int .i64 0, .int .i64 4096, .func (.func 196) #[] #[]], fun W => by kernel_rfl, fun W => by kernel_rfl⟩
 | 2, _, _ => ⟨#[.int .i64 0, .int .i64 8, .int .i64 8, .func (.func 197) #[] #[]], fun W => by kernel_rfl, fun W => by kernel_rfl⟩
 | 3, _, _ => ⟨#[.int .i64 0, .int .i64 0, .int .i64 4096, .func (.func 198) #[] #[]], fun W => by kernel_rfl, fun W => by kernel_rfl⟩
 | 4, _, _ => ⟨#[.int .i64 0, .int .i64 1, .int .i64 4096, .func (.func 199) #[] #[]], fun W => by kernel_rfl, fun W => by kernel_rfl⟩
set_option maxHeartbeats 1000000 in
set_option maxRecDepth 100000 in
theorem Print_ok {cs : Array Value} {nm : ByteArray} {sh : List Int} {T : Bell.Ty} {sa : Option Addr} {sn sc qb qo qn qc gb go gn gc : Nat} (w : World) (hT : TyOk w cs nm sh T sa sn sc qb qo qn qc gb go gn gc) (hfw : FirstWords w) (htab : Tab w) :
  Calls Tryz.prog 73 #[.agg cs] w fun x w' => x = .returned (.tuple #[.string (typeB nm sh T), .int .i64 0]) /\ Below w.heap.size w w' := by
 have HO := lh hT; have HFW := lh hfw; have HTAB := lh htab
 have hnm : nm.size <= 24 := by
  have := hT.name; unfold nameB at this; exact (@of_decide_eq_true _ (Classical.propDecidable _) this).2.1
 clear hfw htab; have IT := lh hT.mem.info; clear hT
 go_enter Tryz.func73, Tryz.ntmps73
 go_upto_region 1 with fail
 obtain ⟨w1, hw1⟩ : ∃ W, W = (w.alloc (.cells cs 42)) := ⟨_, rfl⟩; rw [<- hw1]; have B1 : Hid (Blk w1 (w.heap.size) 42 cs) := by show Blk _ _ _ _; rw [hw1]; exact Blk.new _ _ _
 have hb1 : Below w.heap.size w w1 := by rw [hw1]; exact ((Below.refl _ _).alloc (Nat.le_refl _) _)
 obtain ⟨g1, hg1⟩ : ∃ g, g = w.heap.size := ⟨_, rfl⟩; have HGw1 : Hid (g1 = w.heap.size) := hg1; rw [<- hg1] at B1
 try rw [<- hg1]
 clear hw1 hg1; have HB : Hid (Below w.heap.size w w1) := hb1; clear hb1
 go_wp2_with (refine wpList_load_row rfl 42 _ rfl g1 rfl 42 cs (0, 0) _ B1.out Tryz.underlying42 rfl IT.out ?_)
 refine (CheckType_ok w1 (HO.out.keep HB.out)).mono ?_; rintro x w2 ⟨rfl, hb⟩; replace HB := lh (HB.out.trans (hb.mono HB.out.size)); replace B1 := lh (B1.out.below hb); clear hb
 go_upto_region 4 with fail
 refine wp_region_grow 10 (by kernel_rfl) (by kernel_rfl) [GR.eq (.pointer (some ⟨g1, 10, none⟩)), GR.eq (.int .i64 T.side), GR.row1 w.heap.size T.side, GR.eq (.pointer (some ⟨g1, 1, none⟩)), GR.eq (.slice sa sn sc), GR.eq (.pointer (some ⟨g1, 2, none⟩)), GR.eq (.slice (some ⟨g1, 2, none⟩) 8 8), GR.eq (.pointer (some ⟨g1, 11, none⟩)), GR.eq (.slice (some ⟨qb, qo, none⟩) qn qc), GR.rows4 w.heap.size T.side (.slice sa sn sc) (.slice (some ⟨g1, 2, none⟩) 8 8) (.slice (some ⟨qb, qo, none⟩) qn qc)] 73 rfl (by kernel_rfl) ?_ ?_
 ·refine ⟨?_, ?_, ?_, ?_, ?_, ?_, ?_, ?_, ?_, ?_, trivial⟩
  ·intro a W hE hd ho; have e1 : a.tmps[1]?.getD undef = .pointer (some ⟨g1, 0, none⟩) := ho 1 (by kernel_rfl); exact gs_same (v := .pointer (some ⟨g1, 10, none⟩)) (by go_simp) rfl
  ·intro a W hE hd ho; have e17 : a.tmps[17]?.getD undef = .pointer (some ⟨g1, 10, none⟩) := hd 0 17 (by kernel_rfl) (by kernel_rfl); have k10 := ((B1.out.below hE).cell 10).trans HO.out.mem.c10; exact gs_same (v := .int .i64 T.side) (by go_simp) rfl
  ·intro a W hE hd ho; have e18 : a.tmps[18]?.getD undef = .int .i64 T.side := hd 1 18 (by kernel_rfl) (by kernel_rfl); exact gs_val (v := .slice (some ⟨W.heap.size, 0, none⟩) 1 1) (W' := W.alloc (.cells #[.int .i64 T.side] 3)) (by go_simp) ((Below.refl _ _).alloc (Nat.le_refl _) _) ⟨by have := HB.out.size; have := hE.size; simp; omega, _, rfl, Blk.new _ _ _⟩
  ·intro a W hE hd ho; have e1 : a.tmps[1]?.getD undef = .pointer (some ⟨g1, 0, none⟩) := ho 1 (by kernel_rfl); exact gs_same (v := .pointer (some ⟨g1, 1, none⟩)) (by go_simp) rfl
  ·intro a W hE hd ho; have e20 : a.tmps[20]?.getD undef = .pointer (some ⟨g1, 1, none⟩) := hd 3 20 (by kernel_rfl) (by kernel_rfl); have k1 := ((B1.out.below hE).cell 1).trans HO.out.mem.c1; exact gs_same (v := .slice sa sn sc) (by go_simp) rfl
  ·intro a W hE hd ho; have e1 : a.tmps[1]?.getD undef = .pointer (some ⟨g1, 0, none⟩) := ho 1 (by kernel_rfl); exact gs_same (v := .pointer (some ⟨g1, 2, none⟩)) (by go_simp) rfl
  ·intro a W hE hd ho; have e22 : a.tmps[22]?.getD undef = .pointer (some ⟨g1, 2, none⟩) := hd 5 22 (by kernel_rfl) (by kernel_rfl); exact gs_same (v := .slice (some ⟨g1, 2, none⟩) 8 8) (by go_simp) rfl
  ·intro a W hE hd ho; have e1 : a.tmps[1]?.getD undef = .pointer (some ⟨g1, 0, none⟩) := ho 1 (by kernel_rfl); exact gs_same (v := .pointer (some ⟨g1, 11, none⟩)) (by go_simp) rfl
  ·intro a W hE hd ho; have e24 : a.tmps[24]?.getD undef = .pointer (some ⟨g1, 11, none⟩) := hd 7 24 (by kernel_rfl) (by kernel_rfl); have k11 := ((B1.out.below hE).cell 11).trans HO.out.mem.c11; exact gs_same (v := .slice (some ⟨qb, qo, none⟩) qn qc) (by go_simp) rfl
  ·intro a W hE hd ho; have e21 : a.tmps[21]?.getD undef = .slice sa sn sc := hd 4 21 (by kernel_rfl) (by kernel_rfl); have e23 : a.tmps[23]?.getD undef = .slice (some ⟨g1, 2, none⟩) 8 8 := hd 6 23 (by kernel_rfl) (by kernel_rfl); have e25 : a.tmps[25]?.getD undef = .slice (some ⟨qb, qo, none⟩) qn qc := hd 8 25 (by kernel_rfl) (by kernel_rfl); obtain ⟨_, gs, e19, hgs⟩ := hd 2 19 (by kernel_rfl) (by kernel_rfl); exact gs_val (v := .slice (some ⟨W.heap.size, 0, none⟩) 4 4) (W' := W.alloc (.cells #[.slice (some ⟨gs, 0, none⟩) 1 1, .slice sa sn sc, .slice (some ⟨g1, 2, none⟩) 8 8, .slice (some ⟨qb, qo, none⟩) qn qc] 22)) (by go_simp) ((Below.refl _ _).alloc (Nat.le_refl _) _) ⟨gs, _, (by have := HB.out.size; have := hE.size; omega), rfl, hgs.alloc _, Blk.new _ _ _⟩
 intro vs w3 hE hR; have y0 : vs 0 = .pointer (some ⟨g1, 10, none⟩) := hR 0 (by omega); have y1 : vs 1 = .int .i64 T.side := hR 1 (by omega); obtain ⟨_, gs, y2, hgs⟩ := hR 2 (by omega); have y3 : vs 3 = .pointer (some ⟨g1, 1, none⟩) := hR 3 (by omega); have y4 : vs 4 = .slice sa sn sc := hR 4 (by omega); have y5 : vs 5 = .pointer (some ⟨g1, 2, none⟩) := hR 5 (by omega); have y6 : vs 6 = .slice (some ⟨g1, 2, none⟩) 8 8 := hR 6 (by omega); have y7 : vs 7 = .pointer (some ⟨g1, 11, none⟩) := hR 7 (by omega); have y8 : vs 8 = .slice (some ⟨qb, qo, none⟩) qn qc := hR 8 (by omega); obtain ⟨gs9, gr, hlow, y9, hgs9, hgr⟩ := hR 9 (by omega); simp only [List.range, List.range.loop, List.foldl_cons, List.foldl_nil, y0, y1, y2, y3, y4, y5, y6, y7, y8, y9, List.drop_succ_cons, List.drop_zero]; simp only [dstAt, List.getElem?_toArray, List.getElem?_cons_zero, List.getElem?_cons_succ, Option.bind_some, Act.put, List.setIfInBounds_toArray, List.set_cons_zero, List.set_cons_succ]
 clear y0 y1 y2 y3 y4 y5 y6 y7 y8 y9 hR; have HE2 := hE; replace HB := lh (HB.out.trans (HE2.mono HB.out.size)); replace B1 := lh (B1.out.below HE2); clear HE2; have hgr0 : w.heap.size <= gr := hlow
 have HR0 : Hid (Rows w3 w.heap.size (.slice (some ⟨gr, 0, none⟩) 4 4) 4 sh T [(some ⟨gs9, 0, none⟩, 1, 1), (sa, sn, sc), (some ⟨g1, 2, none⟩, 8, 8), (some ⟨qb, qo, none⟩, qn, qc)]) := by
  refine ⟨rfl, ⟨rfl, .inr ⟨gr, 4, _, rfl, hgr0, hgr, Nat.le_refl _, by unfold maxLen; omega, rfl, rfl⟩⟩, fun i hi => ?_⟩; have hs := HO.out.mem.shares.keep HB.out; have hq := HO.out.mem.squares.keep HB.out; have hd : IntsAt w3 (some ⟨g1, 2, none⟩) 8 T.direct := ⟨HO.out.good.dl, fun _ => ⟨g1, 2, rfl, fun i hi => (B1.out.cell (2 + i)).trans (HO.out.mem.dir hi)⟩⟩
  have h0 : IntsAt w3 (some ⟨gs9, 0, none⟩) 1 [T.side] := ⟨rfl, fun _ => ⟨gs9, 0, rfl, fun i hi => (by
   have e : i = 0 := by omega
   rw [e]; exact (hgs9.cell 0).trans rfl)⟩⟩
  match i, hi with
  | 0, _ => exact ⟨h0, fun a ha => by cases ha; exact .inr ⟨_, _, _, hgs9, by decide⟩⟩
  | 1, _ => exact ⟨hs, fun a ha => .inl (by
    have hl := HO.out.good.sh.cnt.1; have h1 := HO.out.mem.shares.1; obtain ⟨b, o, e, hc⟩ := HO.out.mem.shares.2 (by omega); rw [show sa = some a from ha] at e
    cases e
    exact World.block_lt_of_cell? _ _ (hc 0 (by omega)))⟩
  | 2, _ => exact ⟨hd, fun a ha => by cases ha; exact .inr ⟨_, _, _, B1.out, by decide⟩⟩
  | 3, _ => exact ⟨hq, fun a ha => .inl (by
    have hl := HO.out.good.cnt.2.1; have h1 := HO.out.mem.squares.1; obtain ⟨b, o, e, hc⟩ := HO.out.mem.squares.2 (by omega)
    cases e
    cases ha
    exact World.block_lt_of_cell? _ _ (hc 0 (by omega)))⟩
 clear hE hgr hgs9; have hgn := HO.out.good.cnt.1; rw [HO.out.mem.sets.1] at hgn; obtain ⟨hgn0, hgn6⟩ := hgn; obtain ⟨i0, hi, hz0, hz1, hz2⟩ := info_parts infoSl; have q12 := (B1.out.cell 12).trans HO.out.mem.c12; clear hgr0 hlow; go_wp2; clear q12
 go_loopw [5, 30] (fun v i wr => ∃ j : Nat, j <= gn /\ i = .int .i64 j /\ Hid (∃ L, Rows wr w.heap.size v (4 + j) sh T L) /\ Hid (Below w.heap.size w wr) /\ Hid (Blk wr g1 42 cs)) (fun _ i _ => gn - (intOf i).toNat)
 case atStart => exact ⟨0, Nat.zero_le _, rfl, ⟨_, HR0.out⟩, HB, B1⟩
 case round =>
  clear HR0 HB B1; obtain ⟨j, hj, rfl, hR, HB, B1⟩ := hrel
  by_cases hlt : j < gn
  ·obtain ⟨ea, en, ec, s1, s2, s3⟩ := (HO.out.mem.sets.keep HB.out).2 j hlt
   have hen : 0 < en := by
    have h1 := HO.out.good.len (k := j) (by rw [HO.out.mem.sets.1]; exact hlt); have h2 := HO.out.good.cnt.2.1; have h3 := s3.1
    omega
   have hen8 : en <= 8 := by
    have h1 := HO.out.good.len (k := j) (by rw [HO.out.mem.sets.1]; exact hlt); have h2 := HO.out.good.cnt.2.2; have h3 := s3.1
    omega
   have hRI : Hid (rowI sh T (4 + j) = Bell.ePow T.sets j :: (T.sets.getD j (0, [])).2) := by
    show _ = _
    unfold rowI; rw [if_neg (by omega), if_neg (by omega), if_neg (by omega), if_neg (by omega), Nat.add_sub_cancel_left]
   obtain ⟨p, hp⟩ : ∃ p, p = Bell.ePow T.sets j := ⟨_, rfl⟩; obtain ⟨es, hes⟩ : ∃ es, es = (T.sets.getD j (0, [])).2 := ⟨_, rfl⟩; rw [<- hp] at s1 hRI; rw [<- hes] at s3 hRI; have HS3 := lh s3; clear hp hes s3
   go_upto_region 8 with fail
   obtain ⟨wa, hwa⟩ : ∃ W, W = (wr.alloc (.cells #[.int .i64 p, .slice ea en ec] 172)) := ⟨_, rfl⟩; rw [<- hwa]; have S : Hid (Blk wa (wr.heap.size) 172 #[.int .i64 p, .slice ea en ec]) := by show Blk _ _ _ _; rw [hwa]; exact Blk.new _ _ _
   have hba : Below wr.heap.size wr wa := by rw [hwa]; exact ((Below.refl _ _).alloc (Nat.le_refl _) _)
   obtain ⟨gs7, hgs7⟩ : ∃ g, g = wr.heap.size := ⟨_, rfl⟩; have HGwa : Hid (gs7 = wr.heap.size) := hgs7; rw [<- hgs7] at S
   try rw [<- hgs7]
   clear hwa hgs7; have SS := S.out; have zc0 := SS.cell 0; have zf0 := SS.frozen 0; have zc1 := SS.cell 1; have zf1 := SS.frozen 1; simp only [List.getElem?_toArray, List.getElem?_cons_zero, List.getElem?_cons_succ] at zc0 zc1; clear SS; have hl7 := lt_of_block S.out; have hl8 : (gs7 = wa.heap.size) = False := by simp; omega
   replace HS3 := lh (HS3.out.keep hba); replace hR : Hid (∃ L, Rows wa w.heap.size u5 (4 + j) sh T L) := by obtain ⟨L, h⟩ := hR.out; exact ⟨L, h.keep hba⟩
   replace HB := lh (HB.out.trans (hba.mono HB.out.size)); replace B1 := lh (B1.out.below hba); clear hba; clear s1 s2 S
   go_wp2_with fail
   obtain ⟨wb, hwb⟩ : ∃ W, W = ((wa.alloc (.cells #[.int .i64 p] 3)).alloc (.cells #[.slice (some ⟨wa.heap.size, 0, none⟩) 1 1, .slice ea en ec] 22)) := ⟨_, rfl⟩; rw [<- hwb]; have PB : Hid (Blk wb (wa.heap.size) 3 #[.int .i64 p]) := by show Blk _ _ _ _; rw [hwb]; exact (Blk.new _ _ _).alloc _
   have QB : Hid (Blk wb (wa.heap.size + 1) 22 #[.slice (some ⟨wa.heap.size, 0, none⟩) 1 1, .slice ea en ec]) := by show Blk _ _ _ _; rw [hwb]; exact Blk.at_size _ _ (by simp)
   have hbb : Below wa.heap.size wa wb := by rw [hwb]; exact (((Below.refl _ _).alloc (Nat.le_refl _) _).alloc (by simp) _)
   obtain ⟨gp, hgp⟩ : ∃ g, g = wa.heap.size := ⟨_, rfl⟩; obtain ⟨gq, hgq⟩ : ∃ g, g = wa.heap.size + 1 := ⟨_, rfl⟩; have HGwb : Hid (gp = wa.heap.size /\ gq = wa.heap.size + 1) := ⟨hgp, hgq⟩; rw [<- hgq] at QB
   try rw [<- hgq]
   rw [<- hgp] at PB
   try rw [<- hgp]
   clear hwb hgp hgq; rw [<- HGwb.out.1] at QB; replace HS3 := lh (HS3.out.keep hbb); replace hR : Hid (∃ L, Rows wb w.heap.size u5 (4 + j) sh T L) := by obtain ⟨L, h⟩ := hR.out; exact ⟨L, h.keep hbb⟩
   replace HB := lh (HB.out.trans (hbb.mono HB.out.size)); replace B1 := lh (B1.out.below hbb); clear hbb; clear zc0 zc1 zf0 zf1
   have hA : ea = none -> ec = 0 := fun e => by
    obtain ⟨b, o, e2, _⟩ := HS3.out.2 hen; rw [e] at e2; cases e2
   refine (concat2_ints gq (some ⟨gp, 0, none⟩) ea 1 en 1 ec [p] es wb ((QB.out.cell 0).trans rfl) ((QB.out.cell 1).trans rfl) ⟨rfl, fun _ => ⟨gp, 0, rfl, fun i hi => by
    have e : i = 0 := by omega
    rw [e]; exact (PB.out.cell 0).trans rfl⟩⟩ HS3.out (fun e => by cases e) hA (by omega) (by omega)).mono ?_
   rintro e wc ⟨v, rfl, hO, hbc⟩; replace hR : Hid (∃ L, Rows wc w.heap.size u5 (4 + j) sh T L) := by obtain ⟨L, h⟩ := hR.out; exact ⟨L, h.keep hbc⟩
   obtain ⟨A', c', rfl, hz', hs'⟩ := own_ints (OwnI.mono hO HB.out.size); replace HB := lh (HB.out.trans (hbc.mono HB.out.size)); replace B1 := lh (B1.out.below hbc); clear hbc; obtain ⟨n', hn'⟩ : ∃ n', n' = ([p] ++ es).length := ⟨_, rfl⟩; rw [<- hn'] at hz' ⊢; have HZ : Hid (IntsAt wc A' n' (rowI sh T (4 + j)) /\ IntsSep wc w.heap.size A') := by rw [hRI.out]; exact ⟨hz', hs'⟩
   obtain ⟨L, hL⟩ := hR.out; have HL := lh hL; have hsz := HB.out.size; clear hz' hs' hO hn' hA PB QB HS3 hR hL
   go_wp2_with (at_builtin; refine wpList_append_own _ rfl _ _ 223 rfl w.heap.size 22 i0 (.slice none 0 0) 1 24 Tryz.underlying223 hi hz0 hz1 hz2 rfl (by decide) _ _ _ rfl (World.ownsRow.alloc HL.out.own _) ⟨wc.heap.size, 0, none⟩ 1 1 [.slice A' n' c'] rfl rfl (cell_one_new _ _ _) (by simp [Value.oneCell']) (by unfold maxLen; omega) (by omega) (by simp; omega) ?_; intro v' w4 hown' hgrow _)
   have hgrow2 : World.grownBy (wc.alloc (.cells #[.slice A' n' c'] 22)) w4 (Value.ownBlock u5) := hgrow; clear hgrow; have hbx : Below wc.heap.size wc (wc.alloc (.cells #[.slice A' n' c'] 22)) := (Below.refl _ _).alloc (Nat.le_refl _) _; have HLX := HL.out.keep hbx
   have R : Hid (∃ L, Rows w4 w.heap.size v' (4 + (j + 1)) sh T L) := by
    refine ⟨L ++ [(A', n', c')], by rw [List.length_append, HL.out.len]; rfl, ?_, fun i hi => ?_⟩
    ·rw [List.map_append]; exact hown'
    ·rcases Nat.lt_or_ge i (4 + j) with h | h
     ·rw [show (L ++ [(A', n', c')]).getD i rowD = L.getD i rowD by rw [List.getD_eq_getElem?_getD, List.getD_eq_getElem?_getD, List.getElem?_append_left (by rw [HL.out.len]; exact h)]]; exact ints_grown (HLX.ints i h).1 (HLX.ints i h).2 HLX.own hgrow2
     ·obtain rfl : i = 4 + j := by omega
      rw [show (L ++ [(A', n', c')]).getD (4 + j) rowD = (A', n', c') by rw [List.getD_eq_getElem?_getD, List.getElem?_append_right (by rw [HL.out.len]; exact Nat.le_refl _), HL.out.len, Nat.sub_self]; rfl]; exact ints_grown (HZ.out.1.keep hbx) (HZ.out.2.keep hbx) HLX.own hgrow2
   have B4 : Hid (Below w.heap.size w w4) := Below.grown (HB.out.alloc HB.out.size _) hgrow2 (by simp; omega) (fun k hk => (HLX.own.lt k hk).1)
   have T4 : Hid (Blk w4 g1 42 cs) := by
    refine Eq.trans (hgrow2.block g1 (lt_of_block (B1.out.alloc _)) ?_) (B1.out.alloc _); intro e1; rcases HLX.own.2 with ⟨h1, _⟩ | ⟨g, cap, cur, h1, _, hgb, _⟩
    ·rw [h1] at e1; cases e1
    ·rw [h1] at e1; have e2 : g1 = g := by simpa [Value.ownBlock] using e1
     rw [<- e2] at hgb; have e3 := hgb.symm.trans (B1.out.alloc _); simp only [Option.some.injEq, Obj.cells.injEq] at e3; exact absurd e3.2.1 (by decide)
   clear hown' hgrow2 HLX hbx HL HZ hRI; go_wp2; go_roundw
   case rel => exact ⟨j + 1, by omega, by go_num, R, B4, T4⟩
   case measure => simp [intOf]; omega
  ·obtain ⟨wA, rfl⟩ : ∃ X, X = wr := ⟨_, rfl⟩; have hjn : j = gn := by omega
   obtain ⟨N, hN⟩ : ∃ N, N = 4 + j := ⟨_, rfl⟩; have HN : Hid (N = 4 + T.sets.length) := by show _ = _; rw [hN, hjn, HO.out.mem.sets.1]
   have hN10 : 0 < N /\ N <= 10 := by omega
   obtain ⟨hN0, hN1⟩ := hN10; rw [<- hN] at hR; obtain ⟨L, hL⟩ := hR.out
   obtain ⟨g5, cap5, hv5⟩ : ∃ g cap, u5 = .slice (some ⟨g, 0, none⟩) N cap := by
    rcases hL.own.2 with ⟨_, h⟩ | ⟨g, cap, cur, hv, _⟩
    ·omega
    ·exact ⟨g, cap, hv⟩
   subst hv5; have HL := lh hL; have htx := textTo_len HO.out.good hnm; rw [<- HN.out] at htx; have HTX := lh htx; clear hL hR hjn hN htx
   go_upto_region 11 with fail
   obtain ⟨w5, hw5⟩ : ∃ W, W = (wA.alloc (.cells #[.pointer none, .slice none 0 0] 228)) := ⟨_, rfl⟩; rw [<- hw5]; have BU : Hid (Blk w5 (wA.heap.size) 228 #[.pointer none, .slice none 0 0]) := by show Blk _ _ _ _; rw [hw5]; exact Blk.new _ _ _
   have hb5 : Below wA.heap.size wA w5 := by rw [hw5]; exact ((Below.refl _ _).alloc (Nat.le_refl _) _)
   obtain ⟨gbu, hgbu⟩ : ∃ g, g = wA.heap.size := ⟨_, rfl⟩; have HGw5 : Hid (gbu = wA.heap.size) := hgbu; rw [<- hgbu] at BU
   try rw [<- hgbu]
   clear hw5 hgbu; have HBI : Hid (Lib.IsBuilder 228 5 gbu gbu (Lib.byteCells (textTo nm sh T 0)) w5) := Or.inl ⟨Nat.le_refl _, _, BU.out, World.ownsRow_nil _ _ _ _, by simp [Value.ownBlock]⟩; have HGB : Hid (w.heap.size <= gbu /\ gbu <= w5.heap.size /\ g1 < gbu) := ⟨by rw [HGw5.out]; exact HB.out.size, by rw [HGw5.out]; exact hb5.size, by rw [HGw5.out]; exact lt_of_block B1.out⟩; have HG5 : Hid (gbu = wA.heap.size) := HGw5.out; have HBX : Hid (Below gbu wA w5) := by rw [HGw5.out]; exact hb5
   clear hb5 BU HGw5; go_wp2
   go_loopw [47] (fun i W => ∃ k : Nat, k <= N /\ i = .int .i64 k /\ Hid (Lib.IsBuilder 228 5 gbu gbu (Lib.byteCells (textTo nm sh T k)) W) /\ Hid (Below gbu wA W) /\ w5.heap.size <= W.heap.size) (fun i _ => N - (intOf i).toNat)
   case atStart => exact ⟨0, Nat.zero_le _, rfl, HBI, HBX, Nat.le_refl _⟩
   case round =>
    clear HBI HBX; obtain ⟨W, rfl⟩ : ∃ X, X = wr := ⟨_, rfl⟩; obtain ⟨k, hk, rfl, hbd, hB2, hw5⟩ := hrel
    by_cases hlt2 : k < N
    ·have hW : Hid (Below w.heap.size w W) := HB.out.trans (hB2.out.mono HGB.out.1); have hWr : Below wA.heap.size wA W := by rw [<- HG5.out]; exact hB2.out
     have hRW := HL.out.keep hWr; have hgl := hRW.own.cellAt k (by omega); obtain ⟨hz, hsep⟩ := hRW.ints k hlt2; obtain ⟨hr1, hr2⟩ := rowI_ok HO.out.good (i := k) (by rw [<- HN.out]; exact hlt2)
     have hlk : (L.map rowV)[k]? = some (rowV (L.getD k rowD)) := by
      rw [List.getElem?_map, List.getD_eq_getElem?_getD, List.getElem?_eq_getElem (by rw [HL.out.len]; exact hlt2)]
      rfl
     rw [hlk] at hgl; obtain ⟨⟨A', n', c'⟩, hAnc⟩ : ∃ r, r = L.getD k rowD := ⟨_, rfl⟩; rw [<- hAnc] at hgl hz; simp only [rowV] at hgl hz; have hn' : n' <= 1024 := by rw [<- hz.1]; exact hr1
     have HZ := lh hz; have HR2 := lh hr2; have HTK : Hid (textTo nm sh T (k + 1) = textTo nm sh T k ++ (lineG (wordB nm k) (rowI sh T k)).data.toList) := rfl; have hT1 := HTX.out (k + 1) (by omega); have HWS : Hid ((wordB nm k).size <= 1000) := wordB_size hnm k; obtain ⟨zs, hzs⟩ : ∃ zs, zs = rowI sh T k := ⟨_, rfl⟩; obtain ⟨tx, htx⟩ : ∃ tx, tx = textTo nm sh T k := ⟨_, rfl⟩; rw [<- hzs] at HZ HR2 HTK; rw [<- htx] at hbd HTK; rw [HTK.out] at hT1; have B1W : Hid (Blk W g1 42 cs) := B1.out.below hWr; have c0 := (B1W.out.cell 0).trans HO.out.mem.c0; have HF2 : Hid (FirstWords W) := HFW.out.keep hW.out; have HT2 : Hid (Tab W) := HTAB.out.keep hW.out; clear hWr hRW hlk hz hsep hr1 hr2 hAnc hzs htx
     go_upto_region 14 with fail
     by_cases hk0 : k = 0
     ·subst hk0; have hmin : (min 0 4 : Nat) = 0 := rfl; have f0 := HF2.out 0 (by omega); obtain ⟨fw, hfw⟩ : ∃ x, x = firstW 0 := ⟨_, rfl⟩; have hwb : wordB nm 0 = fw ++ (⟨#[32]⟩ ++ nm) := by rw [hfw]; rfl
      have hfs : fw.size = 4 := by rw [hfw]; rfl
      have hss : (⟨#[32]⟩ ++ nm : ByteArray).size = 1 + nm.size := by rw [size_app]; rfl
      rw [<- hfw] at f0; obtain ⟨ln, hln⟩ : ∃ x, x = lineG (wordB nm 0) zs := ⟨_, rfl⟩; clear hfw
      have HLN : Hid (∀ X, IntsAt X A' n' zs -> Tab X -> Calls Tryz.prog 151 #[.string (fw ++ (⟨#[32]⟩ ++ nm)), .slice A' n' c'] X fun e w' => e = .returned (.string ln) /\ Below X.heap.size X w') := fun X h1 h2 => by
       have := Line_any (wordB nm 0) A' n' c' zs X h1 hn' HR2.out h2 HWS.out
       rwa [<- hln, hwb] at this
      rw [<- hln] at HTK hT1; clear hln hwb HWS HR2
      go_wp2_with fail
      refine (kind_any 0 W).mono ?_; rw [hmin]; rintro e X ⟨rfl, hX⟩; obtain rfl := hX.symm
      go_wp2_with fail
      refine (forms_src W).mono ?_; rintro e W3 ⟨rfl, hb3⟩; replace hbd := lh (isB_keep hbd.out hb3); have hs3 := hb3.size; have hgW : gbu <= W.heap.size := Nat.le_trans HGB.out.2.1 hw5; replace hB2 := lh (hB2.out.trans (hb3.mono hgW)); replace HT2 := lh (HT2.out.keep hb3); replace HZ := lh (HZ.out.keep hb3); replace B1W := lh (B1W.out.below hb3); have c0 := (B1W.out.cell 0).trans HO.out.mem.c0; clear hb3 f0
      go_wp2_with fail
      refine (kind_any 0 W3).mono ?_; rw [hmin]; rintro e X ⟨rfl, hX⟩; obtain rfl := hX.symm; obtain ⟨fk, hq1, hq2⟩ := form_0
      go_wp2_with fail
      refine (HLN.out W3 HZ.out HT2.out).mono ?_; rintro e W4 ⟨rfl, hb4⟩; replace hbd := lh (isB_keep hbd.out hb4); have hs4 := hb4.size; replace hB2 := lh (hB2.out.trans (hb4.mono (by omega))); clear hb4 c0 hq1 hq2 HLN HZ HT2 B1W
      go_wp2_with fail
      refine (writeString_b gbu gbu (Lib.byteCells tx) ln W4 hbd.out (by rw [Lib.byteCells_length]; rw [List.length_append] at hT1; have : ln.data.toList.length = ln.size := rfl; omega) (by omega)).mono ?_; rintro e W5 ⟨rfl, hbq, hb5⟩; have hs5 := hb5.size
      have R : Hid (Lib.IsBuilder 228 5 gbu gbu (Lib.byteCells (textTo nm sh T (0 + 1))) W5) := by
       show Lib.IsBuilder _ _ _ _ _ _
       rw [HTK.out]; have e2 : Lib.byteCells (tx ++ ln.data.toList) = Lib.byteCells tx ++ Lib.strCells ln := by rw [Lib.strCells_eq]; exact List.map_append
       rw [e2]; exact .inr hbq
      replace hB2 := lh (hB2.out.trans hb5); clear hbq hb5 hbd hT1; go_wp2; go_roundw
      case rel => exact ⟨0 + 1, by omega, by go_num, R, hB2, by omega⟩
      case measure => simp [intOf]; omega
     ·have hkk := hk0; obtain ⟨K, hK⟩ : ∃ K, K = min k 4 := ⟨_, rfl⟩; have hmin : (min k 4 : Nat) = K := hK.symm; have hK1 : 1 <= K /\ K <= 4 := by omega
      obtain ⟨hK1, hK2⟩ := hK1; have hK3 : (0 : Int) <= (K : Int) := by omega
      have hK4 : (K : Int) < 5 := by omega
      have f0 := HF2.out K (by omega); obtain ⟨fw, hfw⟩ : ∃ x, x = firstW K := ⟨_, rfl⟩; have hwb : wordB nm k = fw := by unfold wordB; rw [if_neg hk0, hfw, hK]
      rw [<- hfw] at f0; obtain ⟨ln, hln⟩ : ∃ x, x = lineG (wordB nm k) zs := ⟨_, rfl⟩; clear hfw hK
      have HLN : Hid (∀ X, IntsAt X A' n' zs -> Tab X -> Calls Tryz.prog 151 #[.string fw, .slice A' n' c'] X fun e w' => e = .returned (.string ln) /\ Below X.heap.size X w') := fun X h1 h2 => by
       have := Line_any (wordB nm k) A' n' c' zs X h1 hn' HR2.out h2 HWS.out
       rwa [<- hln, hwb] at this
      rw [<- hln] at HTK hT1; clear hln hwb HWS HR2
      go_wp2_with fail
      refine (kind_any k W).mono ?_; rw [hmin]; rintro e X ⟨rfl, hX⟩; obtain rfl := hX.symm
      go_wp2_with fail
      refine (forms_src W).mono ?_; rintro e W3 ⟨rfl, hb3⟩; replace hbd := lh (isB_keep hbd.out hb3); have hs3 := hb3.size; have hgW : gbu <= W.heap.size := Nat.le_trans HGB.out.2.1 hw5; replace hB2 := lh (hB2.out.trans (hb3.mono hgW)); replace HT2 := lh (HT2.out.keep hb3); replace HZ := lh (HZ.out.keep hb3); replace B1W := lh (B1W.out.below hb3); have c0 := (B1W.out.cell 0).trans HO.out.mem.c0; clear hb3 f0
      go_wp2_with fail
      refine (kind_any k W3).mono ?_; rw [hmin]; rintro e X ⟨rfl, hX⟩; obtain rfl := hX.symm; obtain ⟨fk, hq1, hq2⟩ := form_n K hK1 hK2
      go_wp2_with fail
      refine (HLN.out W3 HZ.out HT2.out).mono ?_; rintro e W4 ⟨rfl, hb4⟩; replace hbd := lh (isB_keep hbd.out hb4); have hs4 := hb4.size; replace hB2 := lh (hB2.out.trans (hb4.mono (by omega))); clear hb4 c0 hq1 hq2 HLN HZ HT2 B1W
      go_wp2_with fail
      refine (writeString_b gbu gbu (Lib.byteCells tx) ln W4 hbd.out (by rw [Lib.byteCells_length]; rw [List.length_append] at hT1; have : ln.data.toList.length = ln.size := rfl; omega) (by omega)).mono ?_; rintro e W5 ⟨rfl, hbq, hb5⟩; have hs5 := hb5.size
      have R : Hid (Lib.IsBuilder 228 5 gbu gbu (Lib.byteCells (textTo nm sh T (k + 1))) W5) := by
       show Lib.IsBuilder _ _ _ _ _ _
       rw [HTK.out]; have e2 : Lib.byteCells (tx ++ ln.data.toList) = Lib.byteCells tx ++ Lib.strCells ln := by rw [Lib.strCells_eq]; exact List.map_append
       rw [e2]; exact .inr hbq
      replace hB2 := lh (hB2.out.trans hb5); clear hbq hb5 hbd hT1; go_wp2; go_roundw
      case rel => exact ⟨k + 1, by omega, by go_num, R, hB2, by omega⟩
      case measure => simp [intOf]; omega
    ·obtain rfl : k = N := by omega
     have hW : Hid (Below w.heap.size w W) := HB.out.trans (hB2.out.mono HGB.out.1)
     go_wp2_with fail
     refine (Tryz.Builder_String_any gbu gbu (textTo nm sh T k) W hbd.out (Nat.le_trans HGB.out.2.1 hw5)).mono ?_; rintro e W6 ⟨rfl, hb6⟩; have HF : Hid (Below w.heap.size w W6) := hW.out.trans (hb6.mono HGB.out.1); obtain ⟨res, hres⟩ : ∃ r : ByteArray, r = ⟨(textTo nm sh T k).toArray⟩ := ⟨_, rfl⟩; rw [<- hres]; have HRES : Hid (res = typeB nm sh T) := by show _ = _; rw [hres, HN.out]; rfl
     clear hres hb6; go_wp2
     (try simp only [Exit.inBlock, Exit.then])
     refine bodyPost_ret (v := .tuple #[.string res, .int .i64 0]) (by simp [results, Tryz.results73, go_sem, asAddr]) rfl ?_; exact ⟨by rw [HRES.out], HF.out⟩
end Go.Proofs.YtmafmebcgmegeaaGreatDoor
