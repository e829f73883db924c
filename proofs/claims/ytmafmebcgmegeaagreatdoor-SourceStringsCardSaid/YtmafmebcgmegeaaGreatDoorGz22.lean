/- Part. -/
import Derived.Lib.SmallJoins
import Derived.Lib.AppendIntMem
import Derived.Lib.ItoaLen
import Derived.Laws.AppendOwnNone
import Derived.Test.YtmafmebcgmegeaaGreatDoorGz21
import Derived.Test.YtmafmebcgmegeaaGreatDoorGz2
import Derived.Test.YtmafmebcgmegeaaGreatDoorGz1
import Derived.Lib.AppendStr
import Derived.Shelf.Strings.Builder1
import Derived.Test.YtmafmebcgmegeaaGreatDoorGz14
import Derived.Test.YtmafmebcgmegeaaGreatDoorGz13
namespace Go.Proofs.YtmafmebcgmegeaaGreatDoor
open Go.RowKit Go.Sort
def Tab (w : World) : Prop := Lib.TabIs Tryz.prog w "internal/strconv.uint64pow10" .u64 Lib.pow10Tab
theorem gPow : Tryz.prog.globalNamed "internal/strconv.uint64pow10" = some 3 := by kernel_rfl
theorem Tab.keep {w w' : World} (h : Tab w) (hb : Below w.heap.size w w') : Tab w' := Joins.tab_stays gPow h hb (Nat.le_refl _)
def itoaB (n : Int) : ByteArray := ⟨(Lib.itoa n).toArray⟩
theorem itoa_len (n : Int) (h0 : 0 <= n) (h1 : n <= 9223372036854775807) : (Lib.itoa n).length <= 20 := by
 unfold Lib.itoa; rw [if_neg (by omega), Lib.decDigits_length]; exact Lib.nDigits_le20 _ (by omega)
theorem size_app (a b : ByteArray) : (a ++ b).size = a.size + b.size := by simp
theorem itoa_any (n : Int) (h0 : 0 <= n) (h1 : n <= 9223372036854775807) (w : World) (ht : Tab w) :
  Calls Tryz.prog 205 #[.int .i64 n] w fun e w' => e = .returned (.string (itoaB n)) /\ Below w.heap.size w w' := by
 refine (Tryz.strconv_Itoa n (by omega) h1 _ ht).mono ?_; rintro e w' ⟨rfl, k, os, rfl⟩; exact ⟨rfl, Lib.below_grow _ w (Nat.le_refl _) k os⟩
theorem enters_itoa (args : Array Value) (W : World) : (callFunc 205 args).run Tryz.prog W = .ok (.enter 205 args) W := by kernel_rfl
theorem infoS : (Tryz.prog.info? 9).map (fun i => (i.zero, i.size, i.bytes)) = some (some (.string ByteArray.empty), 1, 16) := by kernel_rfl
def StrsAt (w : World) (A : Option Addr) (n : Nat) (l : List ByteArray) : Prop :=
 l.length = n /\ (0 < n -> ∃ g o, A = some ⟨g, o, none⟩ /\ g < w.heap.size /\ ∀ i x, l[i]? = some x -> w.cell? ⟨g, o + i, none⟩ = some (.string x))
theorem StrsAt.keep {w w' : World} {A : Option Addr} {n : Nat} {l : List ByteArray} {B : Nat} (h : StrsAt w A n l) (hb : Below B w w') (hB : w.heap.size <= B) : StrsAt w' A n l := by
 refine ⟨h.1, fun hn => ?_⟩; obtain ⟨g, o, rfl, hg, hc⟩ := h.2 hn; have := hb.size; exact ⟨g, o, rfl, by omega, fun i x hx => (hb.cell (p := ⟨g, o + i, none⟩) (by show g < B; omega)).trans (hc i x hx)⟩
def OwnS (w : World) (base : Nat) (v : Value) (l : List ByteArray) : Prop := w.ownsRow base 9 1 v l.length (l.map Value.string)
theorem OwnS.form {w : World} {base : Nat} {v : Value} {l : List ByteArray} (h : OwnS w base v l) :
  ∃ A cap, v = .slice A l.length cap /\ l.length <= cap /\ (A = none -> cap = 0) /\ (0 < l.length -> ∃ g, A = some ⟨g, 0, none⟩ /\ g < w.heap.size /\ ∀ i x, l[i]? = some x -> w.cell? ⟨g, 0 + i, none⟩ = some (.string x)) := by
 have h0 := h; rcases h.2 with ⟨hv, hn⟩ | ⟨g, cap, cur, hv, hb, hg, hnc, hm, hs, ht⟩
 ·exact ⟨none, 0, by rw [hn]; exact hv, by omega, fun _ => rfl, fun h => by omega⟩
 ·subst hv; refine ⟨_, _, rfl, hnc, (fun e => by cases e), fun _ => ⟨g, rfl, lt_of_block hg, fun i x hx => ?_⟩⟩; have hi : i < l.length := (List.getElem?_eq_some_iff.1 hx).1; rw [Nat.zero_add, World.ownsRow.cellAt h0 i (by omega), List.getElem?_map, hx]
  rfl
theorem OwnS.at {w : World} {base : Nat} {v : Value} {l : List ByteArray} (h : OwnS w base v l) : ∃ A c, v = .slice A l.length c /\ (A = none -> c = 0) /\ l.length <= c /\ StrsAt w A l.length l := by
 obtain ⟨A, c, hv, hc, hA, hf⟩ := h.form; refine ⟨A, c, hv, hA, hc, rfl, fun hn => ?_⟩; obtain ⟨g, e, hg, hx⟩ := hf hn; exact ⟨g, 0, e, hg, hx⟩
def mapS (g : Int -> ByteArray) (zs : List Int) : List ByteArray := zs.map g
theorem mapS_len (g : Int -> ByteArray) (zs : List Int) : (mapS g zs).length = zs.length := by simp [mapS]
theorem mapS_snoc (g : Int -> ByteArray) (zs : List Int) (k : Nat) (h : k < zs.length) : mapS g (zs.take (k + 1)) = mapS g (zs.take k) ++ [g (zs.getD k 0)] := by
 unfold mapS; rw [List.take_succ_eq_append_getElem h, List.map_append]
 simp [List.getD_eq_getElem?_getD, List.getElem?_eq_getElem h]
set_option maxHeartbeats 2000000 in
set_option maxRecDepth 100000 in
theorem mapped_strs (F : FuncId) (g : Int -> ByteArray) (M : Int) (hM : M <= 9223372036854775807) (hE : ∀ (args : Array Value) (W : World), (callFunc F args).run Tryz.prog W = .ok (.enter F args) W)
  (hF : ∀ (x : Int) (W : World), 0 <= x -> x <= M -> Tab W -> Calls Tryz.prog F #[.int .i64 x] W fun e w' => e = .returned (.string (g x)) /\ Below W.heap.size W w')
  (A : Option Addr) (n c : Nat) (zs : List Int) (w : World) (hn : n <= 1024) (hz : IntsAt w A n zs) (hv : ∀ i, i < n -> 0 <= zs.getD i 0 /\ zs.getD i 0 <= M) (ht : Tab w) :
  Calls Tryz.prog 204 #[.slice A n c, .func (.func F) #[] #[]] w fun e w' => ∃ v, e = .returned v /\ OwnS w' w.heap.size v (mapS g zs) /\ Below w.heap.size w w' := by
 obtain ⟨i0, hi, hz0, hz1, hz2⟩ := info_parts infoS; have HZ := lh hz; have HV := lh hv; have HT := lh ht; have HF := lh hF; have HM := lh hM; clear hz hv ht hF hM
 go_enter Tryz.func204, Tryz.ntmps204
 go_wp2_with (at_make; refine wpList_make_own _ rfl _ _ 155 rfl w.heap.size 9 i0 (.string ByteArray.empty) 1 Tryz.underlying155 hi hz0 hz1 _ _ _ n rfl rfl rfl (by rw [hz2]; omega) (by unfold maxLen; omega) (by simp) ?_; intro w1 hown hg1)
 have hO : OwnS w1 w.heap.size (.slice (some ⟨w.heap.size, 0, none⟩) 0 n) (mapS g (zs.take 0)) := hown; have hB1 : Below w.heap.size w w1 := Below.grown (Below.refl _ _) hg1 (Nat.le_refl _) (fun k hk => by cases hk); clear hown hg1
 go_loopw [5, 7, 13] (fun v _ i wr => ∃ k : Nat, k <= n /\ i = .int .i64 k /\ OwnS wr w.heap.size v (mapS g (zs.take k)) /\ Below w.heap.size w wr) (fun _ _ i _ => n - (intOf i).toNat)
 case atStart => exact ⟨0, Nat.zero_le _, rfl, hO, hB1⟩
 case round =>
  clear hO hB1; obtain ⟨k, hk, rfl, hown, hb⟩ := hrel; have HB := lh hb; have HO := lh hown
  by_cases hlt : k < n
  ·obtain ⟨b, off, rfl, hcc⟩ := (HZ.out.keep hb).2 (by omega); have HTT := lh (HT.out.keep hb); have HLT := lh (mapS_snoc g zs k (by rw [HZ.out.1]; exact hlt)); have hvk := HV.out k hlt; obtain ⟨x, hx⟩ : ∃ x, x = zs.getD k 0 := ⟨_, rfl⟩; have h0 := hcc k hlt; rw [<- hx] at h0 hvk HLT; obtain ⟨hv1, hv2⟩ := hvk; have HV2 := lh hv2; have hv3 : x <= 9223372036854775807 := by have := HM.out; omega
   clear hcc hx hb hown hv2
   go_wp2_with fail
   refine (HF.out x _ hv1 HV2.out HTT.out).mono ?_; rintro e w2 ⟨rfl, hb2⟩
   have hO3 : w2.ownsRow w.heap.size 9 1 u5 k ((mapS g (zs.take k)).map Value.string) := by
    have := World.ownsRow.kept HO.out (row := none) ⟨hb2.os, hb2.tape, hb2.output, hb2.size, fun k hk _ => hb2.block k hk⟩ (Classical.em _)
    rwa [mapS_len, List.length_take, HZ.out.1, Nat.min_eq_left hk] at this
   have sz2 := hb2.size; have sz3 := HB.out.size; have HB2 : Hid (Below w.heap.size w w2) := HB.out.trans (hb2.mono HB.out.size); clear hb2; obtain ⟨s, hs⟩ : ∃ s, s = g x := ⟨_, rfl⟩; rw [<- hs] at HLT ⊢; clear hs
   go_wp2_with (at_builtin; refine wpList_append_own _ rfl _ _ 155 rfl w.heap.size 9 i0 (.string ByteArray.empty) 1 16 Tryz.underlying155 hi hz0 hz1 hz2 rfl (by decide) _ _ _ rfl (World.ownsRow.alloc hO3 _) ⟨w2.heap.size, 0, none⟩ 1 1 [.string s] rfl rfl (cell_one_new _ _ _) (by simp [Value.oneCell']) (by unfold maxLen; omega) (by omega) (by simp; omega) ?_; intro v' w3 hown' hgrow _)
   have R : OwnS w3 w.heap.size v' (mapS g (zs.take (k + 1))) := by
    unfold OwnS; rw [HLT.out, List.length_append, mapS_len, List.length_take, HZ.out.1, Nat.min_eq_left (by omega), List.map_append]; exact hown'
   have B3 : Below w.heap.size w w3 := Below.grown (HB2.out.alloc HB2.out.size _) hgrow (by simp; omega) (fun j hj => (hO3.lt j hj).1); clear hown' hgrow hO3; go_wp2; go_roundw
   case rel => exact ⟨k + 1, by omega, by go_num, R, B3⟩
   case measure => simp [intOf]; omega
  ·clear hb hown; go_wp2; go_ret; refine ⟨_, rfl, ?_, HB.out⟩; have := HO.out
   rwa [List.take_of_length_le (by rw [HZ.out.1]; omega)] at this
theorem grow_nil (n : Nat) (h1 : 1 <= n) (h2 : n <= 100000) (w : World) :
  Calls Tryz.prog 223 #[.slice none 0 0, .int .i64 n] w fun e w' => ∃ v, e = .returned v /\ OwnS w' w.heap.size v [] /\ Below w.heap.size w w' := by
 obtain ⟨i0, hi, hz0, hz1, hz2⟩ := info_parts infoS; refine (Any8.slices_Grow_grow Tryz.growS i0 _ hi hz0 (by omega) none 0 0 n [] w (Nat.le_refl _) (by omega) (by rw [hz2]; omega) (by omega) (by simp) (fun _ => rfl) (fun a e => by cases e)).mono ?_; rintro e w' ⟨rfl, rfl⟩; refine ⟨_, rfl, ?_, ((Below.refl _ w).drew).alloc (Nat.le_refl _) _⟩; have hg := grownCap_ge w (0 + n) 0 (Tryz.growS_ren.t 25); have hm := grownCap_le_maxLen w (0 + n) 0 (Tryz.growS_ren.t 25) (by unfold maxLen; omega); unfold OwnS; refine World.ownsRow_made (w := w.drew) _ _ (Nat.le_refl _) hm ?_; simp only [Nat.zero_add, Nat.sub_zero] at hg ⊢
 simp [Builtin.zeroCells, Value.cells]
 omega
theorem wpList_append_strs {ops : Array Oper} {rest : List Oper} {o : Oper} {a : Act} {Q : Exit -> Act -> World -> Prop} {w : World} (hgd : o.guard = none) (s x : Operand)
  (ho : o.op = .call { callee := .builtin .append, args := #[s, x], argTypes := #[155, 155] })
  (base : Nat) (v : Value) (l : List ByteArray) (hs : a.eval s = v) (hown : OwnS w base v l) (A : Option Addr) (m c : Nat) (l2 : List ByteArray) (hx : a.eval x = .slice A m c) (h2 : StrsAt w A m l2) (hA : A = none -> c = 0)
  (hlen : l.length + m <= 1000000) (hbase : base <= w.heap.size)
  (h : ∀ v' w', OwnS w' base v' (l ++ l2) -> w.grownBy w' v.ownBlock -> wpList Tryz.prog ops Q rest (a.put o.dst v') w') : wpList Tryz.prog ops Q (o :: rest) a w := by
 obtain ⟨i0, hi, hz0, hz1, hz2⟩ := info_parts infoS; rcases A with _ | ad
 ·have hm : m = 0 := by
   rcases Nat.eq_zero_or_pos m with h0 | h0
   ·exact h0
   ·obtain ⟨g, o, e, _⟩ := h2.2 h0
    cases e
  subst hm; have hl2 : l2 = [] := List.eq_nil_of_length_eq_zero h2.1; subst hl2; rw [hA rfl] at hx; refine wpList_append_own_none hgd s x 155 ho base 9 i0 1 Tryz.underlying155 hi v _ _ hs hown hx ?_; exact h v w (by rw [List.append_nil]; exact hown) (World.grownBy.refl w _)
 ·refine wpList_append_own w hgd s x 155 ho base 9 i0 (.string ByteArray.empty) 1 16 Tryz.underlying155 hi hz0 hz1 hz2 rfl (by decide) v _ _ hs hown ad m c (l2.map Value.string) hx (by rw [List.length_map, h2.1]; omega) ?_ ?_ (by unfold maxLen; omega) (by omega) hbase ?_
  ·intro j u hu; have hj : j < (l2.map Value.string).length := (List.getElem?_eq_some_iff.1 hu).1; rw [List.length_map, h2.1] at hj; obtain ⟨g, o', e, hg, hc⟩ := h2.2 (by omega); have e := Option.some.inj e; rw [e]; rw [List.getElem?_map] at hu
   cases hl : l2[j]? with
   | none => rw [hl] at hu; cases hu
   | some y =>
     rw [hl] at hu; simp only [Option.map_some, Option.some.injEq] at hu; subst hu; rw [Lib.add_plain]; exact hc j y hl
  ·intro u hu; obtain ⟨y, _, rfl⟩ := List.mem_map.1 hu
   rfl
  ·intro v' w' ho' hg _; refine h v' w' ?_ hg; unfold OwnS; rw [List.length_append, h2.1, List.map_append]; exact ho'
def catN (n0 n1 k : Nat) : Nat := if k = 0 then 0 else if k = 1 then n0 else n0 + n1
def catS (X0 X1 : List ByteArray) (k : Nat) : List ByteArray := if k = 0 then [] else if k = 1 then X0 else X0 ++ X1
set_option maxHeartbeats 4000000 in
set_option maxRecDepth 100000 in
theorem concat2_any (b : Nat) (A0 A1 : Option Addr) (n0 n1 c0 c1 : Nat) (X0 X1 : List ByteArray) (w : World) (h0 : w.cell? ⟨b, 0, none⟩ = some (.slice A0 n0 c0)) (h1 : w.cell? ⟨b, 1, none⟩ = some (.slice A1 n1 c1))
  (hx0 : StrsAt w A0 n0 X0) (hx1 : StrsAt w A1 n1 X1) (hc0 : A0 = none -> c0 = 0) (hc1 : A1 = none -> c1 = 0) (hn : n0 + n1 <= 100000) (hp : 1 <= n0 + n1) :
  Calls Tryz.prog 203 #[.slice (some ⟨b, 0, none⟩) 2 2] w fun e w' => ∃ v, e = .returned v /\ OwnS w' w.heap.size v (X0 ++ X1) /\ Below w.heap.size w w' := by
 have HX0 := lh hx0; have HX1 := lh hx1; have HC0 := lh hc0; have HC1 := lh hc1; have hb0 : b < w.heap.size := block_lt_of_cell h0; clear hx0 hx1 hc0 hc1
 go_enter Tryz.func203, Tryz.ntmps203
 go_wp2
 go_loop [3, 5, 11] (fun s _ i => ∃ k : Nat, k <= 2 /\ i = .int .i64 k /\ s = .int .i64 (catN n0 n1 k)) (fun _ _ i => 2 - (intOf i).toNat)
 case atStart => exact ⟨0, by omega, rfl, rfl⟩
 case round =>
  obtain ⟨k, hk, rfl, rfl⟩ := hrel; rcases (show k = 0 ∨ k = 1 ∨ k = 2 by omega) with rfl | rfl | rfl
  ·simp only [catN, if_pos]; go_wp2
   go_round
   case rel => exact ⟨1, by omega, by go_num, by simp⟩
   case measure => simp [intOf]
  ·simp only [catN, if_neg (show ¬ (1 = 0) by omega), if_pos]; go_wp2
   go_round
   case rel => exact ⟨2, by omega, by go_num, by simp⟩
   case measure => simp [intOf]
  ·simp only [catN, if_neg (show ¬ (2 = 0) by omega), if_neg (show ¬ (2 = 1) by omega)]
   go_wp2_with fail
   refine (grow_nil (n0 + n1) hp hn _).mono ?_; rintro e w1 ⟨v, rfl, hO, hb⟩; have HO := lh hO; have HB := lh hb; have hc0 := hb.cell (p := ⟨b, 0, none⟩) hb0; have hc1 := hb.cell (p := ⟨b, 1, none⟩) hb0; rw [h0] at hc0; rw [h1] at hc1; clear hO hb; go_wp2
   go_loopw [6, 8, 27] (fun v _ i wr => ∃ k : Nat, k <= 2 /\ i = .int .i64 k /\ OwnS wr w.heap.size v (catS X0 X1 k) /\ Below w.heap.size w wr) (fun _ _ i _ => 2 - (intOf i).toNat)
   case atStart => exact ⟨0, by omega, rfl, HO.out, HB.out⟩
   case round =>
    obtain ⟨k, hk, rfl, hown, hb⟩ := hrel; have HOW := lh hown; have HBW := lh hb; have g0 := hb.cell (p := ⟨b, 0, none⟩) hb0; have g1 := hb.cell (p := ⟨b, 1, none⟩) hb0; rw [h0] at g0; rw [h1] at g1; clear hown hb hc0 hc1 h0 h1; rcases (show k = 0 ∨ k = 1 ∨ k = 2 by omega) with rfl | rfl | rfl
    ·go_wp2_with (at_builtin; refine wpList_append_strs rfl _ _ rfl w.heap.size _ _ rfl HOW.out _ _ _ _ rfl (HX0.out.keep HBW.out (Nat.le_refl _)) HC0.out (by simp [catS]; omega) HBW.out.size ?_; intro v' w3 hown' hgrow)
     have R : Hid (OwnS w3 w.heap.size v' (catS X0 X1 1)) := hown'; have B3 : Hid (Below w.heap.size w w3) := Below.grown HBW.out hgrow HBW.out.size (fun j hj => (World.ownsRow.lt HOW.out j hj).1); clear hown' hgrow; go_wp2; go_roundw
     case rel => exact ⟨1, by omega, by go_num, R.out, B3.out⟩
     case measure => simp [intOf]
    ·go_wp2_with (at_builtin; refine wpList_append_strs rfl _ _ rfl w.heap.size _ _ rfl HOW.out _ _ _ _ rfl (HX1.out.keep HBW.out (Nat.le_refl _)) HC1.out (by simp [catS]; have := HX0.out.1; omega) HBW.out.size ?_; intro v' w3 hown' hgrow)
     have R : Hid (OwnS w3 w.heap.size v' (catS X0 X1 2)) := hown'; have B3 : Hid (Below w.heap.size w w3) := Below.grown HBW.out hgrow HBW.out.size (fun j hj => (World.ownsRow.lt HOW.out j hj).1); clear hown' hgrow; go_wp2; go_roundw
     case rel => exact ⟨2, by omega, by go_num, R.out, B3.out⟩
     case measure => simp [intOf]
    ·clear g0 g1; go_wp2; go_ret; exact ⟨_, rfl, HOW.out, HBW.out⟩
theorem flat_le (M : Nat) : ∀ (xs : List (List UInt8)), (∀ x ∈ xs, x.length <= M) -> xs.flatten.length <= xs.length * M
 | [], _ => by simp
 | x :: l, h => by
   have := flat_le M l (fun y hy => h y (by simp [hy])); have := h x (by simp); rw [List.flatten_cons, List.length_append, List.length_cons, Nat.succ_mul]
   omega
def joinTailB (zs : List Int) : List UInt8 := Lib.joinTail [32] (zs.map Lib.itoa)
def bareB (wd : ByteArray) (zs : List Int) : ByteArray := ⟨(Lib.join ((wd :: mapS itoaB zs).map (·.data.toList)) [32]).toArray⟩
def lineG (wd : ByteArray) (zs : List Int) : ByteArray := bareB wd zs ++ ⟨#[10]⟩
theorem bareB_list (wd : ByteArray) (zs : List Int) : (bareB wd zs).data.toList = wd.data.toList ++ joinTailB zs := by
 have e : (mapS itoaB zs).map (·.data.toList) = zs.map Lib.itoa := by
  unfold mapS; rw [List.map_map]
  rfl
 unfold bareB joinTailB; rw [List.map_cons, e, Lib.join_cons]
theorem bareB_size (wd : ByteArray) (zs : List Int) (hw : wd.size <= 1000) (hn : zs.length <= 1024) (hv : ∀ z ∈ zs, 0 <= z /\ z <= 9223372036854775807) : (bareB wd zs).size <= 30000 := by
 have e : (bareB wd zs).size = (bareB wd zs).data.toList.length := rfl; have e2 : wd.data.toList.length = wd.size := rfl; rw [e, bareB_list, List.length_append, e2]
 have h := flat_le 21 ((zs.map Lib.itoa).map ([32] ++ ·)) (fun x hx => by
  obtain ⟨y, hy, rfl⟩ := List.mem_map.1 hx; obtain ⟨z, hz, rfl⟩ := List.mem_map.1 hy; have := itoa_len z (hv z hz).1 (hv z hz).2
  simp
  omega)
 simp only [List.length_map] at h; have h2 : zs.length * 21 <= 1024 * 21 := Nat.mul_le_mul_right _ hn; have h3 : (joinTailB zs).length = ((zs.map Lib.itoa).map ([32] ++ ·)).flatten.length := rfl
 omega
set_option maxHeartbeats 4000000 in
set_option maxRecDepth 100000 in
theorem Line_any (wd : ByteArray) (A : Option Addr) (n c : Nat) (zs : List Int) (w : World) (hz : IntsAt w A n zs) (hn : n <= 1024) (hv : ∀ z ∈ zs, 0 <= z /\ z <= 9223372036854775807) (ht : Tab w) (hw : wd.size <= 1000) :
  Calls Tryz.prog 151 #[.string wd, .slice A n c] w fun e w' => e = .returned (.string (lineG wd zs)) /\ Below w.heap.size w w' := by
 have HB0 : ∀ cs t, Hid (Below w.heap.size w (w.alloc (.cells cs t))) := fun cs t => lh ((Below.refl _ _).alloc (Nat.le_refl _) _)
 have HZ := lh hz; have HV := lh hv; have HT := lh ht; have hsize := lh (bareB_size wd zs hw (by rw [hz.1]; exact hn) hv)
 have HVI : Hid (∀ i, i < n -> 0 <= zs.getD i 0 /\ zs.getD i 0 <= 9223372036854775807) := by
  show ∀ i, i < n -> _
  intro i hi; rw [<- hz.1] at hi; rw [List.getD_eq_getElem?_getD, List.getElem?_eq_getElem hi]; exact hv _ (List.getElem_mem hi)
 have HN : Hid (zs.length = n) := hz.1; obtain ⟨S, hS⟩ : ∃ S, S = bareB wd zs := ⟨_, rfl⟩; have hG : lineG wd zs = S ++ ⟨#[10]⟩ := by rw [hS]; rfl
 have k1 : ∀ w', (Op.stringOp .add S ⟨#[10]⟩).run Tryz.prog w' = .ok (.string (S ++ ⟨#[10]⟩)) w' := fun w' => run_string_add_sum w' _ _ (by rw [hS]; have := hsize.out; show (bareB wd zs).size + 1 <= _; omega)
 rw [hG]; have HSS := lh hS; clear hz hv ht hS hG hw
 go_enter Tryz.func151, Tryz.ntmps151
 go_wp2_with fail
 refine (mapped_strs _ itoaB 9223372036854775807 (Int.le_refl _) enters_itoa (fun x W h0 h1 ht => itoa_any x h0 h1 W ht) A n c zs _ hn (HZ.out.keep (HB0 _ _).out) HVI.out (HT.out.keep (HB0 _ _).out)).mono ?_; rintro e w1 ⟨v, rfl, hO, hb⟩; obtain ⟨A1, c1, rfl, hA1, hc1, hS1⟩ := hO.at; have hcell := hb.cell (p := ⟨w.heap.size, 0, none⟩) (by show w.heap.size < _; simp); have hcell : w1.cell? ⟨w.heap.size, 0, none⟩ = some (.string wd) := hcell.trans (by go_simp); have hsz := hb.size; have hlt : w.heap.size < w1.heap.size := by simp at hsz; omega
 have HB1 : Hid (Below w.heap.size w w1) := (HB0 _ _).out.trans (hb.mono (by simp)); have HA1 := lh hA1; have HS1 := lh hS1; have HC : Hid (w1.cell? ⟨w.heap.size, 0, none⟩ = some (.string wd)) := hcell; have hlen := mapS_len itoaB zs; rw [HN.out] at hlen; have HL : Hid ((mapS itoaB zs).length = n) := hlen; clear hO hb hA1 hS1 hcell hc1 hsz hlen; obtain ⟨m, hm⟩ : ∃ m, m = (mapS itoaB zs).length := ⟨_, rfl⟩; rw [<- hm]; have HM : Hid (m = n) := hm.trans HL.out; have HS2 : Hid (StrsAt w1 A1 m (mapS itoaB zs)) := by show StrsAt _ _ _ _; rw [hm]; exact HS1.out
 clear hm HS1; have HB1' : ∀ cs t, Hid (Below w1.heap.size w1 (w1.alloc (.cells cs t))) := fun cs t => lh ((Below.refl _ _).alloc (Nat.le_refl _) _)
 go_wp2_with fail
 refine (concat2_any w1.heap.size (some ⟨w.heap.size, 0, none⟩) A1 1 m 1 c1 [wd] (mapS itoaB zs) _ (by go_simp) (by go_simp) ⟨rfl, fun _ => ⟨w.heap.size, 0, rfl, by simp; omega, fun i x hx => ?_⟩⟩ (HS2.out.keep (HB1' _ _).out (Nat.le_refl _)) (fun e => by cases e) HA1.out (by rw [HM.out]; omega) (by omega)).mono ?_
 ·have hi : i = 0 := by have := (List.getElem?_eq_some_iff.1 hx).1; simp at this; exact this
  subst hi; have hx : x = wd := by simpa using hx.symm
  subst hx; rw [(HB1' _ _).out.cell (p := ⟨w.heap.size, 0 + 0, none⟩) (by show w.heap.size < _; exact hlt)]; exact HC.out
 rintro e w2 ⟨v2, rfl, hO2, hb2⟩; obtain ⟨A2, c2, rfl, hcap, hA2, hcc⟩ := hO2.form; have hpos : 0 < ([wd] ++ mapS itoaB zs).length := by simp
 obtain ⟨g, rfl, hg, hcc⟩ := hcc hpos; have HB2 : Hid (Below w.heap.size w w2) := HB1.out.trans (((HB1' _ _).out.trans (hb2.mono (by simp))).mono (by omega))
 have J : Hid (Calls Tryz.prog 202 #[.slice (some ⟨g, 0, none⟩) ([wd] ++ mapS itoaB zs).length c2, .string ⟨#[32]⟩] w2 fun e w' => e = .returned (.string S) /\ Below w2.heap.size w2 w') := by
  show Calls _ _ _ _ _
  rw [HSS.out]; have e : (bareB wd zs).size = (Lib.join ((wd :: mapS itoaB zs).map (·.data.toList)) [32]).length := by simp [bareB, ByteArray.size]
  have h3 := hsize.out; refine (Tryz.strings_Join g 0 c2 ([wd] ++ mapS itoaB zs) ⟨#[32]⟩ w2 (fun i x hx => hcc i x hx) hg ?_ hcap ?_).mono (fun e w' h => h)
  ·rw [List.length_append, HL.out]; simp; omega
  ·show (Lib.join ((wd :: mapS itoaB zs).map (·.data.toList)) [32]).length <= _
   omega
 clear hO2 hb2 hcap hA2 hcc hpos hg; obtain ⟨m2, hm2⟩ : ∃ m2, m2 = ([wd] ++ mapS itoaB zs).length := ⟨_, rfl⟩; rw [<- hm2] at J ⊢; clear hm2
 go_wp2_with fail
 refine J.out.mono ?_; rintro e w3 ⟨rfl, hb3⟩; have HB3 : Hid (Below w.heap.size w w3) := HB2.out.trans (hb3.mono HB2.out.size); clear hb3; go_wp2; go_ret; exact ⟨rfl, HB3.out⟩
def countB : ByteArray := ⟨#[101, 110, 101, 114, 103, 105, 101, 115]⟩
end Go.Proofs.YtmafmebcgmegeaaGreatDoor
namespace Go.Proofs.YtmafmebcgmegeaaGreatDoor
open Go.RowKit
theorem grow_nilI (n : Nat) (h1 : 1 <= n) (h2 : n <= 100000) (w : World) :
  Calls Tryz.prog 194 #[.slice none 0 0, .int .i64 n] w fun e w' => ∃ v, e = .returned v /\ OwnI w' w.heap.size v [] /\ Below w.heap.size w w' := by
 obtain ⟨i0, hi, hz0, hz1, hz2⟩ := info_parts infoInt; refine (Any8.slices_Grow_grow Tryz.growI i0 _ hi hz0 (by omega) none 0 0 n [] w (Nat.le_refl _) (by omega) (by rw [hz2]; omega) (by omega) (by simp) (fun _ => rfl) (fun a e => by cases e)).mono ?_; rintro e w' ⟨rfl, rfl⟩; refine ⟨_, rfl, ?_, ((Below.refl _ w).drew).alloc (Nat.le_refl _) _⟩; have hg := grownCap_ge w (0 + n) 0 (Tryz.growI_ren.t 25); have hm := grownCap_le_maxLen w (0 + n) 0 (Tryz.growI_ren.t 25) (by unfold maxLen; omega); unfold OwnI; refine World.ownsRow_made (w := w.drew) _ _ (Nat.le_refl _) hm ?_; simp only [Nat.zero_add, Nat.sub_zero] at hg ⊢
 simp [Builtin.zeroCells, Value.cells]
 omega
theorem wpList_append_ints {ops : Array Oper} {rest : List Oper} {o : Oper} {a : Act} {Q : Exit -> Act -> World -> Prop} {w : World} (hgd : o.guard = none) (s x : Operand)
  (ho : o.op = .call { callee := .builtin .append, args := #[s, x], argTypes := #[22, 22] })
  (base : Nat) (v : Value) (l : List Int) (hs : a.eval s = v) (hown : OwnI w base v l) (A : Option Addr) (m c : Nat) (l2 : List Int) (hx : a.eval x = .slice A m c) (h2 : IntsAt w A m l2) (hA : A = none -> c = 0)
  (hlen : l.length + m <= 1000000) (hbase : base <= w.heap.size)
  (h : ∀ v' w', OwnI w' base v' (l ++ l2) -> w.grownBy w' v.ownBlock -> wpList Tryz.prog ops Q rest (a.put o.dst v') w') : wpList Tryz.prog ops Q (o :: rest) a w := by
 obtain ⟨i0, hi, hz0, hz1, hz2⟩ := info_parts infoInt; rcases A with _ | ad
 ·have hm : m = 0 := by
   rcases Nat.eq_zero_or_pos m with h0 | h0
   ·exact h0
   ·obtain ⟨g, o, e, _⟩ := h2.2 h0
    cases e
  subst hm; have hl2 : l2 = [] := List.eq_nil_of_length_eq_zero h2.1; subst hl2; rw [hA rfl] at hx; refine wpList_append_own_none hgd s x 22 ho base 3 i0 1 Tryz.underlying22 hi v _ _ hs hown hx ?_; exact h v w (by rw [List.append_nil]; exact hown) (World.grownBy.refl w _)
 ·refine wpList_append_own w hgd s x 22 ho base 3 i0 (.int .i64 0) 1 8 Tryz.underlying22 hi hz0 hz1 hz2 rfl (by decide) v _ _ hs hown ad m c (l2.map (Value.int .i64)) hx (by rw [List.length_map, h2.1]; omega) ?_ ?_ (by unfold maxLen; omega) (by omega) hbase ?_
  ·intro j u hu; have hj : j < (l2.map (Value.int .i64)).length := (List.getElem?_eq_some_iff.1 hu).1; rw [List.length_map, h2.1] at hj; obtain ⟨g, o', e, hc⟩ := h2.2 (by omega); have e := Option.some.inj e; rw [e]; have hj2 : j < l2.length := by rw [h2.1]; exact hj
   rw [List.getElem?_map, List.getElem?_eq_getElem hj2] at hu; simp only [Option.map_some, Option.some.injEq] at hu; subst hu; rw [Lib.add_plain, hc j hj, List.getD_eq_getElem?_getD, List.getElem?_eq_getElem hj2]
   rfl
  ·intro u hu; obtain ⟨y, _, rfl⟩ := List.mem_map.1 hu
   rfl
  ·intro v' w' ho' hg _; refine h v' w' ?_ hg; unfold OwnI; rw [List.length_append, h2.1, List.map_append]; exact ho'
def catNI (n0 n1 k : Nat) : Nat := if k = 0 then 0 else if k = 1 then n0 else n0 + n1
def catI (X0 X1 : List Int) (k : Nat) : List Int := if k = 0 then [] else if k = 1 then X0 else X0 ++ X1
set_option maxHeartbeats 4000000 in
set_option maxRecDepth 100000 in
theorem concat2_ints (b : Nat) (A0 A1 : Option Addr) (n0 n1 c0 c1 : Nat) (X0 X1 : List Int) (w : World) (h0 : w.cell? ⟨b, 0, none⟩ = some (.slice A0 n0 c0)) (h1 : w.cell? ⟨b, 1, none⟩ = some (.slice A1 n1 c1))
  (hx0 : IntsAt w A0 n0 X0) (hx1 : IntsAt w A1 n1 X1) (hc0 : A0 = none -> c0 = 0) (hc1 : A1 = none -> c1 = 0) (hn : n0 + n1 <= 100000) (hp : 1 <= n0 + n1) :
  Calls Tryz.prog 147 #[.slice (some ⟨b, 0, none⟩) 2 2] w fun e w' => ∃ v, e = .returned v /\ OwnI w' w.heap.size v (X0 ++ X1) /\ Below w.heap.size w w' := by
 have HX0 := lh hx0; have HX1 := lh hx1; have HC0 := lh hc0; have HC1 := lh hc1; have hb0 : b < w.heap.size := block_lt_of_cell h0; clear hx0 hx1 hc0 hc1
 go_enter Tryz.func147, Tryz.ntmps147
 go_wp2
 go_loop [3, 5, 11] (fun s _ i => ∃ k : Nat, k <= 2 /\ i = .int .i64 k /\ s = .int .i64 (catNI n0 n1 k)) (fun _ _ i => 2 - (intOf i).toNat)
 case atStart => exact ⟨0, by omega, rfl, rfl⟩
 case round =>
  obtain ⟨k, hk, rfl, rfl⟩ := hrel; rcases (show k = 0 ∨ k = 1 ∨ k = 2 by omega) with rfl | rfl | rfl
  ·simp only [catNI, if_pos]; go_wp2
   go_round
   case rel => exact ⟨1, by omega, by go_num, by simp⟩
   case measure => simp [intOf]
  ·simp only [catNI, if_neg (show ¬ (1 = 0) by omega), if_pos]; go_wp2
   go_round
   case rel => exact ⟨2, by omega, by go_num, by simp⟩
   case measure => simp [intOf]
  ·simp only [catNI, if_neg (show ¬ (2 = 0) by omega), if_neg (show ¬ (2 = 1) by omega)]
   go_wp2_with fail
   refine (grow_nilI (n0 + n1) hp hn _).mono ?_; rintro e w1 ⟨v, rfl, hO, hb⟩; have HO := lh hO; have HB := lh hb; have hc0 := hb.cell (p := ⟨b, 0, none⟩) hb0; have hc1 := hb.cell (p := ⟨b, 1, none⟩) hb0; rw [h0] at hc0; rw [h1] at hc1; clear hO hb; go_wp2
   go_loopw [6, 8, 27] (fun v _ i wr => ∃ k : Nat, k <= 2 /\ i = .int .i64 k /\ OwnI wr w.heap.size v (catI X0 X1 k) /\ Below w.heap.size w wr) (fun _ _ i _ => 2 - (intOf i).toNat)
   case atStart => exact ⟨0, by omega, rfl, HO.out, HB.out⟩
   case round =>
    obtain ⟨k, hk, rfl, hown, hb⟩ := hrel; have HOW := lh hown; have HBW := lh hb; have g0 := hb.cell (p := ⟨b, 0, none⟩) hb0; have g1 := hb.cell (p := ⟨b, 1, none⟩) hb0; rw [h0] at g0; rw [h1] at g1; clear hown hb hc0 hc1 h0 h1; rcases (show k = 0 ∨ k = 1 ∨ k = 2 by omega) with rfl | rfl | rfl
    ·go_wp2_with (at_builtin; refine wpList_append_ints rfl _ _ rfl w.heap.size _ _ rfl HOW.out _ _ _ _ rfl (HX0.out.keep HBW.out) HC0.out (by simp [catI]; omega) HBW.out.size ?_; intro v' w3 hown' hgrow)
     have R : Hid (OwnI w3 w.heap.size v' (catI X0 X1 1)) := hown'; have B3 : Hid (Below w.heap.size w w3) := Below.grown HBW.out hgrow HBW.out.size (fun j hj => (World.ownsRow.lt HOW.out j hj).1); clear hown' hgrow; go_wp2; go_roundw
     case rel => exact ⟨1, by omega, by go_num, R.out, B3.out⟩
     case measure => simp [intOf]
    ·go_wp2_with (at_builtin; refine wpList_append_ints rfl _ _ rfl w.heap.size _ _ rfl HOW.out _ _ _ _ rfl (HX1.out.keep HBW.out) HC1.out (by simp [catI]; have := HX0.out.1; omega) HBW.out.size ?_; intro v' w3 hown' hgrow)
     have R : Hid (OwnI w3 w.heap.size v' (catI X0 X1 2)) := hown'; have B3 : Hid (Below w.heap.size w w3) := Below.grown HBW.out hgrow HBW.out.size (fun j hj => (World.ownsRow.lt HOW.out j hj).1); clear hown' hgrow; go_wp2; go_roundw
     case rel => exact ⟨2, by omega, by go_num, R.out, B3.out⟩
     case measure => simp [intOf]
    ·clear g0 g1; go_wp2; go_ret; exact ⟨_, rfl, HOW.out, HBW.out⟩
end Go.Proofs.YtmafmebcgmegeaaGreatDoor
namespace Go.Proofs.YtmafmebcgmegeaaGreatDoor
open Go.RowKit Go.Sort
theorem infoU8 : (Tryz.prog.info? 5).map (fun i => (i.zero, i.size, i.bytes)) = some (some (.int .u8 0), 1, 1) := by kernel_rfl
theorem infoBuilder : ∃ j, Tryz.prog.info? 228 = some j /\ j.size = 2 := by
 cases h : Tryz.prog.info? 228 with
 | none => exact absurd (show (Tryz.prog.info? 228).isSome = true by kernel_rfl) (by rw [h]; decide)
 | some j =>
   refine ⟨j, rfl, ?_⟩; have : (Tryz.prog.info? 228).map (·.size) = some 2 := by kernel_rfl
   rw [h] at this; exact Option.some.inj this
theorem noEscape_run (x : Value) (w : World) : (callFunc 221 #[x]).run Tryz.prog w = .ok (.value x) w := by kernel_rfl
theorem copyCheck_used (b : Nat) (w : World) (h : w.cell? ⟨b, 0, none⟩ = some (.pointer (some ⟨b, 0, none⟩))) :
  Calls Tryz.prog 201 #[.pointer (some ⟨b, 0, none⟩)] w fun e w' => e = .returned (.tuple #[]) /\ w' = w := by
 obtain ⟨j, hj, _⟩ := infoBuilder; have hq := Lib.run_neq_ptr_same (P := Tryz.prog) (tp := 225) w ⟨b, 0, none⟩ Tryz.underlying225 hj
 go_enter Tryz.func201, Tryz.ntmps201
 go_wp2
 go_end0
 exact ⟨rfl, rfl⟩
theorem copyCheck_fresh (b : Nat) (w : World) (h : w.cell? ⟨b, 0, none⟩ = some (.pointer none)) (hs : w.shape? b = some (228, 2)) (hf : w.frozen? ⟨b, 0, none⟩ = false) :
  Calls Tryz.prog 201 #[.pointer (some ⟨b, 0, none⟩)] w fun e w' => e = .returned (.tuple #[]) /\ w' = w.setCell ⟨b, 0, none⟩ (.pointer (some ⟨b, 0, none⟩)) := by
 obtain ⟨j, hj, hj2⟩ := infoBuilder; have hc1 := Lib.run_to_unsafe (P := Tryz.prog) w ⟨b, 0, none⟩ Tryz.underlying225 Tryz.underlying293 hj (by rw [hj2]; decide) hs (Nat.zero_lt_succ 1); have hc2 := Lib.run_from_unsafe (P := Tryz.prog) w ⟨b, 0, none⟩ Tryz.underlying293 Tryz.underlying225 hj hs (by kernel_rfl); have hc3 := noEscape_run (.pointer (some ⟨b, 0, none⟩)) w
 go_enter Tryz.func201, Tryz.ntmps201
 go_wp2
 go_end0
 exact ⟨rfl, rfl⟩
theorem copyCheck_b (B b : Nat) (bs : List Value) (w : World) (h : Lib.IsBuilder 228 5 B b bs w) :
  Calls Tryz.prog 201 #[.pointer (some ⟨b, 0, none⟩)] w fun e w' => e = .returned (.tuple #[]) /\ Lib.BuilderAt 228 5 B b (.pointer (some ⟨b, 0, none⟩)) bs w' /\ Below B w w' := by
 rcases h with h | h
 ·refine (copyCheck_fresh b w h.cell0 h.shape h.frozen0).mono ?_; rintro e w' ⟨rfl, rfl⟩; exact ⟨rfl, h.used _, (Below.refl B w).setCell (p := ⟨b, 0, none⟩) h.1 _⟩
 ·refine (copyCheck_used b w h.cell0).mono ?_; rintro e w' ⟨rfl, rfl⟩; exact ⟨rfl, h, Below.refl B _⟩
theorem own_shape {w : World} {B size n : Nat} {e : TypeId} {v : Value} {xs : List Value} (h : w.ownsRow B e size v n xs) : ∃ ao n' cap, v = .slice ao n' cap := by
 rcases h.2 with ⟨hv, _⟩ | ⟨g, cap, cur, hv, _⟩
 ·exact ⟨_, _, _, hv⟩
 ·exact ⟨_, _, _, hv⟩
set_option maxHeartbeats 1000000 in
set_option maxRecDepth 100000 in
theorem writeString_b (B b : Nat) (bs : List Value) (s : ByteArray) (w : World) (h : Lib.IsBuilder 228 5 B b bs w) (hlen : bs.length + s.size <= 140737488355328) (hB0 : B <= w.heap.size) :
  Calls Tryz.prog 150 #[.pointer (some ⟨b, 0, none⟩), .string s] w fun e w' => e = .returned (.tuple #[.int .i64 s.size, .nilIface]) /\ Lib.BuilderAt 228 5 B b (.pointer (some ⟨b, 0, none⟩)) (bs ++ Lib.strCells s) w' /\ Below B w w' := by
 obtain ⟨i0, hi, hz0, hz1, hz2⟩ := info_parts infoU8; have HC := lh (copyCheck_b B b bs w h); clear h
 go_enter Tryz.func150, Tryz.ntmps150
 go_wp2_with fail
 refine HC.out.mono ?_; rintro e w1 ⟨rfl, h1, hb1⟩; obtain ⟨hB, v, hbk, hown, hne⟩ := h1; have c1 : w1.cell? ⟨b, 1, none⟩ = some v := by rw [Lib.cell_of_heap hbk]; rfl
 have hs1 := hb1.size; have HN := lh hne; have HBK := lh hbk; have HOW := lh hown; have HB := lh hb1; clear hne hbk hown hb1
 have hlt : b < w1.heap.size := by
  rcases Nat.lt_or_ge b w1.heap.size with h' | h'
  ·exact h'
  ·have := HBK.out
   simp [Array.getElem?_eq_none h'] at this
 have HK : Hid (∀ w2 : World, w1.grownBy w2 v.ownBlock -> w2.heap[b]? = some (.cells #[.pointer (some ⟨b, 0, none⟩), v] 228 (0, 0))) := fun w2 hg => by
  rw [hg.block b hlt (fun e => HN.out e.symm)]; exact HBK.out
 go_wp2_with (at_builtin; refine Lib.wpList_append_own_string _ rfl _ _ 226 9 rfl B 5 i0 Tryz.underlying226 Tryz.underlying9 hi hz0 hz1 hz2 _ _ _ rfl HOW.out s rfl (by unfold maxLen; omega) (by omega) (by omega) ?_; intro v' w2 hown' hgrow _; obtain ⟨ao, n', cap, rfl⟩ := own_shape hown'; have hb2 := lh (HK.out w2 hgrow); have d1 : w2.cell? ⟨b, 1, none⟩ = some v := (by rw [Lib.cell_of_heap hb2.out]; rfl); have f1 : w2.frozen? ⟨b, 1, none⟩ = false := Lib.frozen_of_heap hb2.out 1; have HOW2 := lh hown'; have HGR := lh hgrow; clear hown' hgrow)
 have F1 : Hid (Lib.BuilderAt 228 5 B b (.pointer (some ⟨b, 0, none⟩)) (bs ++ Lib.strCells s) (w2.setCell ⟨b, 1, none⟩ (.slice ao n' cap))) :=
  Lib.BuilderAt.put hB hb2.out (bs' := bs ++ Lib.strCells s) (by simpa [Lib.strCells_length] using HOW2.out) (by decide)
 have F2 : Hid (Below B w (w2.setCell ⟨b, 1, none⟩ (.slice ao n' cap))) := (HB.out.grown HGR.out (by omega) (fun k hk => (HOW.out.lt k hk).1)).setCell (p := ⟨b, 1, none⟩) hB _
 (try simp only [Exit.inBlock, Exit.then])
 refine bodyPost_ret (v := .tuple #[.int .i64 s.size, .nilIface]) (by simp [results, Tryz.results150, go_sem, asAddr]) rfl ?_; exact ⟨rfl, F1.out, F2.out⟩
def formsV : Array Value := #[.int .i64 1, .int .i64 1, .int .i64 1, .func (.func 195) #[] #[], .int .i64 0, .int .i64 0, .int .i64 4096, .func (.func 196) #[] #[], .int .i64 0, .int .i64 8, .int .i64 8, .func (.func 197) #[] #[], .int .i64 0, .int .i64 0, .int .i64 4096, .func (.func 198) #[] #[], .int .i64 0, .int .i64 1, .int .i64 4096, .func (.func 199) #[] #[]]
set_option maxHeartbeats 1000000 in
set_option maxRecDepth 100000 in
theorem forms_src (w : World) : Calls Tryz.prog 149 #[] w fun e w' => e = .returned (.agg formsV) /\ Below w.heap.size w w' := by
 obtain ⟨V, hV⟩ : ∃ V, V = formsV := ⟨_, rfl⟩; rw [<- hV]; have HV : Hid (V = #[.int .i64 1, .int .i64 1, .int .i64 1, .func (.func 195) #[] #[], .int .i64 0, .int .i64 0, .int .i64 4096, .func (.func 196) #[] #[], .int .i64 0, .int .i64 8, .int .i64 8, .func (.func 197) #[] #[], .int .i64 0, .int .i64 0, .int .i64 4096, .func (.func 198) #[] #[], .int .i64 0, .int .i64 1, .int .i64 4096, .func (.func 199) #[] #[]]) := hV; clear hV
 go_enter Tryz.func149, Tryz.ntmps149
 go_upto_region 1 with fail
 obtain ⟨w1, hw1⟩ : ∃ W, W = (w.alloc (.cells #[.int .i64 0, .int .i64 0, .int .i64 0, .nilFunc, .int .i64 0, .int .i64 0, .int .i64 0, .nilFunc, .int .i64 0, .int .i64 0, .int .i64 0, .nilFunc, .int .i64 0, .int .i64 0, .int .i64 0, .nilFunc, .int .i64 0, .int .i64 0, .int .i64 0, .nilFunc] 233)) := ⟨_, rfl⟩; rw [<- hw1]; have B0 : Hid (Blk w1 (w.heap.size) 233 #[.int .i64 0, .int .i64 0, .int .i64 0, .nilFunc, .int .i64 0, .int .i64 0, .int .i64 0, .nilFunc, .int .i64 0, .int .i64 0, .int .i64 0, .nilFunc, .int .i64 0, .int .i64 0, .int .i64 0, .nilFunc, .int .i64 0, .int .i64 0, .int .i64 0, .nilFunc]) := by show Blk _ _ _ _; rw [hw1]; exact Blk.new _ _ _
 have hb1 : Below w.heap.size w w1 := by rw [hw1]; exact ((Below.refl _ _).alloc (Nat.le_refl _) _)
 obtain ⟨g0, hg0⟩ : ∃ g, g = w.heap.size := ⟨_, rfl⟩; have HGw1 : Hid (g0 = w.heap.size) := hg0; rw [<- hg0] at B0
 try rw [<- hg0]
 clear hw1 hg0; have HB : Hid (Below w.heap.size w w1) := hb1; have hlv := (B0.out.setRow V).lv Tryz.prog (T := 233) Tryz.underlying233 rfl (by rw [HV.out]; kernel_rfl); have HLV := lh hlv; have HI : Hid ((Tryz.prog.info? 233).map (·.size) = some V.size) := by show _ = _; rw [HV.out]; kernel_rfl
 have HS : Hid (V.size = 20) := by show _ = _; rw [HV.out]; rfl
 have HW : Hid (V.all (·.oneCell') = true) := by show _ = _; rw [HV.out]; simp [Value.oneCell']
 clear hb1 hlv
 go_wp2_with (refine wpList_store_row rfl 233 _ _ rfl g0 V rfl (by rw [HV.out]; rfl) 233 _ B0.out HI.out (by rw [HS.out]; rfl) HW.out ?_)
 refine bodyPost_ret (v := .agg V) (by simp [results, Tryz.results149, asAddr]; exact HLV.out) rfl ?_; exact ⟨rfl, HB.out.setRow' (by rw [HGw1.out]; exact Nat.le_refl _) _⟩
end Go.Proofs.YtmafmebcgmegeaaGreatDoor
