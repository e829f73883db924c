/- Texts QR QP QS of the proof. -/
import Derived.Test.YtmafmebcgmegeaaGreatDoorY36
import Derived.Test.YtmafmebcgmegeaaGreatDoorY2
import Derived.Lib.AppendStr
import Derived.Shelf.Strings.Builder1
import Derived.Test.YtmafmebcgmegeaaGreatDoorY35
import Derived.Test.YtmafmebcgmegeaaGreatDoorY22
import Derived.Test.YtmafmebcgmegeaaGreatDoorY21
namespace Go.Proofs.YtmafmebcgmegeaaGreatDoor
open Go.RowKit
theorem grow_nilI (n : Nat) (h1 : 1 ≤ n) (h2 : n ≤ 100000) (w : World) :
    Calls Tryz.prog 194 #[.slice none 0 0, .int .i64 n] w fun e w' => ∃ v, e = .returned v ∧ OwnI w' w.heap.size v [] ∧ Below w.heap.size w w' := by
  obtain ⟨i0, hi, hz0, hz1, hz2⟩ := info_parts infoInt
  refine (Any8.slices_Grow_grow Tryz.growI i0 _ hi hz0 (by omega) none 0 0 n [] w (Nat.le_refl _) (by omega) (by rw [hz2]; omega) (by omega) (by simp) (fun _ => rfl) (fun a e => by cases e)).mono ?_
  rintro e w' ⟨rfl, rfl⟩
  refine ⟨_, rfl, ?_, ((Below.refl _ w).drew).alloc (Nat.le_refl _) _⟩
  have hg := grownCap_ge w (0 + n) 0 (Tryz.growI_ren.t 25)
  have hm := grownCap_le_maxLen w (0 + n) 0 (Tryz.growI_ren.t 25) (by unfold maxLen; omega)
  unfold OwnI
  refine World.ownsRow_made (w := w.drew) _ _ (Nat.le_refl _) hm ?_
  simp only [Nat.zero_add, Nat.sub_zero] at hg ⊢
  simp [Builtin.zeroCells, Value.cells]
  omega
theorem wpList_append_ints {ops : Array Oper} {rest : List Oper} {o : Oper} {a : Act} {Q : Exit → Act → World → Prop} {w : World} (hgd : o.guard = none) (s x : Operand)
    (ho : o.op = .call { callee := .builtin .append, args := #[s, x], argTypes := #[22, 22] })
    (base : Nat) (v : Value) (l : List Int) (hs : a.eval s = v) (hown : OwnI w base v l) (A : Option Addr) (m c : Nat) (l2 : List Int) (hx : a.eval x = .slice A m c) (h2 : IntsAt w A m l2) (hA : A = none → c = 0)
    (hlen : l.length + m ≤ 1000000) (hbase : base ≤ w.heap.size)
    (h : ∀ v' w', OwnI w' base v' (l ++ l2) → w.grownBy w' v.ownBlock → wpList Tryz.prog ops Q rest (a.put o.dst v') w') : wpList Tryz.prog ops Q (o :: rest) a w := by
  obtain ⟨i0, hi, hz0, hz1, hz2⟩ := info_parts infoInt
  rcases A with _ | ad
  · have hm : m = 0 := by
      rcases Nat.eq_zero_or_pos m with h0 | h0
      · exact h0
      · obtain ⟨g, o, e, _⟩ := h2.2 h0
        cases e
    subst hm
    have hl2 : l2 = [] := List.eq_nil_of_length_eq_zero h2.1
    subst hl2
    rw [hA rfl] at hx
    refine wpList_append_own_none hgd s x 22 ho base 3 i0 1 Tryz.underlying22 hi v _ _ hs hown hx ?_
    exact h v w (by rw [List.append_nil]; exact hown) (World.grownBy.refl w _)
  · refine wpList_append_own w hgd s x 22 ho base 3 i0 (.int .i64 0) 1 8 Tryz.underlying22 hi hz0 hz1 hz2 rfl (by decide) v _ _ hs hown ad m c (l2.map (Value.int .i64)) hx (by rw [List.length_map, h2.1]; omega) ?_ ?_ (by unfold maxLen; omega) (by omega) hbase ?_
    · intro j u hu
      have hj : j < (l2.map (Value.int .i64)).length := (List.getElem?_eq_some_iff.1 hu).1
      rw [List.length_map, h2.1] at hj
      obtain ⟨g, o', e, hc⟩ := h2.2 (by omega)
      have e := Option.some.inj e
      rw [e]
      have hj2 : j < l2.length := by rw [h2.1]; exact hj
      rw [List.getElem?_map, List.getElem?_eq_getElem hj2] at hu
      simp only [Option.map_some, Option.some.injEq] at hu
      subst hu
      rw [Lib.add_plain, hc j hj, List.getD_eq_getElem?_getD, List.getElem?_eq_getElem hj2]
      rfl
    · intro u hu
      obtain ⟨y, _, rfl⟩ := List.mem_map.1 hu
      rfl
    · intro v' w' ho' hg _
      refine h v' w' ?_ hg
      unfold OwnI
      rw [List.length_append, h2.1, List.map_append]
      exact ho'
def catNI (n0 n1 k : Nat) : Nat := if k = 0 then 0 else if k = 1 then n0 else n0 + n1
def catI (X0 X1 : List Int) (k : Nat) : List Int := if k = 0 then [] else if k = 1 then X0 else X0 ++ X1
set_option maxHeartbeats 4000000 in
set_option maxRecDepth 100000 in
theorem concat2_ints (b : Nat) (A0 A1 : Option Addr) (n0 n1 c0 c1 : Nat) (X0 X1 : List Int) (w : World) (h0 : w.cell? ⟨b, 0, none⟩ = some (.slice A0 n0 c0)) (h1 : w.cell? ⟨b, 1, none⟩ = some (.slice A1 n1 c1))
    (hx0 : IntsAt w A0 n0 X0) (hx1 : IntsAt w A1 n1 X1) (hc0 : A0 = none → c0 = 0) (hc1 : A1 = none → c1 = 0) (hn : n0 + n1 ≤ 100000) (hp : 1 ≤ n0 + n1) :
    Calls Tryz.prog 147 #[.slice (some ⟨b, 0, none⟩) 2 2] w fun e w' => ∃ v, e = .returned v ∧ OwnI w' w.heap.size v (X0 ++ X1) ∧ Below w.heap.size w w' := by
  have HX0 := Lib.hid hx0
  have HX1 := Lib.hid hx1
  have HC0 := Lib.hid hc0
  have HC1 := Lib.hid hc1
  have hb0 : b < w.heap.size := block_lt_of_cell h0
  clear hx0 hx1 hc0 hc1
  go_enter Tryz.func147, Tryz.ntmps147
  go_wp2
  go_loop [3, 5, 11] (fun s _ i => ∃ k : Nat, k ≤ 2 ∧ i = .int .i64 k ∧ s = .int .i64 (catNI n0 n1 k)) (fun _ _ i => 2 - (intOf i).toNat)
  case atStart => exact ⟨0, by omega, rfl, rfl⟩
  case round =>
    obtain ⟨k, hk, rfl, rfl⟩ := hrel
    rcases (show k = 0 ∨ k = 1 ∨ k = 2 by omega) with rfl | rfl | rfl
    · simp only [catNI, if_pos]
      go_wp2
      go_round
      case rel => exact ⟨1, by omega, by go_num, by simp⟩
      case measure => simp [intOf]
    · simp only [catNI, if_neg (show ¬ (1 = 0) by omega), if_pos]
      go_wp2
      go_round
      case rel => exact ⟨2, by omega, by go_num, by simp⟩
      case measure => simp [intOf]
    · simp only [catNI, if_neg (show ¬ (2 = 0) by omega), if_neg (show ¬ (2 = 1) by omega)]
      go_wp2_with fail
      refine (grow_nilI (n0 + n1) hp hn _).mono ?_
      rintro e w1 ⟨v, rfl, hO, hb⟩
      have HO := Lib.hid hO
      have HB := Lib.hid hb
      have hc0 := hb.cell (p := ⟨b, 0, none⟩) hb0
      have hc1 := hb.cell (p := ⟨b, 1, none⟩) hb0
      rw [h0] at hc0
      rw [h1] at hc1
      clear hO hb
      go_wp2
      go_loopw [6, 8, 27] (fun v _ i wr => ∃ k : Nat, k ≤ 2 ∧ i = .int .i64 k ∧ OwnI wr w.heap.size v (catI X0 X1 k) ∧ Below w.heap.size w wr) (fun _ _ i _ => 2 - (intOf i).toNat)
      case atStart => exact ⟨0, by omega, rfl, HO.out, HB.out⟩
      case round =>
        obtain ⟨k, hk, rfl, hown, hb⟩ := hrel
        have HOW := Lib.hid hown
        have HBW := Lib.hid hb
        have g0 := hb.cell (p := ⟨b, 0, none⟩) hb0
        have g1 := hb.cell (p := ⟨b, 1, none⟩) hb0
        rw [h0] at g0
        rw [h1] at g1
        clear hown hb hc0 hc1 h0 h1
        rcases (show k = 0 ∨ k = 1 ∨ k = 2 by omega) with rfl | rfl | rfl
        · go_wp2_with (at_builtin; refine wpList_append_ints rfl _ _ rfl w.heap.size _ _ rfl HOW.out _ _ _ _ rfl (HX0.out.keep HBW.out) HC0.out (by simp [catI]; omega) HBW.out.size ?_; intro v' w3 hown' hgrow)
          have R : Hid (OwnI w3 w.heap.size v' (catI X0 X1 1)) := hown'
          have B3 : Hid (Below w.heap.size w w3) := Below.grown HBW.out hgrow HBW.out.size (fun j hj => (World.ownsRow.lt HOW.out j hj).1)
          clear hown' hgrow
          go_wp2
          go_roundw
          case rel => exact ⟨1, by omega, by go_num, R.out, B3.out⟩
          case measure => simp [intOf]
        · go_wp2_with (at_builtin; refine wpList_append_ints rfl _ _ rfl w.heap.size _ _ rfl HOW.out _ _ _ _ rfl (HX1.out.keep HBW.out) HC1.out (by simp [catI]; have := HX0.out.1; omega) HBW.out.size ?_; intro v' w3 hown' hgrow)
          have R : Hid (OwnI w3 w.heap.size v' (catI X0 X1 2)) := hown'
          have B3 : Hid (Below w.heap.size w w3) := Below.grown HBW.out hgrow HBW.out.size (fun j hj => (World.ownsRow.lt HOW.out j hj).1)
          clear hown' hgrow
          go_wp2
          go_roundw
          case rel => exact ⟨2, by omega, by go_num, R.out, B3.out⟩
          case measure => simp [intOf]
        · clear g0 g1
          go_wp2
          go_ret
          exact ⟨_, rfl, HOW.out, HBW.out⟩
end Go.Proofs.YtmafmebcgmegeaaGreatDoor

namespace Go.Proofs.YtmafmebcgmegeaaGreatDoor
open Go.RowKit Go.Sort
theorem infoU8 : (Tryz.prog.info? 5).map (fun i => (i.zero, i.size, i.bytes)) = some (some (.int .u8 0), 1, 1) := by kernel_rfl
theorem infoBuilder : ∃ j, Tryz.prog.info? 228 = some j ∧ j.size = 2 := by
  cases h : Tryz.prog.info? 228 with
  | none => exact absurd (show (Tryz.prog.info? 228).isSome = true by kernel_rfl) (by rw [h]; decide)
  | some j =>
    refine ⟨j, rfl, ?_⟩
    have : (Tryz.prog.info? 228).map (·.size) = some 2 := by kernel_rfl
    rw [h] at this
    exact Option.some.inj this
theorem noEscape_run (x : Value) (w : World) : (callFunc 221 #[x]).run Tryz.prog w = .ok (.value x) w := by kernel_rfl
theorem copyCheck_used (b : Nat) (w : World) (h : w.cell? ⟨b, 0, none⟩ = some (.pointer (some ⟨b, 0, none⟩))) :
    Calls Tryz.prog 201 #[.pointer (some ⟨b, 0, none⟩)] w fun e w' => e = .returned (.tuple #[]) ∧ w' = w := by
  obtain ⟨j, hj, _⟩ := infoBuilder
  have hq := Lib.run_neq_ptr_same (P := Tryz.prog) (tp := 225) w ⟨b, 0, none⟩ Tryz.underlying225 hj
  go_enter Tryz.func201, Tryz.ntmps201
  go_wp2
  go_end0
  exact ⟨rfl, rfl⟩
theorem copyCheck_fresh (b : Nat) (w : World) (h : w.cell? ⟨b, 0, none⟩ = some (.pointer none)) (hs : w.shape? b = some (228, 2)) (hf : w.frozen? ⟨b, 0, none⟩ = false) :
    Calls Tryz.prog 201 #[.pointer (some ⟨b, 0, none⟩)] w fun e w' => e = .returned (.tuple #[]) ∧ w' = w.setCell ⟨b, 0, none⟩ (.pointer (some ⟨b, 0, none⟩)) := by
  obtain ⟨j, hj, hj2⟩ := infoBuilder
  have hc1 := Lib.run_to_unsafe (P := Tryz.prog) w ⟨b, 0, none⟩ Tryz.underlying225 Tryz.underlying293 hj (by rw [hj2]; decide) hs (Nat.zero_lt_succ 1)
  have hc2 := Lib.run_from_unsafe (P := Tryz.prog) w ⟨b, 0, none⟩ Tryz.underlying293 Tryz.underlying225 hj hs (by kernel_rfl)
  have hc3 := noEscape_run (.pointer (some ⟨b, 0, none⟩)) w
  go_enter Tryz.func201, Tryz.ntmps201
  go_wp2
  go_end0
  exact ⟨rfl, rfl⟩
theorem copyCheck_b (B b : Nat) (bs : List Value) (w : World) (h : Lib.IsBuilder 228 5 B b bs w) :
    Calls Tryz.prog 201 #[.pointer (some ⟨b, 0, none⟩)] w fun e w' => e = .returned (.tuple #[]) ∧ Lib.BuilderAt 228 5 B b (.pointer (some ⟨b, 0, none⟩)) bs w' ∧ Below B w w' := by
  rcases h with h | h
  · refine (copyCheck_fresh b w h.cell0 h.shape h.frozen0).mono ?_
    rintro e w' ⟨rfl, rfl⟩
    exact ⟨rfl, h.used _, (Below.refl B w).setCell (p := ⟨b, 0, none⟩) h.1 _⟩
  · refine (copyCheck_used b w h.cell0).mono ?_
    rintro e w' ⟨rfl, rfl⟩
    exact ⟨rfl, h, Below.refl B _⟩
theorem own_shape {w : World} {B size n : Nat} {e : TypeId} {v : Value} {xs : List Value} (h : w.ownsRow B e size v n xs) : ∃ ao n' cap, v = .slice ao n' cap := by
  rcases h.2 with ⟨hv, _⟩ | ⟨g, cap, cur, hv, _⟩
  · exact ⟨_, _, _, hv⟩
  · exact ⟨_, _, _, hv⟩
set_option maxHeartbeats 1000000 in
set_option maxRecDepth 100000 in
theorem writeString_b (B b : Nat) (bs : List Value) (s : ByteArray) (w : World) (h : Lib.IsBuilder 228 5 B b bs w) (hlen : bs.length + s.size ≤ 140737488355328) (hB0 : B ≤ w.heap.size) :
    Calls Tryz.prog 150 #[.pointer (some ⟨b, 0, none⟩), .string s] w fun e w' => e = .returned (.tuple #[.int .i64 s.size, .nilIface]) ∧ Lib.BuilderAt 228 5 B b (.pointer (some ⟨b, 0, none⟩)) (bs ++ Lib.strCells s) w' ∧ Below B w w' := by
  obtain ⟨i0, hi, hz0, hz1, hz2⟩ := info_parts infoU8
  have HC := Lib.hid (copyCheck_b B b bs w h)
  clear h
  go_enter Tryz.func150, Tryz.ntmps150
  go_wp2_with fail
  refine HC.out.mono ?_
  rintro e w1 ⟨rfl, h1, hb1⟩
  obtain ⟨hB, v, hbk, hown, hne⟩ := h1
  have c1 : w1.cell? ⟨b, 1, none⟩ = some v := by rw [Lib.cell_of_heap hbk]; rfl
  have hs1 := hb1.size
  have HN := Lib.hid hne
  have HBK := Lib.hid hbk
  have HOW := Lib.hid hown
  have HB := Lib.hid hb1
  clear hne hbk hown hb1
  have hlt : b < w1.heap.size := by
    rcases Nat.lt_or_ge b w1.heap.size with h' | h'
    · exact h'
    · have := HBK.out
      simp [Array.getElem?_eq_none h'] at this
  have HK : Hid (∀ w2 : World, w1.grownBy w2 v.ownBlock → w2.heap[b]? = some (.cells #[.pointer (some ⟨b, 0, none⟩), v] 228 (0, 0))) := fun w2 hg => by
    rw [hg.block b hlt (fun e => HN.out e.symm)]
    exact HBK.out
  go_wp2_with (at_builtin; refine Lib.wpList_append_own_string _ rfl _ _ 226 9 rfl B 5 i0 Tryz.underlying226 Tryz.underlying9 hi hz0 hz1 hz2 _ _ _ rfl HOW.out s rfl (by unfold maxLen; omega) (by omega) (by omega) ?_; intro v' w2 hown' hgrow _; obtain ⟨ao, n', cap, rfl⟩ := own_shape hown'; have hb2 := Lib.hid (HK.out w2 hgrow); have d1 : w2.cell? ⟨b, 1, none⟩ = some v := (by rw [Lib.cell_of_heap hb2.out]; rfl); have f1 : w2.frozen? ⟨b, 1, none⟩ = false := Lib.frozen_of_heap hb2.out 1; have HOW2 := Lib.hid hown'; have HGR := Lib.hid hgrow; clear hown' hgrow)
  have F1 : Hid (Lib.BuilderAt 228 5 B b (.pointer (some ⟨b, 0, none⟩)) (bs ++ Lib.strCells s) (w2.setCell ⟨b, 1, none⟩ (.slice ao n' cap))) :=
    Lib.BuilderAt.put hB hb2.out (bs' := bs ++ Lib.strCells s) (by simpa [Lib.strCells_length] using HOW2.out) (by decide)
  have F2 : Hid (Below B w (w2.setCell ⟨b, 1, none⟩ (.slice ao n' cap))) := (HB.out.grown HGR.out (by omega) (fun k hk => (HOW.out.lt k hk).1)).setCell (p := ⟨b, 1, none⟩) hB _
  (try simp only [Exit.inBlock, Exit.then])
  refine bodyPost_ret (v := .tuple #[.int .i64 s.size, .nilIface]) (by simp [results, Tryz.results150, go_sem, asAddr]) rfl ?_
  exact ⟨rfl, F1.out, F2.out⟩
end Go.Proofs.YtmafmebcgmegeaaGreatDoor

namespace Go.Proofs.YtmafmebcgmegeaaGreatDoor
open Go.RowKit Go.Sort
def formsV : Array Value := #[.int .i64 1, .int .i64 1, .int .i64 1, .func (.func 195) #[] #[], .int .i64 0, .int .i64 0, .int .i64 4096, .func (.func 196) #[] #[], .int .i64 0, .int .i64 8, .int .i64 8, .func (.func 197) #[] #[], .int .i64 0, .int .i64 0, .int .i64 4096, .func (.func 198) #[] #[], .int .i64 0, .int .i64 1, .int .i64 4096, .func (.func 199) #[] #[]]
set_option maxHeartbeats 1000000 in
set_option maxRecDepth 100000 in
theorem forms_src (w : World) : Calls Tryz.prog 149 #[] w fun e w' => e = .returned (.agg formsV) ∧ Below w.heap.size w w' := by
  obtain ⟨V, hV⟩ : ∃ V, V = formsV := ⟨_, rfl⟩
  rw [← hV]
  have HV : Hid (V = #[.int .i64 1, .int .i64 1, .int .i64 1, .func (.func 195) #[] #[], .int .i64 0, .int .i64 0, .int .i64 4096, .func (.func 196) #[] #[], .int .i64 0, .int .i64 8, .int .i64 8, .func (.func 197) #[] #[], .int .i64 0, .int .i64 0, .int .i64 4096, .func (.func 198) #[] #[], .int .i64 0, .int .i64 1, .int .i64 4096, .func (.func 199) #[] #[]]) := hV
  clear hV
  go_enter Tryz.func149, Tryz.ntmps149
  go_upto_region 1 with fail
  obtain ⟨w1, hw1⟩ : ∃ W, W = (w.alloc (.cells #[.int .i64 0, .int .i64 0, .int .i64 0, .nilFunc, .int .i64 0, .int .i64 0, .int .i64 0, .nilFunc, .int .i64 0, .int .i64 0, .int .i64 0, .nilFunc, .int .i64 0, .int .i64 0, .int .i64 0, .nilFunc, .int .i64 0, .int .i64 0, .int .i64 0, .nilFunc] 233)) := ⟨_, rfl⟩
  rw [← hw1]
  have B0 : Hid (Blk w1 (w.heap.size) 233 #[.int .i64 0, .int .i64 0, .int .i64 0, .nilFunc, .int .i64 0, .int .i64 0, .int .i64 0, .nilFunc, .int .i64 0, .int .i64 0, .int .i64 0, .nilFunc, .int .i64 0, .int .i64 0, .int .i64 0, .nilFunc, .int .i64 0, .int .i64 0, .int .i64 0, .nilFunc]) := by show Blk _ _ _ _; rw [hw1]; exact Blk.new _ _ _
  have hb1 : Below w.heap.size w w1 := by rw [hw1]; exact ((Below.refl _ _).alloc (Nat.le_refl _) _)
  obtain ⟨g0, hg0⟩ : ∃ g, g = w.heap.size := ⟨_, rfl⟩
  have HGw1 : Hid (g0 = w.heap.size) := hg0
  rw [← hg0] at B0
  try rw [← hg0]
  clear hw1 hg0
  have HB : Hid (Below w.heap.size w w1) := hb1
  have hlv := (B0.out.setRow V).lv Tryz.prog (T := 233) Tryz.underlying233 rfl (by rw [HV.out]; kernel_rfl)
  have HLV := Lib.hid hlv
  have HI : Hid ((Tryz.prog.info? 233).map (·.size) = some V.size) := by show _ = _; rw [HV.out]; kernel_rfl
  have HS : Hid (V.size = 20) := by show _ = _; rw [HV.out]; rfl
  have HW : Hid (V.all (·.oneCell') = true) := by show _ = _; rw [HV.out]; simp [Value.oneCell']
  clear hb1 hlv
  go_wp2_with (refine wpList_store_row rfl 233 _ _ rfl g0 V rfl (by rw [HV.out]; rfl) 233 _ B0.out HI.out (by rw [HS.out]; rfl) HW.out ?_)
  refine bodyPost_ret (v := .agg V) (by simp [results, Tryz.results149, asAddr]; exact HLV.out) rfl ?_
  exact ⟨rfl, HB.out.setRow' (by rw [HGw1.out]; exact Nat.le_refl _) _⟩
end Go.Proofs.YtmafmebcgmegeaaGreatDoor
