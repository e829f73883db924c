/- An append of several elements at a step of a region that draws; the copy of integers, with what it owns. -/
import Derived.Test.YtoipafnlcchmbaaGreatDoorS0
import Derived.Test.YtoipafnlcchmbaaGreatDoorT3
namespace Go.Proofs.YtoipafnlcchmbaaGreatDoor
open Go.RowKit

theorem IntsAt.cut {w : World} {g o n : Nat} {zs : List Int} (h : IntsAt w (some ⟨g, o, none⟩) n zs) (c : Nat) (hc : c ≤ n) : IntsAt w (some ⟨g, o + c, none⟩) (n - c) (zs.drop c) := by
  refine ⟨by rw [List.length_drop, h.1], fun hn => ⟨g, o + c, rfl, fun i hi => ?_⟩⟩
  obtain ⟨b, off, he, hh⟩ := h.2 (by omega)
  cases he
  have := hh (c + i) (by omega)
  rw [Nat.add_assoc, this]
  rw [List.getD_eq_getElem?_getD, List.getD_eq_getElem?_getD, List.getElem?_drop]
theorem IntsAt.head {w : World} {g o n : Nat} {zs : List Int} (h : IntsAt w (some ⟨g, o, none⟩) n zs) (c : Nat) (hc : c ≤ n) : IntsAt w (some ⟨g, o, none⟩) c (zs.take c) := by
  refine ⟨by rw [List.length_take, h.1]; omega, fun hn => ⟨g, o, rfl, fun i hi => ?_⟩⟩
  obtain ⟨b, off, he, hh⟩ := h.2 (by omega)
  cases he
  rw [hh i (by omega)]
  rw [List.getD_eq_getElem?_getD, List.getD_eq_getElem?_getD, List.getElem?_take, if_pos hi]
/-- The cells of a slice of integers, as an append wants them. -/
theorem IntsAt.news {w : World} {g o n : Nat} {zs : List Int} (h : IntsAt w (some ⟨g, o, none⟩) n zs) : ∀ j u, (zs.map (Value.int .i64))[j]? = some u → w.cell? ((⟨g, o, none⟩ : Addr).add j) = some u := fun j u hu => by
  have hj : j < n := by
    have := (List.getElem?_eq_some_iff.1 hu).1
    rw [List.length_map, h.1] at this
    exact this
  obtain ⟨b, off, he, hh⟩ := h.2 (by omega)
  cases he
  rw [addr_add, hh j hj, ← hu]
  simp [List.getD_eq_getElem?_getD, List.getElem?_eq_getElem (show j < zs.length by rw [h.1]; exact hj)]
theorem ints_one (zs : List Int) : ∀ u ∈ zs.map (Value.int .i64), u.oneCell' = true := fun u hu => by
  obtain ⟨z, _, rfl⟩ := List.mem_map.1 hu
  rfl

section
variable {P : Program}
theorem step_append_any {ops : Array Oper} {o : Oper} {a : Act} {w : World} {K : Act → World → Prop} {Q : Exit → Act → World → Prop} {E : Prop} (hgd : o.guard = none) (s x : Operand) (t : TypeId)
    (ho : o.op = .call { callee := .builtin .append, args := #[s, x], argTypes := #[t, t] })
    (base : Nat) (e : TypeId) (i : TypeInfo) (z : Value) (size bytes : Nat) (ht : P.underlying t = some (.slice e)) (hi : P.info? e = some i) (hz : i.zero = some z)
    (hsize : i.size = size) (hby : i.bytes = bytes) (hzs : z.cells.size = size) (hsz : 0 < size)
    (v : Value) (n : Nat) (xs : List Value) (hs : a.eval s = v) (hown : w.ownsRow base e size v n xs)
    (ad : Addr) (m c : Nat) (news : List Value) (hx : a.eval x = .slice (some ad) m c) (hl : news.length = m * size) (hnews : ∀ j u, news[j]? = some u → w.cell? (ad.add j) = some u) (h1 : ∀ u ∈ news, u.oneCell' = true)
    (h63 : n + m ≤ maxLen) (hbytes : (n + m) * bytes ≤ 140737488355328) (hbase : base ≤ w.heap.size)
    (h : ∀ v' w', w'.ownsRow base e size v' (n + m) (xs ++ news) → w.grownBy w' v.ownBlock → K (a.put o.dst v') w') :
    if Region.wanted o (yielded ops a.tmps) = true then Oper.wp P o a w K Q else E := by
  have hw : Region.wanted o (yielded ops a.tmps) = true := by simp [Region.wanted, hgd]
  rw [if_pos hw]
  exact wp_append_own w s x t ho base e i z size bytes ht hi hz hsize hby hzs hsz v n xs hs hown ad m c news hx hl hnews h1 h63 hbytes hbase (fun v' w' h2 h3 _ => h v' w' h2 h3)
end

set_option maxHeartbeats 1000000 in
theorem ints_own (A : Option Addr) (n c : Nat) (zs : List Int) (w : World) (hz : IntsAt w A n zs) (hA : A = none → c = 0) (hn : n ≤ 100000) :
    Calls Tryz.prog 44 #[.slice A n c] w fun e w' => ∃ v, e = .returned v ∧ OwnI w' w.heap.size v zs ∧ Below w.heap.size w w' := by
  obtain ⟨i0, hi, hz0, hz1, hz2⟩ := info_parts infoInt
  have hl := hz.1
  by_cases h0 : n = 0
  · subst h0
    obtain rfl : zs = [] := List.eq_nil_of_length_eq_zero hl
    have hown : (w.alloc (.cells #[] 3)).ownsRow w.heap.size 3 1 (.slice (some ⟨w.heap.size, 0, none⟩) 0 0) 0 [] := ⟨rfl, .inr ⟨w.heap.size, 0, #[], rfl, Nat.le_refl _, heap_alloc_new w _, Nat.le_refl _, by unfold maxLen; omega, rfl, rfl⟩⟩
    have hb : Below w.heap.size w (w.alloc (.cells #[] 3)) := (Below.refl _ _).alloc (Nat.le_refl _) _
    clear hz hl
    cases A with
    | none =>
      obtain rfl := hA rfl
      clear hA
      have HOW := Lib.hid hown
      clear hown
      go_enter Tryz.func44, Tryz.ntmps44
      go_wp2_with (at_builtin; refine wpList_append_own_none rfl _ _ 26 rfl w.heap.size 3 i0 1 Tryz.underlying26 hi _ 0 [] rfl HOW.out rfl ?_)
      go_ret
      exact ⟨_, rfl, HOW.out, hb⟩
    | some ad =>
      clear hA
      have HOW := Lib.hid hown
      clear hown
      go_enter Tryz.func44, Tryz.ntmps44
      go_wp2_with (at_builtin; refine wpList_append_arg _ rfl _ _ 26 rfl 3 i0 (.int .i64 0) 1 8 Tryz.underlying26 hi hz0 hz1 hz2 rfl (by decide) w.heap.size 0 0 0 [] rfl rfl (fun j u h => by simp at h) ad 0 c [] rfl rfl (fun j u h => by simp at h) (fun u h => by simp at h) (fun h j hj => by simp at hj) (by unfold maxLen; omega) (by omega) ?_ (fun h => by omega); intro _)
      go_ret
      exact ⟨_, rfl, HOW.out, hb⟩
  · obtain ⟨b, off, rfl, hc⟩ := hz.2 (by omega)
    have h1 : (zs.map (Value.int .i64)).length = n * 1 := by rw [List.length_map, hl, Nat.mul_one]
    have h2 : ∀ j u, (zs.map (Value.int .i64))[j]? = some u → (w.alloc (.cells #[] 3)).cell? ((⟨b, off, none⟩ : Addr).add j) = some u := fun j u hu => by
      have hj : j < n := by
        have := (List.getElem?_eq_some_iff.1 hu).1
        rw [List.length_map, hl] at this
        exact this
      have h3 := hc j hj
      rw [addr_add, (show (w.alloc (.cells #[] 3)).cell? ⟨b, off + j, none⟩ = w.cell? ⟨b, off + j, none⟩ from ((Below.refl w.heap.size w).alloc (Nat.le_refl _) _).cell (p := ⟨b, off + j, none⟩) (World.block_lt_of_cell? _ _ h3)), h3, ← hu, List.getElem?_map]
      simp [List.getD_eq_getElem?_getD, List.getElem?_eq_getElem (show j < zs.length by rw [hl]; exact hj)]
    have h3 : ∀ u ∈ zs.map (Value.int .i64), u.oneCell' = true := fun u hu => by
      obtain ⟨z, _, rfl⟩ := List.mem_map.1 hu
      rfl
    have H1 := Lib.hid h1
    have H2 := Lib.hid h2
    have H3 := Lib.hid h3
    have HL := Lib.hid hl
    clear h1 h2 h3 hz hA hc hl
    go_enter Tryz.func44, Tryz.ntmps44
    go_wp2_with (at_builtin; refine wpList_append_arg _ rfl _ _ 26 rfl 3 i0 (.int .i64 0) 1 8 Tryz.underlying26 hi hz0 hz1 hz2 rfl (by decide) w.heap.size 0 0 0 [] rfl rfl (fun j u h => by simp at h) ⟨b, off, none⟩ n c (zs.map (Value.int .i64)) rfl H1.out H2.out H3.out (fun h => by omega) (by unfold maxLen; omega) (by omega) (fun h => by omega) ?_; intro _ v' w1 hown hgrow)
    have hO : OwnI w1 (w.alloc (.cells #[] 3)).heap.size v' zs := by
      unfold OwnI
      rw [HL.out]
      have := hown
      rw [Nat.zero_add] at this
      exact this
    have hb : Below w.heap.size w w1 := Below.grown ((Below.refl _ _).alloc (Nat.le_refl _) _) hgrow (by simp) (fun k hk => by cases hk)
    have hO2 : OwnI w1 w.heap.size v' zs := hO.mono (by simp)
    clear hown hgrow hO
    go_wp2
    go_ret
    exact ⟨_, rfl, hO2, hb⟩
end Go.Proofs.YtoipafnlcchmbaaGreatDoor
