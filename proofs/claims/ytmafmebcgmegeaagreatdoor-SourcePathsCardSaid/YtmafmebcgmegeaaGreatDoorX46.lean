/- Texts Qq of the proof. -/
import Derived.Test.YtmafmebcgmegeaaGreatDoorX44
import Derived.Test.YtmafmebcgmegeaaGreatDoorX45
import Derived.Test.YtmafmebcgmegeaaGreatDoorX29
namespace Go.Proofs.YtmafmebcgmegeaaGreatDoor
open Go.RowKit Go.Sort
/-- The length behind so many points. -/
def lenBy (l : List Bell.Pt) (j : Nat) : Int := if j = 0 then 0 else Bell.lenTo l (j - 1)
theorem lenBy_succ (l : List Bell.Pt) (j : Nat) : lenBy l (j + 1) = Bell.lenTo l j := by unfold lenBy; rw [if_neg (by omega), Nat.add_sub_cancel]
theorem len_step (l : List Bell.Pt) (j : Nat) : Bell.lenTo l j = lenBy l j + max ((Bell.ptAt l j).x - (Bell.ptAt l (j - 1)).x) ((Bell.ptAt l (j - 1)).x - (Bell.ptAt l j).x) + max ((Bell.ptAt l j).y - (Bell.ptAt l (j - 1)).y) ((Bell.ptAt l (j - 1)).y - (Bell.ptAt l j).y) := by
  cases j with
  | zero => simp [lenBy, Bell.lenTo]
  | succ j => simp only [lenBy, Nat.add_sub_cancel, if_neg (Nat.succ_ne_zero j), Bell.lenTo, Bell.absI]
theorem len_bound {l : List Bell.Pt} (h : ∀ i, i < l.length → (-100000 ≤ (Bell.ptAt l i).x ∧ (Bell.ptAt l i).x ≤ 100000) ∧ (-100000 ≤ (Bell.ptAt l i).y ∧ (Bell.ptAt l i).y ≤ 100000)) : ∀ i : Nat, i < l.length → 0 ≤ Bell.lenTo l i ∧ Bell.lenTo l i ≤ 400000 * (i : Int)
  | 0, _ => by simp [Bell.lenTo]
  | i + 1, hi => by
    have h1 := len_bound h i (by omega)
    have h2 := h i (by omega)
    have h3 := h (i + 1) hi
    simp only [Bell.lenTo, Bell.absI]
    omega
theorem next_of {p : List Bell.Sp} (g : Bell.GoodSp p) {L : Int} {k : Nat} (hk : k < p.length) (h1 : (Bell.spAt p k).d ≤ L) (h2 : ∀ j, j < p.length → (Bell.spAt p j).d ≤ L → j ≤ k) : Bell.nextSp p L = k + 1 := by
  have hlow : ∀ j, j < k + 1 → (Bell.spAt p j).d ≤ L := fun j hj => by
    by_cases e : j = k
    · rw [e]; exact h1
    · have := g.up j k (by omega) hk; omega
  by_cases hlast : k + 1 < p.length
  · refine nextSp_at hlast hlow ?_
    apply Int.not_le.1
    intro h
    have := h2 (k + 1) hlast h
    omega
  · rw [nextSp_none fun j hj => hlow j (by omega)]
    omega
/-- What ref.Flown returns. -/
def RefFlown (l : List Bell.Pt) (p : List Bell.Sp) (v t : Int) (e : Ending) (w' : World) : Prop :=
  (flownF l p v t ≠ 0 → e = .returned (.tuple #[.slice none 0 0, .int .i64 (flownF l p v t)])) ∧ (flownF l p v t = 0 → ∃ A c, e = .returned (.tuple #[.slice A l.length c, .int .i64 0]) ∧ TrAt w' A l.length (Bell.flown l p v t))
set_option maxHeartbeats 4000000 in
set_option maxRecDepth 100000 in
theorem refFlown_any (A B : Option Addr) (n c pn pc : Nat) (l : List Bell.Pt) (p : List Bell.Sp) (v t : Int) (w : World) (hl : PtsAt w A n l) (hp : SpsAt w B pn p) (hE : flownE l p v t = 0) :
    Calls Tryz.prog 53 #[.slice A n c, .slice B pn pc, .int .i64 v, .int .i64 t] w fun e w' => RefFlown l p v t e w' ∧ Below w.heap.size w w' := by
  obtain ⟨i0, hi, hz0, hz1, hz2⟩ := info_parts infoFixR
  obtain ⟨e1, e2, e3, e4⟩ := firstE4_z hE
  have HGP := Lib.hid (goodPath_of e1)
  have HGS := Lib.hid (goodSp_of e2)
  obtain ⟨v0, v1⟩ := withinE_zero e3
  obtain ⟨t0, t1⟩ := withinE_zero e4
  have hln : l.length = n := hl.1
  have hpl : p.length = pn := hp.1
  have hn2 : 2 ≤ n ∧ n ≤ 16 := by have h1 := HGP.out.lo; have h2 := HGP.out.hi; omega
  have hp2 : 2 ≤ pn ∧ pn ≤ 8 := by have h1 := HGS.out.1.lo; have h2 := HGS.out.2.1; omega
  obtain ⟨b, o, rfl, hcl⟩ := hl.2 (by omega)
  obtain ⟨pb, po, rfl, hcp⟩ := hp.2 (by omega)
  have HL := Lib.hid hl
  have HP := Lib.hid hp
  have HLEN := Lib.hid hln
  have HPL := Lib.hid hpl
  have HCL := Lib.hid hcl
  have HCP := Lib.hid hcp
  obtain ⟨PP, hPP⟩ : ∃ P : Ending → World → Prop, P = fun e w' => RefFlown l p v t e w' := ⟨_, rfl⟩
  have HPP : Hid (∀ e w', RefFlown l p v t e w' → PP e w') := fun e w' h => by rw [hPP]; exact h
  refine Calls.mono (R := fun e w' => PP e w' ∧ Below w.heap.size w w') ?_ (fun e w' h => by rw [hPP] at h; exact h)
  clear hPP hcl hcp hl hp hE e1 e2 e3 e4 hln hpl
  go_enter Tryz.func53, Tryz.ntmps53
  go_wp2
  go_loopw [10, 11, 12, 13, 14, 15, 16, 17, 18] (fun o L i _ _ _ _ _ _ wr => ∃ j : Nat, j ≤ n ∧ i = .int .i64 j ∧ L = .int .i64 (lenBy l j) ∧ Hid (OwnTR wr w.heap.size o ((Bell.flown l p v t).take j)) ∧ Hid (Below w.heap.size w wr)) (fun _ _ i _ _ _ _ _ _ _ => n - (intOf i).toNat)
  case atStart => exact ⟨0, Nat.zero_le _, rfl, rfl, World.ownsRow_nil _ _ _ _, Below.refl _ _⟩
  case round =>
    obtain ⟨j, hj, rfl, rfl, hown, hb⟩ := hrel
    have HB := hb
    clear hb
    by_cases hlt : j < n
    · have hst := len_step l j
      have hbd := len_bound (l := l) (fun i hi => ⟨HGP.out.x i hi, HGP.out.y i hi⟩) j (by rw [HLEN.out]; exact hlt)
      have hl0 : 0 ≤ lenBy l j := by unfold lenBy; split; exact Int.le_refl _; exact Bell.lenTo_nonneg l _
      obtain ⟨q, hq⟩ : ∃ q, q = j - 1 := ⟨_, rfl⟩
      have hqn : q < n := by omega
      rw [← hq] at hst
      obtain ⟨b', o', e', hcc⟩ := (HL.out.keep HB.out).2 (by omega)
      cases e'
      obtain ⟨a0, a1⟩ := hcc j hlt
      obtain ⟨q0, q1⟩ := hcc q hqn
      have bx := HGP.out.x j (by rw [HLEN.out]; exact hlt)
      have by' := HGP.out.y j (by rw [HLEN.out]; exact hlt)
      have bu := HGP.out.x q (by rw [HLEN.out]; exact hqn)
      have bz := HGP.out.y q (by rw [HLEN.out]; exact hqn)
      have HFA : Hid (Bell.flownAt l p v t j = ⟨t + (Bell.lenTo l j + v - 1) / v, (Bell.ptAt l j).x, (Bell.ptAt l j).y, Bell.heightAt p (Bell.lenTo l j), Bell.powerAt p (Bell.lenTo l j)⟩) := rfl
      obtain ⟨x, hx⟩ : ∃ x, x = (Bell.ptAt l j).x := ⟨_, rfl⟩
      obtain ⟨y, hy⟩ : ∃ y, y = (Bell.ptAt l j).y := ⟨_, rfl⟩
      obtain ⟨u, hu⟩ : ∃ u, u = (Bell.ptAt l q).x := ⟨_, rfl⟩
      obtain ⟨z, hz⟩ : ∃ z, z = (Bell.ptAt l q).y := ⟨_, rfl⟩
      obtain ⟨L0, hL0⟩ : ∃ L0, L0 = lenBy l j := ⟨_, rfl⟩
      obtain ⟨L, hL⟩ : ∃ L, L = Bell.lenTo l j := ⟨_, rfl⟩
      rw [← hx] at a0 bx hst HFA
      rw [← hy] at a1 by' hst HFA
      rw [← hu] at q0 bu hst
      rw [← hz] at q1 bz hst
      rw [← hL0] at hl0 hst ⊢
      rw [← hL] at hst hbd HFA
      have HLJ := Lib.hid hL
      obtain ⟨D1, hD1⟩ : ∃ D, D = max (x - u) (u - x) := ⟨_, rfl⟩
      obtain ⟨D2, hD2⟩ : ∃ D, D = max (y - z) (z - y) := ⟨_, rfl⟩
      rw [← hD1, ← hD2] at hst
      have v1' : IntKind.i64.wrap (x - u) = x - u := IntWalk.i64_in _ (by omega)
      have v2' : IntKind.i64.wrap (u - x) = u - x := IntWalk.i64_in _ (by omega)
      have v3' : IntKind.i64.wrap (y - z) = y - z := IntWalk.i64_in _ (by omega)
      have v4' : IntKind.i64.wrap (z - y) = z - y := IntWalk.i64_in _ (by omega)
      have v5' : IntKind.i64.wrap (L0 + D1) = L0 + D1 := IntWalk.i64_in _ (by omega)
      have v6' : IntKind.i64.wrap (L0 + D1 + D2) = L := by rw [IntWalk.i64_in _ (by omega)]; omega
      have r1 : ∀ ts t W, (Builtin.max_ ts t #[.int .i64 (x - u), .int .i64 (u - x)]).run Tryz.prog W = .ok (.int .i64 D1) W := fun ts t W => by rw [hD1]; exact run_max2' _ _ _ _ _ _
      have r2 : ∀ ts t W, (Builtin.max_ ts t #[.int .i64 (y - z), .int .i64 (z - y)]).run Tryz.prog W = .ok (.int .i64 D2) W := fun ts t W => by rw [hD2]; exact run_max2' _ _ _ _ _ _
      have hmx : ∀ ts t W, (Builtin.max_ ts t #[.int .i64 0, .int .i64 ((j : Int) - 1)]).run Tryz.prog W = .ok (.int .i64 (q : Int)) W := fun ts t W => by
        rw [run_max2']; congr 2; omega
      have wj : IntKind.i64.wrap ((j : Int) - 1) = (j : Int) - 1 := IntWalk.i64_in _ (by omega)
      have pl : (j : Int) < (n : Int) := by omega
      have pl2 : (q : Int) < (n : Int) := by omega
      have HBD := Lib.hid hbd
      have HOWN := Lib.hid hown.out
      have C0 := Lib.hid a0
      have C1 := Lib.hid a1
      clear hx hy hu hz hL0 hL hD1 hD2 hst hl0 bx by' bu bz hbd hcc hq hown a0 a1
      go_upto_region 7 with fail
      obtain ⟨wa, hwa⟩ : ∃ W, W = (wr.alloc (.cells #[.int .i64 u, .int .i64 z] 30)) := ⟨_, rfl⟩
      rw [← hwa]
      have BX : Hid (Blk wa (wr.heap.size) 30 #[.int .i64 u, .int .i64 z]) := by show Blk _ _ _ _; rw [hwa]; exact Blk.new _ _ _
      have hb : Below wr.heap.size wr wa := by rw [hwa]; exact ((Below.refl _ _).alloc (Nat.le_refl _) _)
      obtain ⟨g13, hg13⟩ : ∃ g, g = wr.heap.size := ⟨_, rfl⟩
      have HGwa : Hid (g13 = wr.heap.size) := hg13
      rw [← hg13] at BX
      try rw [← hg13]
      clear hwa hg13
      replace C0 := Lib.hid (cell_kept hb C0.out)
      replace C1 := Lib.hid (cell_kept hb C1.out)
      replace HOWN := Lib.hid (row_ext HOWN.out hb)
      replace HB := Lib.hid (HB.out.trans (hb.mono HB.out.size))
      clear hb
      clear q0 q1 hmx wj pl2
      refine wp_region_grow 37 (by kernel_rfl) (by kernel_rfl) [GR.eq (.int .i64 L0), GR.eq (.slice (some ⟨b, o, none⟩) n c), GR.eq (.int .i64 j), GR.eq (.pointer (some ⟨b, o + j * 2, none⟩)), GR.eq (.pointer (some ⟨b, o + j * 2, none⟩)), GR.eq (.int .i64 x), GR.eq (.pointer (some ⟨g13, 0, none⟩)), GR.eq (.int .i64 u), GR.eq (.int .i64 (x - u)), GR.eq (.pointer (some ⟨g13, 0, none⟩)), GR.eq (.int .i64 u), GR.eq (.slice (some ⟨b, o, none⟩) n c), GR.eq (.int .i64 j), GR.eq (.pointer (some ⟨b, o + j * 2, none⟩)), GR.eq (.pointer (some ⟨b, o + j * 2, none⟩)), GR.eq (.int .i64 x), GR.eq (.int .i64 (u - x)), GR.eq (.int .i64 D1), GR.eq (.int .i64 (L0 + D1)), GR.eq (.slice (some ⟨b, o, none⟩) n c), GR.eq (.int .i64 j), GR.eq (.pointer (some ⟨b, o + j * 2, none⟩)), GR.eq (.pointer (some ⟨b, o + j * 2 + 1, none⟩)), GR.eq (.int .i64 y), GR.eq (.pointer (some ⟨g13, 1, none⟩)), GR.eq (.int .i64 z), GR.eq (.int .i64 (y - z)), GR.eq (.pointer (some ⟨g13, 1, none⟩)), GR.eq (.int .i64 z), GR.eq (.slice (some ⟨b, o, none⟩) n c), GR.eq (.int .i64 j), GR.eq (.pointer (some ⟨b, o + j * 2, none⟩)), GR.eq (.pointer (some ⟨b, o + j * 2 + 1, none⟩)), GR.eq (.int .i64 y), GR.eq (.int .i64 (z - y)), GR.eq (.int .i64 D2), GR.eq (.int .i64 L)] 177 rfl (by kernel_rfl) ?_ ?_
      · refine ⟨?_, ?_, ?_, ?_, ?_, ?_, ?_, ?_, ?_, ?_, ?_, ?_, ?_, ?_, ?_, ?_, ?_, ?_, ?_, ?_, ?_, ?_, ?_, ?_, ?_, ?_, ?_, ?_, ?_, ?_, ?_, ?_, ?_, ?_, ?_, ?_, ?_, trivial⟩
        · intro a W hE hd ho
          have e11 : a.tmps[11]?.getD undef = .int .i64 L0 := ho 11 (by kernel_rfl)
          exact gs_same (v := .int .i64 L0) (by go_simp) rfl
        · intro a W hE hd ho
          have e0 : a.tmps[0]?.getD undef = .slice (some ⟨b, o, none⟩) n c := ho 0 (by kernel_rfl)
          exact gs_same (v := .slice (some ⟨b, o, none⟩) n c) (by go_simp) rfl
        · intro a W hE hd ho
          have e12 : a.tmps[12]?.getD undef = .int .i64 j := ho 12 (by kernel_rfl)
          exact gs_same (v := .int .i64 j) (by go_simp) rfl
        · intro a W hE hd ho
          have e33 : a.tmps[33]?.getD undef = .slice (some ⟨b, o, none⟩) n c := hd 1 33 (by kernel_rfl) (by kernel_rfl)
          have e34 : a.tmps[34]?.getD undef = .int .i64 j := hd 2 34 (by kernel_rfl) (by kernel_rfl)
          exact gs_same (v := .pointer (some ⟨b, o + j * 2, none⟩)) (by go_simp) rfl
        · intro a W hE hd ho
          have e35 : a.tmps[35]?.getD undef = .pointer (some ⟨b, o + j * 2, none⟩) := hd 3 35 (by kernel_rfl) (by kernel_rfl)
          exact gs_same (v := .pointer (some ⟨b, o + j * 2, none⟩)) (by go_simp) rfl
        · intro a W hE hd ho
          have e36 : a.tmps[36]?.getD undef = .pointer (some ⟨b, o + j * 2, none⟩) := hd 4 36 (by kernel_rfl) (by kernel_rfl)
          have z0 := cell_kept hE C0.out
          exact gs_same (v := .int .i64 x) (by go_simp) rfl
        · intro a W hE hd ho
          have e13 : a.tmps[13]?.getD undef = .pointer (some ⟨g13, 0, none⟩) := ho 13 (by kernel_rfl)
          exact gs_same (v := .pointer (some ⟨g13, 0, none⟩)) (by go_simp) rfl
        · intro a W hE hd ho
          have e38 : a.tmps[38]?.getD undef = .pointer (some ⟨g13, 0, none⟩) := hd 6 38 (by kernel_rfl) (by kernel_rfl)
          have k0 := (BX.out.below hE).cell 0
          simp only [List.getElem?_toArray, List.getElem?_cons_zero, List.getElem?_cons_succ] at k0
          exact gs_same (v := .int .i64 u) (by go_simp) rfl
        · intro a W hE hd ho
          have e37 : a.tmps[37]?.getD undef = .int .i64 x := hd 5 37 (by kernel_rfl) (by kernel_rfl)
          have e39 : a.tmps[39]?.getD undef = .int .i64 u := hd 7 39 (by kernel_rfl) (by kernel_rfl)
          exact gs_same (v := .int .i64 (x - u)) (by go_simp) rfl
        · intro a W hE hd ho
          have e13 : a.tmps[13]?.getD undef = .pointer (some ⟨g13, 0, none⟩) := ho 13 (by kernel_rfl)
          exact gs_same (v := .pointer (some ⟨g13, 0, none⟩)) (by go_simp) rfl
        · intro a W hE hd ho
          have e41 : a.tmps[41]?.getD undef = .pointer (some ⟨g13, 0, none⟩) := hd 9 41 (by kernel_rfl) (by kernel_rfl)
          have k0 := (BX.out.below hE).cell 0
          simp only [List.getElem?_toArray, List.getElem?_cons_zero, List.getElem?_cons_succ] at k0
          exact gs_same (v := .int .i64 u) (by go_simp) rfl
        · intro a W hE hd ho
          have e0 : a.tmps[0]?.getD undef = .slice (some ⟨b, o, none⟩) n c := ho 0 (by kernel_rfl)
          exact gs_same (v := .slice (some ⟨b, o, none⟩) n c) (by go_simp) rfl
        · intro a W hE hd ho
          have e12 : a.tmps[12]?.getD undef = .int .i64 j := ho 12 (by kernel_rfl)
          exact gs_same (v := .int .i64 j) (by go_simp) rfl
        · intro a W hE hd ho
          have e43 : a.tmps[43]?.getD undef = .slice (some ⟨b, o, none⟩) n c := hd 11 43 (by kernel_rfl) (by kernel_rfl)
          have e44 : a.tmps[44]?.getD undef = .int .i64 j := hd 12 44 (by kernel_rfl) (by kernel_rfl)
          exact gs_same (v := .pointer (some ⟨b, o + j * 2, none⟩)) (by go_simp) rfl
        · intro a W hE hd ho
          have e45 : a.tmps[45]?.getD undef = .pointer (some ⟨b, o + j * 2, none⟩) := hd 13 45 (by kernel_rfl) (by kernel_rfl)
          exact gs_same (v := .pointer (some ⟨b, o + j * 2, none⟩)) (by go_simp) rfl
        · intro a W hE hd ho
          have e46 : a.tmps[46]?.getD undef = .pointer (some ⟨b, o + j * 2, none⟩) := hd 14 46 (by kernel_rfl) (by kernel_rfl)
          have z0 := cell_kept hE C0.out
          exact gs_same (v := .int .i64 x) (by go_simp) rfl
        · intro a W hE hd ho
          have e42 : a.tmps[42]?.getD undef = .int .i64 u := hd 10 42 (by kernel_rfl) (by kernel_rfl)
          have e47 : a.tmps[47]?.getD undef = .int .i64 x := hd 15 47 (by kernel_rfl) (by kernel_rfl)
          exact gs_same (v := .int .i64 (u - x)) (by go_simp) rfl
        · intro a W hE hd ho
          have e40 : a.tmps[40]?.getD undef = .int .i64 (x - u) := hd 8 40 (by kernel_rfl) (by kernel_rfl)
          have e48 : a.tmps[48]?.getD undef = .int .i64 (u - x) := hd 16 48 (by kernel_rfl) (by kernel_rfl)
          exact gs_same (v := .int .i64 D1) (by go_simp) rfl
        · intro a W hE hd ho
          have e32 : a.tmps[32]?.getD undef = .int .i64 L0 := hd 0 32 (by kernel_rfl) (by kernel_rfl)
          have e49 : a.tmps[49]?.getD undef = .int .i64 D1 := hd 17 49 (by kernel_rfl) (by kernel_rfl)
          exact gs_same (v := .int .i64 (L0 + D1)) (by go_simp) rfl
        · intro a W hE hd ho
          have e0 : a.tmps[0]?.getD undef = .slice (some ⟨b, o, none⟩) n c := ho 0 (by kernel_rfl)
          exact gs_same (v := .slice (some ⟨b, o, none⟩) n c) (by go_simp) rfl
        · intro a W hE hd ho
          have e12 : a.tmps[12]?.getD undef = .int .i64 j := ho 12 (by kernel_rfl)
          exact gs_same (v := .int .i64 j) (by go_simp) rfl
        · intro a W hE hd ho
          have e51 : a.tmps[51]?.getD undef = .slice (some ⟨b, o, none⟩) n c := hd 19 51 (by kernel_rfl) (by kernel_rfl)
          have e52 : a.tmps[52]?.getD undef = .int .i64 j := hd 20 52 (by kernel_rfl) (by kernel_rfl)
          exact gs_same (v := .pointer (some ⟨b, o + j * 2, none⟩)) (by go_simp) rfl
        · intro a W hE hd ho
          have e53 : a.tmps[53]?.getD undef = .pointer (some ⟨b, o + j * 2, none⟩) := hd 21 53 (by kernel_rfl) (by kernel_rfl)
          exact gs_same (v := .pointer (some ⟨b, o + j * 2 + 1, none⟩)) (by go_simp) rfl
        · intro a W hE hd ho
          have e54 : a.tmps[54]?.getD undef = .pointer (some ⟨b, o + j * 2 + 1, none⟩) := hd 22 54 (by kernel_rfl) (by kernel_rfl)
          have z1 := cell_kept hE C1.out
          exact gs_same (v := .int .i64 y) (by go_simp) rfl
        · intro a W hE hd ho
          have e13 : a.tmps[13]?.getD undef = .pointer (some ⟨g13, 0, none⟩) := ho 13 (by kernel_rfl)
          exact gs_same (v := .pointer (some ⟨g13, 1, none⟩)) (by go_simp) rfl
        · intro a W hE hd ho
          have e56 : a.tmps[56]?.getD undef = .pointer (some ⟨g13, 1, none⟩) := hd 24 56 (by kernel_rfl) (by kernel_rfl)
          have k1 := (BX.out.below hE).cell 1
          simp only [List.getElem?_toArray, List.getElem?_cons_zero, List.getElem?_cons_succ] at k1
          exact gs_same (v := .int .i64 z) (by go_simp) rfl
        · intro a W hE hd ho
          have e55 : a.tmps[55]?.getD undef = .int .i64 y := hd 23 55 (by kernel_rfl) (by kernel_rfl)
          have e57 : a.tmps[57]?.getD undef = .int .i64 z := hd 25 57 (by kernel_rfl) (by kernel_rfl)
          exact gs_same (v := .int .i64 (y - z)) (by go_simp) rfl
        · intro a W hE hd ho
          have e13 : a.tmps[13]?.getD undef = .pointer (some ⟨g13, 0, none⟩) := ho 13 (by kernel_rfl)
          exact gs_same (v := .pointer (some ⟨g13, 1, none⟩)) (by go_simp) rfl
        · intro a W hE hd ho
          have e59 : a.tmps[59]?.getD undef = .pointer (some ⟨g13, 1, none⟩) := hd 27 59 (by kernel_rfl) (by kernel_rfl)
          have k1 := (BX.out.below hE).cell 1
          simp only [List.getElem?_toArray, List.getElem?_cons_zero, List.getElem?_cons_succ] at k1
          exact gs_same (v := .int .i64 z) (by go_simp) rfl
        · intro a W hE hd ho
          have e0 : a.tmps[0]?.getD undef = .slice (some ⟨b, o, none⟩) n c := ho 0 (by kernel_rfl)
          exact gs_same (v := .slice (some ⟨b, o, none⟩) n c) (by go_simp) rfl
        · intro a W hE hd ho
          have e12 : a.tmps[12]?.getD undef = .int .i64 j := ho 12 (by kernel_rfl)
          exact gs_same (v := .int .i64 j) (by go_simp) rfl
        · intro a W hE hd ho
          have e61 : a.tmps[61]?.getD undef = .slice (some ⟨b, o, none⟩) n c := hd 29 61 (by kernel_rfl) (by kernel_rfl)
          have e62 : a.tmps[62]?.getD undef = .int .i64 j := hd 30 62 (by kernel_rfl) (by kernel_rfl)
          exact gs_same (v := .pointer (some ⟨b, o + j * 2, none⟩)) (by go_simp) rfl
        · intro a W hE hd ho
          have e63 : a.tmps[63]?.getD undef = .pointer (some ⟨b, o + j * 2, none⟩) := hd 31 63 (by kernel_rfl) (by kernel_rfl)
          exact gs_same (v := .pointer (some ⟨b, o + j * 2 + 1, none⟩)) (by go_simp) rfl
        · intro a W hE hd ho
          have e64 : a.tmps[64]?.getD undef = .pointer (some ⟨b, o + j * 2 + 1, none⟩) := hd 32 64 (by kernel_rfl) (by kernel_rfl)
          have z1 := cell_kept hE C1.out
          exact gs_same (v := .int .i64 y) (by go_simp) rfl
        · intro a W hE hd ho
          have e60 : a.tmps[60]?.getD undef = .int .i64 z := hd 28 60 (by kernel_rfl) (by kernel_rfl)
          have e65 : a.tmps[65]?.getD undef = .int .i64 y := hd 33 65 (by kernel_rfl) (by kernel_rfl)
          exact gs_same (v := .int .i64 (z - y)) (by go_simp) rfl
        · intro a W hE hd ho
          have e58 : a.tmps[58]?.getD undef = .int .i64 (y - z) := hd 26 58 (by kernel_rfl) (by kernel_rfl)
          have e66 : a.tmps[66]?.getD undef = .int .i64 (z - y) := hd 34 66 (by kernel_rfl) (by kernel_rfl)
          exact gs_same (v := .int .i64 D2) (by go_simp) rfl
        · intro a W hE hd ho
          have e50 : a.tmps[50]?.getD undef = .int .i64 (L0 + D1) := hd 18 50 (by kernel_rfl) (by kernel_rfl)
          have e67 : a.tmps[67]?.getD undef = .int .i64 D2 := hd 35 67 (by kernel_rfl) (by kernel_rfl)
          exact gs_same (v := .int .i64 L) (by go_simp) rfl
      intro vs wb hE hR
      have y0 : vs 0 = .int .i64 L0 := hR 0 (by omega)
      have y1 : vs 1 = .slice (some ⟨b, o, none⟩) n c := hR 1 (by omega)
      have y2 : vs 2 = .int .i64 j := hR 2 (by omega)
      have y3 : vs 3 = .pointer (some ⟨b, o + j * 2, none⟩) := hR 3 (by omega)
      have y4 : vs 4 = .pointer (some ⟨b, o + j * 2, none⟩) := hR 4 (by omega)
      have y5 : vs 5 = .int .i64 x := hR 5 (by omega)
      have y6 : vs 6 = .pointer (some ⟨g13, 0, none⟩) := hR 6 (by omega)
      have y7 : vs 7 = .int .i64 u := hR 7 (by omega)
      have y8 : vs 8 = .int .i64 (x - u) := hR 8 (by omega)
      have y9 : vs 9 = .pointer (some ⟨g13, 0, none⟩) := hR 9 (by omega)
      have y10 : vs 10 = .int .i64 u := hR 10 (by omega)
      have y11 : vs 11 = .slice (some ⟨b, o, none⟩) n c := hR 11 (by omega)
      have y12 : vs 12 = .int .i64 j := hR 12 (by omega)
      have y13 : vs 13 = .pointer (some ⟨b, o + j * 2, none⟩) := hR 13 (by omega)
      have y14 : vs 14 = .pointer (some ⟨b, o + j * 2, none⟩) := hR 14 (by omega)
      have y15 : vs 15 = .int .i64 x := hR 15 (by omega)
      have y16 : vs 16 = .int .i64 (u - x) := hR 16 (by omega)
      have y17 : vs 17 = .int .i64 D1 := hR 17 (by omega)
      have y18 : vs 18 = .int .i64 (L0 + D1) := hR 18 (by omega)
      have y19 : vs 19 = .slice (some ⟨b, o, none⟩) n c := hR 19 (by omega)
      have y20 : vs 20 = .int .i64 j := hR 20 (by omega)
      have y21 : vs 21 = .pointer (some ⟨b, o + j * 2, none⟩) := hR 21 (by omega)
      have y22 : vs 22 = .pointer (some ⟨b, o + j * 2 + 1, none⟩) := hR 22 (by omega)
      have y23 : vs 23 = .int .i64 y := hR 23 (by omega)
      have y24 : vs 24 = .pointer (some ⟨g13, 1, none⟩) := hR 24 (by omega)
      have y25 : vs 25 = .int .i64 z := hR 25 (by omega)
      have y26 : vs 26 = .int .i64 (y - z) := hR 26 (by omega)
      have y27 : vs 27 = .pointer (some ⟨g13, 1, none⟩) := hR 27 (by omega)
      have y28 : vs 28 = .int .i64 z := hR 28 (by omega)
      have y29 : vs 29 = .slice (some ⟨b, o, none⟩) n c := hR 29 (by omega)
      have y30 : vs 30 = .int .i64 j := hR 30 (by omega)
      have y31 : vs 31 = .pointer (some ⟨b, o + j * 2, none⟩) := hR 31 (by omega)
      have y32 : vs 32 = .pointer (some ⟨b, o + j * 2 + 1, none⟩) := hR 32 (by omega)
      have y33 : vs 33 = .int .i64 y := hR 33 (by omega)
      have y34 : vs 34 = .int .i64 (z - y) := hR 34 (by omega)
      have y35 : vs 35 = .int .i64 D2 := hR 35 (by omega)
      have y36 : vs 36 = .int .i64 L := hR 36 (by omega)
      simp only [List.range, List.range.loop, List.foldl_cons, List.foldl_nil, y0, y1, y2, y3, y4, y5, y6, y7, y8, y9, y10, y11, y12, y13, y14, y15, y16, y17, y18, y19, y20, y21, y22, y23, y24, y25, y26, y27, y28, y29, y30, y31, y32, y33, y34, y35, y36, List.drop_succ_cons, List.drop_zero]
      simp only [dstAt, List.getElem?_toArray, List.getElem?_cons_zero, List.getElem?_cons_succ, Option.bind_some, Act.put, List.setIfInBounds_toArray, List.set_cons_zero, List.set_cons_succ]
      clear y0 y1 y2 y3 y4 y5 y6 y7 y8 y9 y10 y11 y12 y13 y14 y15 y16 y17 y18 y19 y20 y21 y22 y23 y24 y25 y26 y27 y28 y29 y30 y31 y32 y33 y34 y35 y36 hR
      go_wp2_with fail
      have hb := hE.below
      replace C0 := Lib.hid (cell_kept hE C0.out)
      replace C1 := Lib.hid (cell_kept hE C1.out)
      replace HOWN := Lib.hid (row_ext HOWN.out hE)
      replace HB := Lib.hid (HB.out.trans (hb.mono HB.out.size))
      clear hb
      clear hE BX v1' v2' v3' v4' v5' v6' r1 r2
      have HPB := Lib.hid (HP.out.keep HB.out)
      (try go_wp2)
      go_loopw [14, 15] (fun kk jj w2 => ∃ i k : Nat, i ≤ pn ∧ jj = .int .i64 i ∧ kk = .int .i64 k ∧ Hid (k < pn ∧ (Bell.spAt p k).d ≤ L ∧ ∀ a, a < i → (Bell.spAt p a).d ≤ L → a ≤ k) ∧ w2 = wb) (fun _ jj _ => pn - (intOf jj).toNat)
      case atStart => exact ⟨0, 0, Nat.zero_le _, rfl, rfl, ⟨by omega, by rw [HGS.out.1.zero]; exact HBD.out.1, fun a ha => by omega⟩, rfl⟩
      case round =>
        obtain ⟨i, k, hi, rfl, rfl, hk, hw⟩ := hrel
        obtain rfl := hw.symm
        by_cases hip : i < pn
        · obtain ⟨b', o', e', hcc⟩ := HPB.out.2 (by omega)
          cases e'
          obtain ⟨a0, _, _⟩ := hcc i hip
          obtain ⟨d, hd⟩ : ∃ d, d = (Bell.spAt p i).d := ⟨_, rfl⟩
          rw [← hd] at a0
          have HD := Lib.hid hd
          have pi : (i : Int) < (pn : Int) := by omega
          clear hcc hd
          by_cases hdl : d ≤ L
          · go_wp2
            go_roundw
            case rel =>
              refine ⟨i + 1, i, by omega, by go_num, rfl, ⟨hip, by rw [← HD.out]; exact hdl, fun a ha _ => by omega⟩, by first | rfl | trivial⟩
            case measure => simp [intOf]; omega
          · go_wp2
            go_roundw
            case rel =>
              refine ⟨i + 1, k, by omega, by go_num, rfl, ⟨hk.out.1, hk.out.2.1, fun a ha hle => ?_⟩, by first | rfl | trivial⟩
              by_cases hai : a < i
              · exact hk.out.2.2 a hai hle
              · obtain rfl : a = i := by omega
                rw [← HD.out] at hle; omega
            case measure => simp [intOf]; omega
        · obtain rfl : i = pn := by omega
          obtain ⟨k1, k2, k3⟩ := hk.out
          have HN : Hid (Bell.nextSp p L = k + 1) := next_of HGS.out.1 (by rw [HPL.out]; exact k1) k2 (fun a ha => k3 a (by rw [← HPL.out]; exact ha))
          obtain ⟨b', o', e', hcc⟩ := HPB.out.2 (by omega)
          cases e'
          have HCC := Lib.hid hcc
          obtain ⟨a0, a1, a2⟩ := hcc k k1
          have bh := HGS.out.1.h0 k (by rw [HPL.out]; exact k1)
          have bp := HGS.out.1.p0 k (by rw [HPL.out]; exact k1)
          have hdk0 : 0 ≤ (Bell.spAt p k).d := by
            rcases Nat.eq_zero_or_pos k with h | h
            · rw [h, HGS.out.1.zero]; exact Int.le_refl _
            · have h2 := HGS.out.1.up 0 k h (by rw [HPL.out]; exact k1)
              rw [HGS.out.1.zero] at h2; omega
          obtain ⟨dk, hdk⟩ : ∃ d, d = (Bell.spAt p k).d := ⟨_, rfl⟩
          obtain ⟨hh, hhh⟩ : ∃ d, d = (Bell.spAt p k).h := ⟨_, rfl⟩
          obtain ⟨pp, hpp⟩ : ∃ d, d = (Bell.spAt p k).p := ⟨_, rfl⟩
          rw [← hdk] at a0 k2 hdk0
          have HDK0 := Lib.hid hdk0
          clear hdk0
          rw [← hhh] at a1 bh
          rw [← hpp] at a2 bp
          have E0 := Lib.hid a0
          have E1 := Lib.hid a1
          have E2 := Lib.hid a2
          have HDK := Lib.hid hdk
          have HHH := Lib.hid hhh
          have HPPK := Lib.hid hpp
          have HBH := Lib.hid bh
          have HBP := Lib.hid bp
          have HK2 : Hid (dk ≤ L) := k2
          obtain ⟨l0, l1⟩ := HBD.out
          have lL : L ≤ 6400000 := by omega
          have pk : (k : Int) < (i : Int) := by omega
          have HCE := Lib.hid (fun W => refCeil_gen L v W ⟨l0, by omega⟩ ⟨v0, v1⟩)
          have q1 : 0 ≤ (L + v - 1) / v := Int.ediv_nonneg (by omega) (by omega)
          have q2 : (L + v - 1) / v ≤ L + v - 1 := Int.ediv_le_self _ (by omega)
          obtain ⟨C, hC⟩ : ∃ C, C = (L + v - 1) / v := ⟨_, rfl⟩
          rw [← hC] at HCE HFA q1 q2
          have vt : IntKind.i64.wrap (t + C) = t + C := IntWalk.i64_in _ (by omega)
          have HKN := Lib.hid k1
          have K3 := Lib.hid k3
          clear hC q1 q2 l0 l1 hk k2 k3 hcc a0 a1 a2 bh bp hdk hhh hpp hip hi
          go_upto_region 14 with fail
          refine wp_region_grow 28 (by kernel_rfl) (by kernel_rfl) [GR.eq (.int .i64 t), GR.eq (.int .i64 L), GR.eq (.int .i64 v), GR.eq (.int .i64 C), GR.eq (.int .i64 (t + C)), GR.eq (.slice (some ⟨b, o, none⟩) n c), GR.eq (.int .i64 j), GR.eq (.pointer (some ⟨b, o + j * 2, none⟩)), GR.eq (.pointer (some ⟨b, o + j * 2, none⟩)), GR.eq (.int .i64 x), GR.eq (.slice (some ⟨b, o, none⟩) n c), GR.eq (.int .i64 j), GR.eq (.pointer (some ⟨b, o + j * 2, none⟩)), GR.eq (.pointer (some ⟨b, o + j * 2 + 1, none⟩)), GR.eq (.int .i64 y), GR.eq (.slice (some ⟨pb, po, none⟩) i pc), GR.eq (.int .i64 k), GR.eq (.pointer (some ⟨pb, po + k * 3, none⟩)), GR.eq (.pointer (some ⟨pb, po + k * 3 + 1, none⟩)), GR.eq (.int .i64 hh), GR.eq (.agg #[.int .i64 x, .int .i64 y, .int .i64 hh]), GR.eq (.slice (some ⟨pb, po, none⟩) i pc), GR.eq (.int .i64 k), GR.eq (.pointer (some ⟨pb, po + k * 3, none⟩)), GR.eq (.pointer (some ⟨pb, po + k * 3 + 2, none⟩)), GR.eq (.int .i64 pp), GR.eq (.agg #[.int .i64 (t + C), .int .i64 x, .int .i64 y, .int .i64 hh, .int .i64 pp]), GR.new wb.heap.size 140 #[.int .i64 0, .int .i64 0, .int .i64 0, .int .i64 0, .int .i64 0]] 177 rfl (by kernel_rfl) ?_ ?_
          · refine ⟨?_, ?_, ?_, ?_, ?_, ?_, ?_, ?_, ?_, ?_, ?_, ?_, ?_, ?_, ?_, ?_, ?_, ?_, ?_, ?_, ?_, ?_, ?_, ?_, ?_, ?_, ?_, ?_, trivial⟩
            · intro a W hE hd ho
              have e3 : a.tmps[3]?.getD undef = .int .i64 t := ho 3 (by kernel_rfl)
              exact gs_same (v := .int .i64 t) (by go_simp) rfl
            · intro a W hE hd ho
              have e11 : a.tmps[11]?.getD undef = .int .i64 L := ho 11 (by kernel_rfl)
              exact gs_same (v := .int .i64 L) (by go_simp) rfl
            · intro a W hE hd ho
              have e2 : a.tmps[2]?.getD undef = .int .i64 v := ho 2 (by kernel_rfl)
              exact gs_same (v := .int .i64 v) (by go_simp) rfl
            · intro a W hE hd ho
              have e84 : a.tmps[84]?.getD undef = .int .i64 L := hd 1 84 (by kernel_rfl) (by kernel_rfl)
              have e85 : a.tmps[85]?.getD undef = .int .i64 v := hd 2 85 (by kernel_rfl) (by kernel_rfl)
              refine gs_call (f := 131) (args := #[.int .i64 L, .int .i64 v]) (by go_simp) ?_
              refine (HCE.out W).mono ?_
              rintro e w' ⟨rfl, rfl⟩
              exact ⟨_, rfl, Ext.refl _, rfl⟩
            · intro a W hE hd ho
              have e83 : a.tmps[83]?.getD undef = .int .i64 t := hd 0 83 (by kernel_rfl) (by kernel_rfl)
              have e86 : a.tmps[86]?.getD undef = .int .i64 C := hd 3 86 (by kernel_rfl) (by kernel_rfl)
              exact gs_same (v := .int .i64 (t + C)) (by go_simp) rfl
            · intro a W hE hd ho
              have e0 : a.tmps[0]?.getD undef = .slice (some ⟨b, o, none⟩) n c := ho 0 (by kernel_rfl)
              exact gs_same (v := .slice (some ⟨b, o, none⟩) n c) (by go_simp) rfl
            · intro a W hE hd ho
              have e12 : a.tmps[12]?.getD undef = .int .i64 j := ho 12 (by kernel_rfl)
              exact gs_same (v := .int .i64 j) (by go_simp) rfl
            · intro a W hE hd ho
              have e88 : a.tmps[88]?.getD undef = .slice (some ⟨b, o, none⟩) n c := hd 5 88 (by kernel_rfl) (by kernel_rfl)
              have e89 : a.tmps[89]?.getD undef = .int .i64 j := hd 6 89 (by kernel_rfl) (by kernel_rfl)
              exact gs_same (v := .pointer (some ⟨b, o + j * 2, none⟩)) (by go_simp) rfl
            · intro a W hE hd ho
              have e90 : a.tmps[90]?.getD undef = .pointer (some ⟨b, o + j * 2, none⟩) := hd 7 90 (by kernel_rfl) (by kernel_rfl)
              exact gs_same (v := .pointer (some ⟨b, o + j * 2, none⟩)) (by go_simp) rfl
            · intro a W hE hd ho
              have e91 : a.tmps[91]?.getD undef = .pointer (some ⟨b, o + j * 2, none⟩) := hd 8 91 (by kernel_rfl) (by kernel_rfl)
              have z0 := cell_kept hE C0.out
              exact gs_same (v := .int .i64 x) (by go_simp) rfl
            · intro a W hE hd ho
              have e0 : a.tmps[0]?.getD undef = .slice (some ⟨b, o, none⟩) n c := ho 0 (by kernel_rfl)
              exact gs_same (v := .slice (some ⟨b, o, none⟩) n c) (by go_simp) rfl
            · intro a W hE hd ho
              have e12 : a.tmps[12]?.getD undef = .int .i64 j := ho 12 (by kernel_rfl)
              exact gs_same (v := .int .i64 j) (by go_simp) rfl
            · intro a W hE hd ho
              have e93 : a.tmps[93]?.getD undef = .slice (some ⟨b, o, none⟩) n c := hd 10 93 (by kernel_rfl) (by kernel_rfl)
              have e94 : a.tmps[94]?.getD undef = .int .i64 j := hd 11 94 (by kernel_rfl) (by kernel_rfl)
              exact gs_same (v := .pointer (some ⟨b, o + j * 2, none⟩)) (by go_simp) rfl
            · intro a W hE hd ho
              have e95 : a.tmps[95]?.getD undef = .pointer (some ⟨b, o + j * 2, none⟩) := hd 12 95 (by kernel_rfl) (by kernel_rfl)
              exact gs_same (v := .pointer (some ⟨b, o + j * 2 + 1, none⟩)) (by go_simp) rfl
            · intro a W hE hd ho
              have e96 : a.tmps[96]?.getD undef = .pointer (some ⟨b, o + j * 2 + 1, none⟩) := hd 13 96 (by kernel_rfl) (by kernel_rfl)
              have z1 := cell_kept hE C1.out
              exact gs_same (v := .int .i64 y) (by go_simp) rfl
            · intro a W hE hd ho
              have e1 : a.tmps[1]?.getD undef = .slice (some ⟨pb, po, none⟩) i pc := ho 1 (by kernel_rfl)
              exact gs_same (v := .slice (some ⟨pb, po, none⟩) i pc) (by go_simp) rfl
            · intro a W hE hd ho
              have e14 : a.tmps[14]?.getD undef = .int .i64 k := ho 14 (by kernel_rfl)
              exact gs_same (v := .int .i64 k) (by go_simp) rfl
            · intro a W hE hd ho
              have e98 : a.tmps[98]?.getD undef = .slice (some ⟨pb, po, none⟩) i pc := hd 15 98 (by kernel_rfl) (by kernel_rfl)
              have e99 : a.tmps[99]?.getD undef = .int .i64 k := hd 16 99 (by kernel_rfl) (by kernel_rfl)
              exact gs_same (v := .pointer (some ⟨pb, po + k * 3, none⟩)) (by go_simp) rfl
            · intro a W hE hd ho
              have e100 : a.tmps[100]?.getD undef = .pointer (some ⟨pb, po + k * 3, none⟩) := hd 17 100 (by kernel_rfl) (by kernel_rfl)
              exact gs_same (v := .pointer (some ⟨pb, po + k * 3 + 1, none⟩)) (by go_simp) rfl
            · intro a W hE hd ho
              have e101 : a.tmps[101]?.getD undef = .pointer (some ⟨pb, po + k * 3 + 1, none⟩) := hd 18 101 (by kernel_rfl) (by kernel_rfl)
              have zE1 := cell_kept hE E1.out
              exact gs_same (v := .int .i64 hh) (by go_simp) rfl
            · intro a W hE hd ho
              have e92 : a.tmps[92]?.getD undef = .int .i64 x := hd 9 92 (by kernel_rfl) (by kernel_rfl)
              have e97 : a.tmps[97]?.getD undef = .int .i64 y := hd 14 97 (by kernel_rfl) (by kernel_rfl)
              have e102 : a.tmps[102]?.getD undef = .int .i64 hh := hd 19 102 (by kernel_rfl) (by kernel_rfl)
              exact gs_same (v := .agg #[.int .i64 x, .int .i64 y, .int .i64 hh]) (by go_simp) rfl
            · intro a W hE hd ho
              have e1 : a.tmps[1]?.getD undef = .slice (some ⟨pb, po, none⟩) i pc := ho 1 (by kernel_rfl)
              exact gs_same (v := .slice (some ⟨pb, po, none⟩) i pc) (by go_simp) rfl
            · intro a W hE hd ho
              have e14 : a.tmps[14]?.getD undef = .int .i64 k := ho 14 (by kernel_rfl)
              exact gs_same (v := .int .i64 k) (by go_simp) rfl
            · intro a W hE hd ho
              have e104 : a.tmps[104]?.getD undef = .slice (some ⟨pb, po, none⟩) i pc := hd 21 104 (by kernel_rfl) (by kernel_rfl)
              have e105 : a.tmps[105]?.getD undef = .int .i64 k := hd 22 105 (by kernel_rfl) (by kernel_rfl)
              exact gs_same (v := .pointer (some ⟨pb, po + k * 3, none⟩)) (by go_simp) rfl
            · intro a W hE hd ho
              have e106 : a.tmps[106]?.getD undef = .pointer (some ⟨pb, po + k * 3, none⟩) := hd 23 106 (by kernel_rfl) (by kernel_rfl)
              exact gs_same (v := .pointer (some ⟨pb, po + k * 3 + 2, none⟩)) (by go_simp) rfl
            · intro a W hE hd ho
              have e107 : a.tmps[107]?.getD undef = .pointer (some ⟨pb, po + k * 3 + 2, none⟩) := hd 24 107 (by kernel_rfl) (by kernel_rfl)
              have zE2 := cell_kept hE E2.out
              exact gs_same (v := .int .i64 pp) (by go_simp) rfl
            · intro a W hE hd ho
              have e87 : a.tmps[87]?.getD undef = .int .i64 (t + C) := hd 4 87 (by kernel_rfl) (by kernel_rfl)
              have e103 : a.tmps[103]?.getD undef = .agg #[.int .i64 x, .int .i64 y, .int .i64 hh] := hd 20 103 (by kernel_rfl) (by kernel_rfl)
              have e108 : a.tmps[108]?.getD undef = .int .i64 pp := hd 25 108 (by kernel_rfl) (by kernel_rfl)
              exact gs_same (v := .agg #[.int .i64 (t + C), .int .i64 x, .int .i64 y, .int .i64 hh, .int .i64 pp]) (by go_simp) rfl
            · intro a W hE hd ho
              refine gs_val (v := .pointer (some ⟨W.heap.size, 0, none⟩)) (W' := W.alloc (.cells #[.int .i64 0, .int .i64 0, .int .i64 0, .int .i64 0, .int .i64 0] 140)) (by go_simp) ((Below.refl _ _).alloc (Nat.le_refl _) _) ⟨_, rfl, hE.below.size, Blk.new _ _ _⟩
          intro vs wc hE hR
          have y0 : vs 0 = .int .i64 t := hR 0 (by omega)
          have y1 : vs 1 = .int .i64 L := hR 1 (by omega)
          have y2 : vs 2 = .int .i64 v := hR 2 (by omega)
          have y3 : vs 3 = .int .i64 C := hR 3 (by omega)
          have y4 : vs 4 = .int .i64 (t + C) := hR 4 (by omega)
          have y5 : vs 5 = .slice (some ⟨b, o, none⟩) n c := hR 5 (by omega)
          have y6 : vs 6 = .int .i64 j := hR 6 (by omega)
          have y7 : vs 7 = .pointer (some ⟨b, o + j * 2, none⟩) := hR 7 (by omega)
          have y8 : vs 8 = .pointer (some ⟨b, o + j * 2, none⟩) := hR 8 (by omega)
          have y9 : vs 9 = .int .i64 x := hR 9 (by omega)
          have y10 : vs 10 = .slice (some ⟨b, o, none⟩) n c := hR 10 (by omega)
          have y11 : vs 11 = .int .i64 j := hR 11 (by omega)
          have y12 : vs 12 = .pointer (some ⟨b, o + j * 2, none⟩) := hR 12 (by omega)
          have y13 : vs 13 = .pointer (some ⟨b, o + j * 2 + 1, none⟩) := hR 13 (by omega)
          have y14 : vs 14 = .int .i64 y := hR 14 (by omega)
          have y15 : vs 15 = .slice (some ⟨pb, po, none⟩) i pc := hR 15 (by omega)
          have y16 : vs 16 = .int .i64 k := hR 16 (by omega)
          have y17 : vs 17 = .pointer (some ⟨pb, po + k * 3, none⟩) := hR 17 (by omega)
          have y18 : vs 18 = .pointer (some ⟨pb, po + k * 3 + 1, none⟩) := hR 18 (by omega)
          have y19 : vs 19 = .int .i64 hh := hR 19 (by omega)
          have y20 : vs 20 = .agg #[.int .i64 x, .int .i64 y, .int .i64 hh] := hR 20 (by omega)
          have y21 : vs 21 = .slice (some ⟨pb, po, none⟩) i pc := hR 21 (by omega)
          have y22 : vs 22 = .int .i64 k := hR 22 (by omega)
          have y23 : vs 23 = .pointer (some ⟨pb, po + k * 3, none⟩) := hR 23 (by omega)
          have y24 : vs 24 = .pointer (some ⟨pb, po + k * 3 + 2, none⟩) := hR 24 (by omega)
          have y25 : vs 25 = .int .i64 pp := hR 25 (by omega)
          have y26 : vs 26 = .agg #[.int .i64 (t + C), .int .i64 x, .int .i64 y, .int .i64 hh, .int .i64 pp] := hR 26 (by omega)
          obtain ⟨g16, y27, h16, B16⟩ : ∃ g, vs 27 = .pointer (some ⟨g, 0, none⟩) ∧ wb.heap.size ≤ g ∧ Blk wc g 140 #[.int .i64 0, .int .i64 0, .int .i64 0, .int .i64 0, .int .i64 0] := hR 27 (by omega)
          simp only [List.range, List.range.loop, List.foldl_cons, List.foldl_nil, y0, y1, y2, y3, y4, y5, y6, y7, y8, y9, y10, y11, y12, y13, y14, y15, y16, y17, y18, y19, y20, y21, y22, y23, y24, y25, y26, y27, List.drop_succ_cons, List.drop_zero]
          simp only [dstAt, List.getElem?_toArray, List.getElem?_cons_zero, List.getElem?_cons_succ, Option.bind_some, Act.put, List.setIfInBounds_toArray, List.set_cons_zero, List.set_cons_succ]
          clear y0 y1 y2 y3 y4 y5 y6 y7 y8 y9 y10 y11 y12 y13 y14 y15 y16 y17 y18 y19 y20 y21 y22 y23 y24 y25 y26 y27 hR
          refine wpList_store_row rfl 140 _ _ rfl g16 #[.int .i64 (t + C), .int .i64 x, .int .i64 y, .int .i64 hh, .int .i64 pp] rfl rfl 140 _ B16 (by kernel_rfl) rfl (by simp [Value.oneCell']) ?_
          obtain ⟨wd, hwd⟩ : ∃ W, W = wc.setRow g16 #[.int .i64 (t + C), .int .i64 x, .int .i64 y, .int .i64 hh, .int .i64 pp] := ⟨_, rfl⟩
          rw [← hwd]
          have hbd : Below wb.heap.size wb wd := by rw [hwd]; exact hE.below.setRow' h16 _
          have BF : Hid (Blk wd g16 140 #[.int .i64 (t + C), .int .i64 x, .int .i64 y, .int .i64 hh, .int .i64 pp]) := by show Blk _ _ _ _; rw [hwd]; exact B16.setRow _
          have HBC := Lib.hid hbd
          have HG16 := Lib.hid h16
          clear hwd hbd hE B16 h16 vt
          have wk : IntKind.i64.wrap ((k : Int) + 1) = ((k + 1 : Nat) : Int) := by rw [IntWalk.i64_in _ (by omega)]; omega
          by_cases hk1 : k + 1 < i
          · obtain ⟨m, hm⟩ : ∃ m, m = k + 1 := ⟨_, rfl⟩
            rw [← hm] at wk hk1
            obtain ⟨a0, a1, a2⟩ := HCC.out m hk1
            have hup := HGS.out.1.up k m (by omega) (by rw [HPL.out]; exact hk1)
            have hnx : L < (Bell.spAt p m).d := Int.not_le.1 fun h => by have := K3.out m hk1 h; omega
            have bh1 := HGS.out.1.h0 m (by rw [HPL.out]; exact hk1)
            have bp1 := HGS.out.1.p0 m (by rw [HPL.out]; exact hk1)
            have bd1 := HGS.out.2.2 m (by rw [HPL.out]; exact hk1)
            have HZH : Hid (Bell.heightAt p L = Bell.betw (Bell.spAt p k).h (Bell.spAt p m).h (L - (Bell.spAt p k).d) ((Bell.spAt p m).d - (Bell.spAt p k).d)) := by
              show _ = _
              unfold Bell.heightAt
              rw [HN.out, if_neg (by rw [HPL.out]; omega), Nat.add_sub_cancel, ← hm]
            have HZP : Hid (Bell.powerAt p L = Bell.betw (Bell.spAt p k).p (Bell.spAt p m).p (L - (Bell.spAt p k).d) ((Bell.spAt p m).d - (Bell.spAt p k).d)) := by
              show _ = _
              unfold Bell.powerAt
              rw [HN.out, if_neg (by rw [HPL.out]; omega), Nat.add_sub_cancel, ← hm]
            obtain ⟨d1, hd1⟩ : ∃ d, d = (Bell.spAt p m).d := ⟨_, rfl⟩
            obtain ⟨h1, hh1⟩ : ∃ d, d = (Bell.spAt p m).h := ⟨_, rfl⟩
            obtain ⟨p1, hp1⟩ : ∃ d, d = (Bell.spAt p m).p := ⟨_, rfl⟩
            rw [← hd1] at a0 hup hnx bd1 HZH HZP
            rw [← hh1] at a1 bh1 HZH
            rw [← hp1] at a2 bp1 HZP
            rw [← HDK.out] at hup HZH HZP
            rw [← HHH.out] at HZH
            rw [← HPPK.out] at HZP
            have k2 := HK2.out
            have bh := HBH.out
            have bp := HBP.out
            have l0 := HBD.out.1
            have hd0 := HDK0.out
            have HBT := Lib.hid (fun W => refBetween_gen hh h1 (L - dk) (d1 - dk) W bh bh1 (by omega) (by omega) (by omega))
            have HBW := Lib.hid (fun W => refBetween_gen pp p1 (L - dk) (d1 - dk) W (by omega) (by omega) (by omega) (by omega) (by omega))
            obtain ⟨ZZ, hZZ⟩ : ∃ z, z = Bell.betw hh h1 (L - dk) (d1 - dk) := ⟨_, rfl⟩
            obtain ⟨WW, hWW⟩ : ∃ z, z = Bell.betw pp p1 (L - dk) (d1 - dk) := ⟨_, rfl⟩
            rw [← hZZ] at HBT HZH
            rw [← hWW] at HBW HZP
            have v1' : IntKind.i64.wrap (L - dk) = L - dk := IntWalk.i64_in _ (by omega)
            have v2' : IntKind.i64.wrap (d1 - dk) = d1 - dk := IntWalk.i64_in _ (by omega)
            have pm : (m : Int) < (i : Int) := by omega
            have F0 := Lib.hid (cell_kept HBC.out a0)
            have F1 := Lib.hid (cell_kept HBC.out a1)
            have F2 := Lib.hid (cell_kept HBC.out a2)
            replace E0 := Lib.hid (cell_kept HBC.out E0.out)
            replace E1 := Lib.hid (cell_kept HBC.out E1.out)
            replace E2 := Lib.hid (cell_kept HBC.out E2.out)
            clear hm hup hnx bh1 bp1 bd1 hd0 hd1 hh1 hp1 k2 bh bp l0 hZZ hWW a0 a1 a2
            go_upto_region 16 with fail
            refine wp_region_allN 21 rfl (by kernel_rfl) (by kernel_rfl) [GR.eq (.int .i64 L), GR.eq (.slice (some ⟨pb, po, none⟩) i pc), GR.eq (.int .i64 k), GR.eq (.pointer (some ⟨pb, po + k * 3, none⟩)), GR.eq (.pointer (some ⟨pb, po + k * 3, none⟩)), GR.eq (.int .i64 dk), GR.eq (.int .i64 (L - dk)), GR.eq (.slice (some ⟨pb, po, none⟩) i pc), GR.eq (.int .i64 k), GR.eq (.int .i64 m), GR.eq (.pointer (some ⟨pb, po + m * 3, none⟩)), GR.eq (.pointer (some ⟨pb, po + m * 3, none⟩)), GR.eq (.int .i64 d1), GR.eq (.slice (some ⟨pb, po, none⟩) i pc), GR.eq (.int .i64 k), GR.eq (.pointer (some ⟨pb, po + k * 3, none⟩)), GR.eq (.pointer (some ⟨pb, po + k * 3, none⟩)), GR.eq (.int .i64 dk), GR.eq (.int .i64 (d1 - dk)), GR.eq (.int .i64 (L - dk)), GR.eq (.int .i64 (d1 - dk))] 177 rfl (by kernel_rfl) ?_ ?_
            · refine ⟨?_, ?_, ?_, ?_, ?_, ?_, ?_, ?_, ?_, ?_, ?_, ?_, ?_, ?_, ?_, ?_, ?_, ?_, ?_, ?_, ?_, trivial⟩
              · intro a W hE hd ho
                have e11 : a.tmps[11]?.getD undef = .int .i64 L := ho 11 (by kernel_rfl)
                exact gs_same (v := .int .i64 L) (by go_simp) rfl
              · intro a W hE hd ho
                have e1 : a.tmps[1]?.getD undef = .slice (some ⟨pb, po, none⟩) i pc := ho 1 (by kernel_rfl)
                exact gs_same (v := .slice (some ⟨pb, po, none⟩) i pc) (by go_simp) rfl
              · intro a W hE hd ho
                have e14 : a.tmps[14]?.getD undef = .int .i64 k := ho 14 (by kernel_rfl)
                exact gs_same (v := .int .i64 k) (by go_simp) rfl
              · intro a W hE hd ho
                have e116 : a.tmps[116]?.getD undef = .slice (some ⟨pb, po, none⟩) i pc := hd 1 116 (by kernel_rfl) (by kernel_rfl)
                have e117 : a.tmps[117]?.getD undef = .int .i64 k := hd 2 117 (by kernel_rfl) (by kernel_rfl)
                exact gs_same (v := .pointer (some ⟨pb, po + k * 3, none⟩)) (by go_simp) rfl
              · intro a W hE hd ho
                have e118 : a.tmps[118]?.getD undef = .pointer (some ⟨pb, po + k * 3, none⟩) := hd 3 118 (by kernel_rfl) (by kernel_rfl)
                exact gs_same (v := .pointer (some ⟨pb, po + k * 3, none⟩)) (by go_simp) rfl
              · intro a W hE hd ho
                have e119 : a.tmps[119]?.getD undef = .pointer (some ⟨pb, po + k * 3, none⟩) := hd 4 119 (by kernel_rfl) (by kernel_rfl)
                have zE0 := cell_kept hE E0.out
                exact gs_same (v := .int .i64 dk) (by go_simp) rfl
              · intro a W hE hd ho
                have e115 : a.tmps[115]?.getD undef = .int .i64 L := hd 0 115 (by kernel_rfl) (by kernel_rfl)
                have e120 : a.tmps[120]?.getD undef = .int .i64 dk := hd 5 120 (by kernel_rfl) (by kernel_rfl)
                exact gs_same (v := .int .i64 (L - dk)) (by go_simp) rfl
              · intro a W hE hd ho
                have e1 : a.tmps[1]?.getD undef = .slice (some ⟨pb, po, none⟩) i pc := ho 1 (by kernel_rfl)
                exact gs_same (v := .slice (some ⟨pb, po, none⟩) i pc) (by go_simp) rfl
              · intro a W hE hd ho
                have e14 : a.tmps[14]?.getD undef = .int .i64 k := ho 14 (by kernel_rfl)
                exact gs_same (v := .int .i64 k) (by go_simp) rfl
              · intro a W hE hd ho
                have e123 : a.tmps[123]?.getD undef = .int .i64 k := hd 8 123 (by kernel_rfl) (by kernel_rfl)
                exact gs_same (v := .int .i64 m) (by go_simp) rfl
              · intro a W hE hd ho
                have e122 : a.tmps[122]?.getD undef = .slice (some ⟨pb, po, none⟩) i pc := hd 7 122 (by kernel_rfl) (by kernel_rfl)
                have e124 : a.tmps[124]?.getD undef = .int .i64 m := hd 9 124 (by kernel_rfl) (by kernel_rfl)
                exact gs_same (v := .pointer (some ⟨pb, po + m * 3, none⟩)) (by go_simp) rfl
              · intro a W hE hd ho
                have e125 : a.tmps[125]?.getD undef = .pointer (some ⟨pb, po + m * 3, none⟩) := hd 10 125 (by kernel_rfl) (by kernel_rfl)
                exact gs_same (v := .pointer (some ⟨pb, po + m * 3, none⟩)) (by go_simp) rfl
              · intro a W hE hd ho
                have e126 : a.tmps[126]?.getD undef = .pointer (some ⟨pb, po + m * 3, none⟩) := hd 11 126 (by kernel_rfl) (by kernel_rfl)
                have zF0 := cell_kept hE F0.out
                exact gs_same (v := .int .i64 d1) (by go_simp) rfl
              · intro a W hE hd ho
                have e1 : a.tmps[1]?.getD undef = .slice (some ⟨pb, po, none⟩) i pc := ho 1 (by kernel_rfl)
                exact gs_same (v := .slice (some ⟨pb, po, none⟩) i pc) (by go_simp) rfl
              · intro a W hE hd ho
                have e14 : a.tmps[14]?.getD undef = .int .i64 k := ho 14 (by kernel_rfl)
                exact gs_same (v := .int .i64 k) (by go_simp) rfl
              · intro a W hE hd ho
                have e128 : a.tmps[128]?.getD undef = .slice (some ⟨pb, po, none⟩) i pc := hd 13 128 (by kernel_rfl) (by kernel_rfl)
                have e129 : a.tmps[129]?.getD undef = .int .i64 k := hd 14 129 (by kernel_rfl) (by kernel_rfl)
                exact gs_same (v := .pointer (some ⟨pb, po + k * 3, none⟩)) (by go_simp) rfl
              · intro a W hE hd ho
                have e130 : a.tmps[130]?.getD undef = .pointer (some ⟨pb, po + k * 3, none⟩) := hd 15 130 (by kernel_rfl) (by kernel_rfl)
                exact gs_same (v := .pointer (some ⟨pb, po + k * 3, none⟩)) (by go_simp) rfl
              · intro a W hE hd ho
                have e131 : a.tmps[131]?.getD undef = .pointer (some ⟨pb, po + k * 3, none⟩) := hd 16 131 (by kernel_rfl) (by kernel_rfl)
                have zE0 := cell_kept hE E0.out
                exact gs_same (v := .int .i64 dk) (by go_simp) rfl
              · intro a W hE hd ho
                have e127 : a.tmps[127]?.getD undef = .int .i64 d1 := hd 12 127 (by kernel_rfl) (by kernel_rfl)
                have e132 : a.tmps[132]?.getD undef = .int .i64 dk := hd 17 132 (by kernel_rfl) (by kernel_rfl)
                exact gs_same (v := .int .i64 (d1 - dk)) (by go_simp) rfl
              · intro a W hE hd ho
                have e121 : a.tmps[121]?.getD undef = .int .i64 (L - dk) := hd 6 121 (by kernel_rfl) (by kernel_rfl)
                exact gs_same (v := .int .i64 (L - dk)) (by go_simp) rfl
              · intro a W hE hd ho
                have e133 : a.tmps[133]?.getD undef = .int .i64 (d1 - dk) := hd 18 133 (by kernel_rfl) (by kernel_rfl)
                exact gs_same (v := .int .i64 (d1 - dk)) (by go_simp) rfl
            intro vt we hE hR
            have y0 : vt 0 = .int .i64 L := hR 0 (by omega)
            have y1 : vt 1 = .slice (some ⟨pb, po, none⟩) i pc := hR 1 (by omega)
            have y2 : vt 2 = .int .i64 k := hR 2 (by omega)
            have y3 : vt 3 = .pointer (some ⟨pb, po + k * 3, none⟩) := hR 3 (by omega)
            have y4 : vt 4 = .pointer (some ⟨pb, po + k * 3, none⟩) := hR 4 (by omega)
            have y5 : vt 5 = .int .i64 dk := hR 5 (by omega)
            have y6 : vt 6 = .int .i64 (L - dk) := hR 6 (by omega)
            have y7 : vt 7 = .slice (some ⟨pb, po, none⟩) i pc := hR 7 (by omega)
            have y8 : vt 8 = .int .i64 k := hR 8 (by omega)
            have y9 : vt 9 = .int .i64 m := hR 9 (by omega)
            have y10 : vt 10 = .pointer (some ⟨pb, po + m * 3, none⟩) := hR 10 (by omega)
            have y11 : vt 11 = .pointer (some ⟨pb, po + m * 3, none⟩) := hR 11 (by omega)
            have y12 : vt 12 = .int .i64 d1 := hR 12 (by omega)
            have y13 : vt 13 = .slice (some ⟨pb, po, none⟩) i pc := hR 13 (by omega)
            have y14 : vt 14 = .int .i64 k := hR 14 (by omega)
            have y15 : vt 15 = .pointer (some ⟨pb, po + k * 3, none⟩) := hR 15 (by omega)
            have y16 : vt 16 = .pointer (some ⟨pb, po + k * 3, none⟩) := hR 16 (by omega)
            have y17 : vt 17 = .int .i64 dk := hR 17 (by omega)
            have y18 : vt 18 = .int .i64 (d1 - dk) := hR 18 (by omega)
            have y19 : vt 19 = .int .i64 (L - dk) := hR 19 (by omega)
            have y20 : vt 20 = .int .i64 (d1 - dk) := hR 20 (by omega)
            simp only [List.range, List.range.loop, List.foldl_cons, List.foldl_nil, y0, y1, y2, y3, y4, y5, y6, y7, y8, y9, y10, y11, y12, y13, y14, y15, y16, y17, y18, y19, y20, List.drop_succ_cons, List.drop_zero]
            simp only [dstAt, List.getElem?_toArray, List.getElem?_cons_zero, List.getElem?_cons_succ, Option.bind_some, Act.put, List.setIfInBounds_toArray, List.set_cons_zero, List.set_cons_succ]
            clear y0 y1 y2 y3 y4 y5 y6 y7 y8 y9 y10 y11 y12 y13 y14 y15 y16 y17 y18 y19 y20 hR
            replace E0 := Lib.hid (cell_kept hE E0.out)
            replace E1 := Lib.hid (cell_kept hE E1.out)
            replace E2 := Lib.hid (cell_kept hE E2.out)
            replace F0 := Lib.hid (cell_kept hE F0.out)
            replace F1 := Lib.hid (cell_kept hE F1.out)
            replace F2 := Lib.hid (cell_kept hE F2.out)
            replace BF := Lib.hid (BF.below hE)
            replace HBC := Lib.hid (HBC.out.trans (Below.mono hE HBC.out.size))
            clear hE
            go_upto_region 17 with fail
            refine wp_region_grow 30 (by kernel_rfl) (by kernel_rfl) [GR.eq (.slice (some ⟨pb, po, none⟩) i pc), GR.eq (.int .i64 k), GR.eq (.pointer (some ⟨pb, po + k * 3, none⟩)), GR.eq (.pointer (some ⟨pb, po + k * 3 + 1, none⟩)), GR.eq (.int .i64 hh), GR.eq (.slice (some ⟨pb, po, none⟩) i pc), GR.eq (.int .i64 k), GR.eq (.int .i64 m), GR.eq (.pointer (some ⟨pb, po + m * 3, none⟩)), GR.eq (.pointer (some ⟨pb, po + m * 3 + 1, none⟩)), GR.eq (.int .i64 h1), GR.eq (.int .i64 (L - dk)), GR.eq (.int .i64 (d1 - dk)), GR.eq (.int .i64 ZZ), GR.eq (.slice (some ⟨pb, po, none⟩) i pc), GR.eq (.int .i64 k), GR.eq (.pointer (some ⟨pb, po + k * 3, none⟩)), GR.eq (.pointer (some ⟨pb, po + k * 3 + 2, none⟩)), GR.eq (.int .i64 pp), GR.eq (.slice (some ⟨pb, po, none⟩) i pc), GR.eq (.int .i64 k), GR.eq (.int .i64 m), GR.eq (.pointer (some ⟨pb, po + m * 3, none⟩)), GR.eq (.pointer (some ⟨pb, po + m * 3 + 2, none⟩)), GR.eq (.int .i64 p1), GR.eq (.int .i64 (L - dk)), GR.eq (.int .i64 (d1 - dk)), GR.eq (.int .i64 WW), GR.eq (.pointer (some ⟨g16, 1, none⟩)), GR.eq (.pointer (some ⟨g16, 3, none⟩))] 177 rfl (by kernel_rfl) ?_ ?_
            · refine ⟨?_, ?_, ?_, ?_, ?_, ?_, ?_, ?_, ?_, ?_, ?_, ?_, ?_, ?_, ?_, ?_, ?_, ?_, ?_, ?_, ?_, ?_, ?_, ?_, ?_, ?_, ?_, ?_, ?_, ?_, trivial⟩
              · intro a W hE hd ho
                have e1 : a.tmps[1]?.getD undef = .slice (some ⟨pb, po, none⟩) i pc := ho 1 (by kernel_rfl)
                exact gs_same (v := .slice (some ⟨pb, po, none⟩) i pc) (by go_simp) rfl
              · intro a W hE hd ho
                have e14 : a.tmps[14]?.getD undef = .int .i64 k := ho 14 (by kernel_rfl)
                exact gs_same (v := .int .i64 k) (by go_simp) rfl
              · intro a W hE hd ho
                have e134 : a.tmps[134]?.getD undef = .slice (some ⟨pb, po, none⟩) i pc := hd 0 134 (by kernel_rfl) (by kernel_rfl)
                have e135 : a.tmps[135]?.getD undef = .int .i64 k := hd 1 135 (by kernel_rfl) (by kernel_rfl)
                exact gs_same (v := .pointer (some ⟨pb, po + k * 3, none⟩)) (by go_simp) rfl
              · intro a W hE hd ho
                have e136 : a.tmps[136]?.getD undef = .pointer (some ⟨pb, po + k * 3, none⟩) := hd 2 136 (by kernel_rfl) (by kernel_rfl)
                exact gs_same (v := .pointer (some ⟨pb, po + k * 3 + 1, none⟩)) (by go_simp) rfl
              · intro a W hE hd ho
                have e137 : a.tmps[137]?.getD undef = .pointer (some ⟨pb, po + k * 3 + 1, none⟩) := hd 3 137 (by kernel_rfl) (by kernel_rfl)
                have zE1 := cell_kept hE E1.out
                exact gs_same (v := .int .i64 hh) (by go_simp) rfl
              · intro a W hE hd ho
                have e1 : a.tmps[1]?.getD undef = .slice (some ⟨pb, po, none⟩) i pc := ho 1 (by kernel_rfl)
                exact gs_same (v := .slice (some ⟨pb, po, none⟩) i pc) (by go_simp) rfl
              · intro a W hE hd ho
                have e14 : a.tmps[14]?.getD undef = .int .i64 k := ho 14 (by kernel_rfl)
                exact gs_same (v := .int .i64 k) (by go_simp) rfl
              · intro a W hE hd ho
                have e140 : a.tmps[140]?.getD undef = .int .i64 k := hd 6 140 (by kernel_rfl) (by kernel_rfl)
                exact gs_same (v := .int .i64 m) (by go_simp) rfl
              · intro a W hE hd ho
                have e139 : a.tmps[139]?.getD undef = .slice (some ⟨pb, po, none⟩) i pc := hd 5 139 (by kernel_rfl) (by kernel_rfl)
                have e141 : a.tmps[141]?.getD undef = .int .i64 m := hd 7 141 (by kernel_rfl) (by kernel_rfl)
                exact gs_same (v := .pointer (some ⟨pb, po + m * 3, none⟩)) (by go_simp) rfl
              · intro a W hE hd ho
                have e142 : a.tmps[142]?.getD undef = .pointer (some ⟨pb, po + m * 3, none⟩) := hd 8 142 (by kernel_rfl) (by kernel_rfl)
                exact gs_same (v := .pointer (some ⟨pb, po + m * 3 + 1, none⟩)) (by go_simp) rfl
              · intro a W hE hd ho
                have e143 : a.tmps[143]?.getD undef = .pointer (some ⟨pb, po + m * 3 + 1, none⟩) := hd 9 143 (by kernel_rfl) (by kernel_rfl)
                have zF1 := cell_kept hE F1.out
                exact gs_same (v := .int .i64 h1) (by go_simp) rfl
              · intro a W hE hd ho
                have e17 : a.tmps[17]?.getD undef = .int .i64 (L - dk) := ho 17 (by kernel_rfl)
                exact gs_same (v := .int .i64 (L - dk)) (by go_simp) rfl
              · intro a W hE hd ho
                have e18 : a.tmps[18]?.getD undef = .int .i64 (d1 - dk) := ho 18 (by kernel_rfl)
                exact gs_same (v := .int .i64 (d1 - dk)) (by go_simp) rfl
              · intro a W hE hd ho
                have e138 : a.tmps[138]?.getD undef = .int .i64 hh := hd 4 138 (by kernel_rfl) (by kernel_rfl)
                have e144 : a.tmps[144]?.getD undef = .int .i64 h1 := hd 10 144 (by kernel_rfl) (by kernel_rfl)
                have e145 : a.tmps[145]?.getD undef = .int .i64 (L - dk) := hd 11 145 (by kernel_rfl) (by kernel_rfl)
                have e146 : a.tmps[146]?.getD undef = .int .i64 (d1 - dk) := hd 12 146 (by kernel_rfl) (by kernel_rfl)
                refine gs_call (f := 107) (args := #[.int .i64 hh, .int .i64 h1, .int .i64 (L - dk), .int .i64 (d1 - dk)]) (by go_simp) ?_
                refine (HBT.out W).mono ?_
                rintro e w' ⟨rfl, rfl⟩
                exact ⟨_, rfl, Ext.refl _, rfl⟩
              · intro a W hE hd ho
                have e1 : a.tmps[1]?.getD undef = .slice (some ⟨pb, po, none⟩) i pc := ho 1 (by kernel_rfl)
                exact gs_same (v := .slice (some ⟨pb, po, none⟩) i pc) (by go_simp) rfl
              · intro a W hE hd ho
                have e14 : a.tmps[14]?.getD undef = .int .i64 k := ho 14 (by kernel_rfl)
                exact gs_same (v := .int .i64 k) (by go_simp) rfl
              · intro a W hE hd ho
                have e148 : a.tmps[148]?.getD undef = .slice (some ⟨pb, po, none⟩) i pc := hd 14 148 (by kernel_rfl) (by kernel_rfl)
                have e149 : a.tmps[149]?.getD undef = .int .i64 k := hd 15 149 (by kernel_rfl) (by kernel_rfl)
                exact gs_same (v := .pointer (some ⟨pb, po + k * 3, none⟩)) (by go_simp) rfl
              · intro a W hE hd ho
                have e150 : a.tmps[150]?.getD undef = .pointer (some ⟨pb, po + k * 3, none⟩) := hd 16 150 (by kernel_rfl) (by kernel_rfl)
                exact gs_same (v := .pointer (some ⟨pb, po + k * 3 + 2, none⟩)) (by go_simp) rfl
              · intro a W hE hd ho
                have e151 : a.tmps[151]?.getD undef = .pointer (some ⟨pb, po + k * 3 + 2, none⟩) := hd 17 151 (by kernel_rfl) (by kernel_rfl)
                have zE2 := cell_kept hE E2.out
                exact gs_same (v := .int .i64 pp) (by go_simp) rfl
              · intro a W hE hd ho
                have e1 : a.tmps[1]?.getD undef = .slice (some ⟨pb, po, none⟩) i pc := ho 1 (by kernel_rfl)
                exact gs_same (v := .slice (some ⟨pb, po, none⟩) i pc) (by go_simp) rfl
              · intro a W hE hd ho
                have e14 : a.tmps[14]?.getD undef = .int .i64 k := ho 14 (by kernel_rfl)
                exact gs_same (v := .int .i64 k) (by go_simp) rfl
              · intro a W hE hd ho
                have e154 : a.tmps[154]?.getD undef = .int .i64 k := hd 20 154 (by kernel_rfl) (by kernel_rfl)
                exact gs_same (v := .int .i64 m) (by go_simp) rfl
              · intro a W hE hd ho
                have e153 : a.tmps[153]?.getD undef = .slice (some ⟨pb, po, none⟩) i pc := hd 19 153 (by kernel_rfl) (by kernel_rfl)
                have e155 : a.tmps[155]?.getD undef = .int .i64 m := hd 21 155 (by kernel_rfl) (by kernel_rfl)
                exact gs_same (v := .pointer (some ⟨pb, po + m * 3, none⟩)) (by go_simp) rfl
              · intro a W hE hd ho
                have e156 : a.tmps[156]?.getD undef = .pointer (some ⟨pb, po + m * 3, none⟩) := hd 22 156 (by kernel_rfl) (by kernel_rfl)
                exact gs_same (v := .pointer (some ⟨pb, po + m * 3 + 2, none⟩)) (by go_simp) rfl
              · intro a W hE hd ho
                have e157 : a.tmps[157]?.getD undef = .pointer (some ⟨pb, po + m * 3 + 2, none⟩) := hd 23 157 (by kernel_rfl) (by kernel_rfl)
                have zF2 := cell_kept hE F2.out
                exact gs_same (v := .int .i64 p1) (by go_simp) rfl
              · intro a W hE hd ho
                have e17 : a.tmps[17]?.getD undef = .int .i64 (L - dk) := ho 17 (by kernel_rfl)
                exact gs_same (v := .int .i64 (L - dk)) (by go_simp) rfl
              · intro a W hE hd ho
                have e18 : a.tmps[18]?.getD undef = .int .i64 (d1 - dk) := ho 18 (by kernel_rfl)
                exact gs_same (v := .int .i64 (d1 - dk)) (by go_simp) rfl
              · intro a W hE hd ho
                have e152 : a.tmps[152]?.getD undef = .int .i64 pp := hd 18 152 (by kernel_rfl) (by kernel_rfl)
                have e158 : a.tmps[158]?.getD undef = .int .i64 p1 := hd 24 158 (by kernel_rfl) (by kernel_rfl)
                have e159 : a.tmps[159]?.getD undef = .int .i64 (L - dk) := hd 25 159 (by kernel_rfl) (by kernel_rfl)
                have e160 : a.tmps[160]?.getD undef = .int .i64 (d1 - dk) := hd 26 160 (by kernel_rfl) (by kernel_rfl)
                refine gs_call (f := 107) (args := #[.int .i64 pp, .int .i64 p1, .int .i64 (L - dk), .int .i64 (d1 - dk)]) (by go_simp) ?_
                refine (HBW.out W).mono ?_
                rintro e w' ⟨rfl, rfl⟩
                exact ⟨_, rfl, Ext.refl _, rfl⟩
              · intro a W hE hd ho
                have e16 : a.tmps[16]?.getD undef = .pointer (some ⟨g16, 0, none⟩) := ho 16 (by kernel_rfl)
                exact gs_same (v := .pointer (some ⟨g16, 1, none⟩)) (by go_simp) rfl
              · intro a W hE hd ho
                have e162 : a.tmps[162]?.getD undef = .pointer (some ⟨g16, 1, none⟩) := hd 28 162 (by kernel_rfl) (by kernel_rfl)
                exact gs_same (v := .pointer (some ⟨g16, 3, none⟩)) (by go_simp) rfl
            intro vt wf hE hR
            have y0 : vt 0 = .slice (some ⟨pb, po, none⟩) i pc := hR 0 (by omega)
            have y1 : vt 1 = .int .i64 k := hR 1 (by omega)
            have y2 : vt 2 = .pointer (some ⟨pb, po + k * 3, none⟩) := hR 2 (by omega)
            have y3 : vt 3 = .pointer (some ⟨pb, po + k * 3 + 1, none⟩) := hR 3 (by omega)
            have y4 : vt 4 = .int .i64 hh := hR 4 (by omega)
            have y5 : vt 5 = .slice (some ⟨pb, po, none⟩) i pc := hR 5 (by omega)
            have y6 : vt 6 = .int .i64 k := hR 6 (by omega)
            have y7 : vt 7 = .int .i64 m := hR 7 (by omega)
            have y8 : vt 8 = .pointer (some ⟨pb, po + m * 3, none⟩) := hR 8 (by omega)
            have y9 : vt 9 = .pointer (some ⟨pb, po + m * 3 + 1, none⟩) := hR 9 (by omega)
            have y10 : vt 10 = .int .i64 h1 := hR 10 (by omega)
            have y11 : vt 11 = .int .i64 (L - dk) := hR 11 (by omega)
            have y12 : vt 12 = .int .i64 (d1 - dk) := hR 12 (by omega)
            have y13 : vt 13 = .int .i64 ZZ := hR 13 (by omega)
            have y14 : vt 14 = .slice (some ⟨pb, po, none⟩) i pc := hR 14 (by omega)
            have y15 : vt 15 = .int .i64 k := hR 15 (by omega)
            have y16 : vt 16 = .pointer (some ⟨pb, po + k * 3, none⟩) := hR 16 (by omega)
            have y17 : vt 17 = .pointer (some ⟨pb, po + k * 3 + 2, none⟩) := hR 17 (by omega)
            have y18 : vt 18 = .int .i64 pp := hR 18 (by omega)
            have y19 : vt 19 = .slice (some ⟨pb, po, none⟩) i pc := hR 19 (by omega)
            have y20 : vt 20 = .int .i64 k := hR 20 (by omega)
            have y21 : vt 21 = .int .i64 m := hR 21 (by omega)
            have y22 : vt 22 = .pointer (some ⟨pb, po + m * 3, none⟩) := hR 22 (by omega)
            have y23 : vt 23 = .pointer (some ⟨pb, po + m * 3 + 2, none⟩) := hR 23 (by omega)
            have y24 : vt 24 = .int .i64 p1 := hR 24 (by omega)
            have y25 : vt 25 = .int .i64 (L - dk) := hR 25 (by omega)
            have y26 : vt 26 = .int .i64 (d1 - dk) := hR 26 (by omega)
            have y27 : vt 27 = .int .i64 WW := hR 27 (by omega)
            have y28 : vt 28 = .pointer (some ⟨g16, 1, none⟩) := hR 28 (by omega)
            have y29 : vt 29 = .pointer (some ⟨g16, 3, none⟩) := hR 29 (by omega)
            simp only [List.range, List.range.loop, List.foldl_cons, List.foldl_nil, y0, y1, y2, y3, y4, y5, y6, y7, y8, y9, y10, y11, y12, y13, y14, y15, y16, y17, y18, y19, y20, y21, y22, y23, y24, y25, y26, y27, y28, y29, List.drop_succ_cons, List.drop_zero]
            simp only [dstAt, List.getElem?_toArray, List.getElem?_cons_zero, List.getElem?_cons_succ, Option.bind_some, Act.put, List.setIfInBounds_toArray, List.set_cons_zero, List.set_cons_succ]
            clear y0 y1 y2 y3 y4 y5 y6 y7 y8 y9 y10 y11 y12 y13 y14 y15 y16 y17 y18 y19 y20 y21 y22 y23 y24 y25 y26 y27 y28 y29 hR
            replace E0 := Lib.hid (cell_kept hE E0.out)
            replace E1 := Lib.hid (cell_kept hE E1.out)
            replace E2 := Lib.hid (cell_kept hE E2.out)
            replace F0 := Lib.hid (cell_kept hE F0.out)
            replace F1 := Lib.hid (cell_kept hE F1.out)
            replace F2 := Lib.hid (cell_kept hE F2.out)
            replace BF := Lib.hid (BF.out.below hE)
            replace HBC := Lib.hid (HBC.out.trans (Below.mono hE HBC.out.size))
            clear hE
            have s3 := BF.out.cell 3
            have s4 := BF.out.cell 4
            have f3 := BF.out.frozen 3
            have f4 := BF.out.frozen 4
            simp only [List.getElem?_toArray, List.getElem?_cons_zero, List.getElem?_cons_succ] at s3 s4
            go_upto_region 18 with fail
            obtain ⟨wg, hwg⟩ : ∃ W, W = (wf.setCell ⟨g16, 3, none⟩ (.int .i64 ZZ)).setCell ⟨g16, 4, none⟩ (.int .i64 WW) := ⟨_, rfl⟩
            rw [← hwg]
            have BG : Hid (Blk wg g16 140 #[.int .i64 (t + C), .int .i64 x, .int .i64 y, .int .i64 ZZ, .int .i64 WW]) := by show Blk _ _ _ _; rw [hwg]; exact (BF.out.set_ 3 _).set_ 4 _
            have HBG : Hid (Below wb.heap.size wb wg) := by show Below _ _ _; rw [hwg]; exact (HBC.out.setCell HG16.out _).setCell HG16.out _
            clear hwg s3 s4 f3 f4 BF HBC E0 E1 E2 F0 F1 F2 HBT HBW v1' v2' pm wk
            have KX : Hid ((Bell.flown l p v t).take (j + 1) = (Bell.flown l p v t).take j ++ [⟨t + C, x, y, ZZ, WW⟩]) := by
              show _ = _
              have hjl : j < (Bell.flown l p v t).length := by rw [Bell.flown_len, HLEN.out]; exact hlt
              have h1 := Bell.flown_at p v t (l := l) (i := j) (by rw [HLEN.out]; exact hlt)
              rw [HFA.out, HZH.out, HZP.out, Bell.fxAt_get hjl] at h1
              rw [List.take_succ_eq_append_getElem hjl, h1]
            have ROW : Hid (wg.ownsRow w.heap.size 140 5 u10 j (fxCells ((Bell.flown l p v t).take j))) := by
              have h1 := row_ext HOWN.out HBG.out
              unfold OwnTR at h1
              rwa [List.length_take, Bell.flown_len, HLEN.out, Nat.min_eq_left hj] at h1
            have HBJ : Hid (Below w.heap.size w wg) := HB.out.trans (HBG.out.mono HB.out.size)
            have hsz := HBJ.out.size
            have GG := BG.out
            have gc0 := GG.cell 0; have gf0 := GG.frozen 0; have gc1 := GG.cell 1; have gf1 := GG.frozen 1; have gc2 := GG.cell 2; have gf2 := GG.frozen 2; have gc3 := GG.cell 3; have gf3 := GG.frozen 3; have gc4 := GG.cell 4; have gf4 := GG.frozen 4
            simp only [List.getElem?_toArray, List.getElem?_cons_zero, List.getElem?_cons_succ] at gc0 gc1 gc2 gc3 gc4
            clear GG
            clear BG HBG HOWN
            go_wp2_with (at_builtin; refine wpList_append_own _ rfl _ _ 62 rfl w.heap.size 140 i0 (.agg #[.int .i64 0, .int .i64 0, .int .i64 0, .int .i64 0, .int .i64 0]) 5 40 Tryz.underlying62 hi hz0 hz1 hz2 rfl (by decide) _ _ _ rfl (World.ownsRow.alloc ROW.out _) ⟨wg.heap.size, 0, none⟩ 1 1 [.int .i64 (t + C), .int .i64 x, .int .i64 y, .int .i64 ZZ, .int .i64 WW] rfl rfl (cells_five_at wg 140 _ _ _ _ _) (by simp [Value.oneCell']) (by unfold maxLen; omega) (by omega) (by simp; omega) ?_; intro v' w1 hown' hgrow _)
            have R : OwnTR w1 w.heap.size v' ((Bell.flown l p v t).take (j + 1)) := by
              unfold OwnTR
              rw [KX.out, fxCells_snoc, List.length_append, List.length_take, Bell.flown_len, HLEN.out, Nat.min_eq_left hj]
              exact hown'
            have B1 : Below w.heap.size w w1 := Below.grown (HBJ.out.alloc HBJ.out.size _) hgrow (by simp; omega) (fun j hj => (ROW.out.lt j hj).1)
            clear hown' hgrow
            go_wp2
            go_roundw
            case rel => exact ⟨j + 1, by omega, by go_num, by rw [lenBy_succ, ← HLJ.out], R, B1⟩
            case measure => simp [intOf]; omega
          · have hki : k + 1 = i := by have := HKN.out; omega
            have HZH : Hid (Bell.heightAt p L = hh) := by
              show _ = _
              unfold Bell.heightAt
              rw [HN.out, if_pos (by rw [HPL.out]; exact hki), HPL.out, HHH.out, ← hki, Nat.add_sub_cancel]
            have HZP : Hid (Bell.powerAt p L = pp) := by
              show _ = _
              unfold Bell.powerAt
              rw [HN.out, if_pos (by rw [HPL.out]; exact hki), HPL.out, HPPK.out, ← hki, Nat.add_sub_cancel]
            have hk2 : ¬ ((k + 1 : Nat) : Int) < (i : Int) := by omega
            clear hki
            go_upto_region 18 with fail
            clear hk2 wk
            have KX : Hid ((Bell.flown l p v t).take (j + 1) = (Bell.flown l p v t).take j ++ [⟨t + C, x, y, hh, pp⟩]) := by
              show _ = _
              have hjl : j < (Bell.flown l p v t).length := by rw [Bell.flown_len, HLEN.out]; exact hlt
              have h1 := Bell.flown_at p v t (l := l) (i := j) (by rw [HLEN.out]; exact hlt)
              rw [HFA.out, HZH.out, HZP.out, Bell.fxAt_get hjl] at h1
              rw [List.take_succ_eq_append_getElem hjl, h1]
            have ROW : Hid (wd.ownsRow w.heap.size 140 5 u10 j (fxCells ((Bell.flown l p v t).take j))) := by
              have h1 := row_ext HOWN.out HBC.out
              unfold OwnTR at h1
              rwa [List.length_take, Bell.flown_len, HLEN.out, Nat.min_eq_left hj] at h1
            have HBJ : Hid (Below w.heap.size w wd) := HB.out.trans (HBC.out.mono HB.out.size)
            have hsz := HBJ.out.size
            have GG := BF.out
            have gc0 := GG.cell 0; have gf0 := GG.frozen 0; have gc1 := GG.cell 1; have gf1 := GG.frozen 1; have gc2 := GG.cell 2; have gf2 := GG.frozen 2; have gc3 := GG.cell 3; have gf3 := GG.frozen 3; have gc4 := GG.cell 4; have gf4 := GG.frozen 4
            simp only [List.getElem?_toArray, List.getElem?_cons_zero, List.getElem?_cons_succ] at gc0 gc1 gc2 gc3 gc4
            clear GG
            clear BF HBC HOWN
            go_wp2_with (at_builtin; refine wpList_append_own _ rfl _ _ 62 rfl w.heap.size 140 i0 (.agg #[.int .i64 0, .int .i64 0, .int .i64 0, .int .i64 0, .int .i64 0]) 5 40 Tryz.underlying62 hi hz0 hz1 hz2 rfl (by decide) _ _ _ rfl (World.ownsRow.alloc ROW.out _) ⟨wd.heap.size, 0, none⟩ 1 1 [.int .i64 (t + C), .int .i64 x, .int .i64 y, .int .i64 hh, .int .i64 pp] rfl rfl (cells_five_at wd 140 _ _ _ _ _) (by simp [Value.oneCell']) (by unfold maxLen; omega) (by omega) (by simp; omega) ?_; intro v' w1 hown' hgrow _)
            have R : OwnTR w1 w.heap.size v' ((Bell.flown l p v t).take (j + 1)) := by
              unfold OwnTR
              rw [KX.out, fxCells_snoc, List.length_append, List.length_take, Bell.flown_len, HLEN.out, Nat.min_eq_left hj]
              exact hown'
            have B1 : Below w.heap.size w w1 := Below.grown (HBJ.out.alloc HBJ.out.size _) hgrow (by simp; omega) (fun j hj => (ROW.out.lt j hj).1)
            clear hown' hgrow
            go_wp2
            go_roundw
            case rel => exact ⟨j + 1, by omega, by go_num, by rw [lenBy_succ, ← HLJ.out], R, B1⟩
            case measure => simp [intOf]; omega
    · obtain rfl : j = n := by omega
      have hfl : (Bell.flown l p v t).take j = Bell.flown l p v t := List.take_of_length_le (by rw [Bell.flown_len, HLEN.out]; omega)
      have ho := OwnTR.at_ hown.out
      rw [hfl, Bell.flown_len, HLEN.out] at ho
      obtain ⟨A', c', hv, hh, _⟩ := ho
      subst hv
      have HH := Lib.hid hh
      have hN : lenBy l j = Bell.lenTo l (l.length - 1) := by unfold lenBy; rw [if_neg (by omega), HLEN.out]
      obtain ⟨N, hNN⟩ : ∃ N, N = lenBy l j := ⟨_, rfl⟩
      rw [← hNN]
      have HF : Hid (flownF l p v t = if 400000 < N then 4 else trackE (Bell.flown l p v t)) := by show _ = _; unfold flownF; rw [hNN, hN]
      clear hfl hh hN hNN hown hlt hj
      by_cases hbig : 400000 < N
      · have hF4 : flownF l p v t = 4 := by rw [HF.out, if_pos hbig]
        have hr : Hid (RefFlown l p v t (.returned (.tuple #[.slice none 0 0, .int .i64 4])) wr) := ⟨fun _ => by rw [hF4], fun h => by rw [hF4] at h; cases h⟩
        clear hF4
        go_wp2
        (try simp only [Exit.inBlock, Exit.then])
        refine bodyPost_ret (v := .tuple #[.slice none 0 0, .int .i64 4]) (by simp [results, Tryz.results53, go_sem, asAddr]) rfl ?_
        exact ⟨HPP.out _ _ hr.out, HB.out⟩
      · replace HF : Hid (flownF l p v t = trackE (Bell.flown l p v t)) := by show _ = _; rw [HF.out, if_neg hbig]
        go_wp2_with fail
        refine (refTrack_full A' j c' (Bell.flown l p v t) wr HH.out (by omega)).mono ?_
        rintro e wz ⟨rfl, hbz⟩
        have HHz := Lib.hid (HH.out.keep hbz)
        have HBz := Lib.hid (HB.out.trans (hbz.mono HB.out.size))
        obtain ⟨E, hE⟩ : ∃ E, E = trackE (Bell.flown l p v t) := ⟨_, rfl⟩
        rw [← hE] at HF ⊢
        clear hE hbz
        by_cases h0 : E = 0
        · have hr : Hid (RefFlown l p v t (.returned (.tuple #[.slice A' j c', .int .i64 0])) wz) := ⟨fun h => absurd (HF.out.trans h0) h, fun _ => ⟨A', c', by rw [HLEN.out], by rw [HLEN.out]; exact HHz.out⟩⟩
          have h1 : (E != 0) = false := by simp [h0]
          go_wp2
          (try simp only [Exit.inBlock, Exit.then])
          refine bodyPost_ret (v := .tuple #[.slice A' j c', .int .i64 0]) (by simp [results, Tryz.results53, go_sem, asAddr]) rfl ?_
          exact ⟨HPP.out _ _ hr.out, HBz.out⟩
        · have hr : Hid (RefFlown l p v t (.returned (.tuple #[.slice none 0 0, .int .i64 E])) wz) := ⟨fun _ => by rw [HF.out], fun h => absurd (HF.out.symm.trans h) h0⟩
          have h1 : (E != 0) = true := by simp [h0]
          go_wp2
          (try simp only [Exit.inBlock, Exit.then])
          refine bodyPost_ret (v := .tuple #[.slice none 0 0, .int .i64 E]) (by simp [results, Tryz.results53, go_sem, asAddr]) rfl ?_
          exact ⟨HPP.out _ _ hr.out, HBz.out⟩
end Go.Proofs.YtmafmebcgmegeaaGreatDoor
