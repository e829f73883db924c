/- Texts Fh of the proof. -/
import Derived.Test.YtmafmebcgmegeaaGreatDoorFz47
namespace Go.Proofs.YtmafmebcgmegeaaGreatDoor
open Go.RowKit Go.Sort
set_option maxHeartbeats 2000000 in
set_option maxRecDepth 100000 in
theorem fixes_own (A : Option Addr) (n c : Nat) (l : List Bell.Fx) (w : World) (hz : TrAt w A n l) (hn : n ≤ 100000) :
    Calls Tryz.prog 36 #[.slice A n c] w fun e w' => ∃ A' c', e = .returned (.slice A' n c') ∧ OwnT w' w.heap.size (.slice A' n c') l ∧ Below w.heap.size w w' := by
  obtain ⟨i0, hi, hz0, hz1, hz2⟩ := info_parts infoFix; have HZ := Lib.hid hz; clear hz
  go_enter Tryz.func36, Tryz.ntmps36
  go_wp2
  go_loopw [3, 5, 8] (fun v _ i wr => ∃ k : Nat, k ≤ n ∧ i = .int .i64 k ∧ OwnT wr w.heap.size v (l.take k) ∧ Below w.heap.size w wr) (fun _ _ i _ => n - (intOf i).toNat)
  case atStart => exact ⟨0, Nat.zero_le _, rfl, World.ownsRow_nil _ _ _ _, Below.refl _ _⟩
  case round =>
    obtain ⟨k, hk, rfl, hown, hb⟩ := hrel
    by_cases hlt : k < n
    · obtain ⟨b, off, rfl, hcc⟩ := (HZ.out.keep hb).2 (by omega); obtain ⟨P, hP⟩ : ∃ P, P = Bell.fxAt l k := ⟨_, rfl⟩; obtain ⟨c0, c1, c2, c3, c4⟩ := hcc.2 k hlt; rw [← hP] at c0 c1 c2 c3 c4
      have HT : Hid (l.take (k + 1) = l.take k ++ [P]) := by
        show _ = _
        have hkl : k < l.length := by rw [HZ.out.1]; exact hlt
        rw [hP, Bell.fxAt_get hkl]; exact (List.take_append_getElem hkl).symm
      have hown0 : wr.ownsRow w.heap.size 152 5 u3 k (fxCells (l.take k)) := by
        have := hown; unfold OwnT at this
        rwa [List.length_take, HZ.out.1, Nat.min_eq_left hk] at this
      have hsz := hb.size; have HB := Lib.hid hb; clear hcc hP hb hown
      go_wp2_with (at_builtin; refine wpList_append_own _ rfl _ _ 67 rfl w.heap.size 152 i0 (.agg #[.int .i64 0, .int .i64 0, .int .i64 0, .int .i64 0, .int .i64 0]) 5 40 Tryz.underlying67 hi hz0 hz1 hz2 rfl (by decide) _ _ _ rfl (World.ownsRow.alloc (World.ownsRow.alloc hown0 _) _) ⟨wr.heap.size + 1, 0, none⟩ 1 1 [.int .i64 P.t, .int .i64 P.x, .int .i64 P.y, .int .i64 P.z, .int .i64 P.p] rfl rfl (by have := cells_five_at (wr.alloc (.cells #[.int .i64 P.t, .int .i64 P.x, .int .i64 P.y, .int .i64 P.z, .int .i64 P.p] 140)) 152 (.int .i64 P.t) (.int .i64 P.x) (.int .i64 P.y) (.int .i64 P.z) (.int .i64 P.p); rw [World.size_alloc] at this; exact this) (by simp [Value.oneCell']) (by unfold maxLen; omega) (by omega) (by simp; omega) ?_; intro v' w1 hown' hgrow _)
      have R : OwnT w1 w.heap.size v' (l.take (k + 1)) := by
        unfold OwnT; rw [HT.out, fxCells_snoc, List.length_append, List.length_take, HZ.out.1, Nat.min_eq_left hk]; exact hown'
      have B1 : Below w.heap.size w w1 := Below.grown ((HB.out.alloc HB.out.size _).alloc (by simp; omega) _) hgrow (by simp; omega) (fun j hj => (hown0.lt j hj).1); clear hown' hgrow hown0; go_wp2; go_roundw
      case rel => exact ⟨k + 1, by omega, by go_num, R, B1⟩
      case measure => simp [intOf]; omega
    · obtain rfl : k = n := by omega
      have HB := Lib.hid hb; rw [List.take_of_length_le (by rw [HZ.out.1]; omega)] at hown; have ho := OwnT.at_ hown; rw [HZ.out.1] at ho; obtain ⟨A', c', hv, hh, hcap⟩ := ho; subst hv; have HO := Lib.hid hown; clear hb hown hh hcap; go_wp2; go_ret; exact ⟨_, _, rfl, HO.out, HB.out⟩
def flRow (fs : List Fl) : List Value := fs.flatMap fun f => [.string f.nm, .string f.ty, .slice f.A f.n f.c]
theorem flRow_snoc (fs : List Fl) (f : Fl) : flRow (fs ++ [f]) = flRow fs ++ [.string f.nm, .string f.ty, .slice f.A f.n f.c] := by simp [flRow]
theorem flRow_at : ∀ (fs : List Fl) (i : Nat), i < fs.length → (flRow fs)[i * 3]? = some (.string (flAt fs i).nm) ∧ (flRow fs)[i * 3 + 1]? = some (.string (flAt fs i).ty) ∧ (flRow fs)[i * 3 + 2]? = some (.slice (flAt fs i).A (flAt fs i).n (flAt fs i).c)
  | [], i, h => absurd h (Nat.not_lt_zero _)
  | f :: l, 0, _ => ⟨rfl, rfl, rfl⟩
  | f :: l, i + 1, hi => by
    have h : flRow (f :: l) = [.string f.nm, .string f.ty, .slice f.A f.n f.c] ++ flRow l := by simp [flRow]
    have ih := flRow_at l i (by simpa using hi); rw [h, List.getElem?_append_right (by simp; omega), List.getElem?_append_right (by simp; omega), List.getElem?_append_right (by simp; omega)]; rw [show (i + 1) * 3 - [Value.string f.nm, .string f.ty, .slice f.A f.n f.c].length = i * 3 by simp; omega, show (i + 1) * 3 + 1 - [Value.string f.nm, .string f.ty, .slice f.A f.n f.c].length = i * 3 + 1 by simp; omega, show (i + 1) * 3 + 2 - [Value.string f.nm, .string f.ty, .slice f.A f.n f.c].length = i * 3 + 2 by simp; omega]; exact ih
theorem infoFl : (Tryz.prog.info? 168).map (fun i => (i.zero, i.size, i.bytes)) = some (some (.agg #[.string ⟨#[]⟩, .string ⟨#[]⟩, .slice none 0 0]), 3, 56) := by kernel_rfl
def SimF (fs fs' : List Fl) (n : Nat) : Prop := ∀ i, i < n → (flAt fs' i).nm = (flAt fs i).nm ∧ (flAt fs' i).ty = (flAt fs i).ty ∧ (flAt fs' i).tr = (flAt fs i).tr
theorem flAt_snoc (ts : List Fl) (t : Fl) : flAt (ts ++ [t]) ts.length = t := by
  unfold flAt; simp [List.getD_eq_getElem?_getD]
theorem flAt_before (ts : List Fl) (t : Fl) {i : Nat} (h : i < ts.length) : flAt (ts ++ [t]) i = flAt ts i := by
  unfold flAt; simp [List.getD_eq_getElem?_getD, List.getElem?_append_left h]
def OwnFl (W : World) (f : Fl) : Prop := ∃ base, OwnT W base (.slice f.A f.n f.c) f.tr ∧ f.tr.length = f.n
theorem OwnFl.ext {W W' : World} {f : Fl} (h : OwnFl W f) (hE : Ext W W') : OwnFl W' f := by
  obtain ⟨base, h1, h2⟩ := h; exact ⟨base, row_ext h1 hE, h2⟩
theorem OwnFl.grow {W W' : World} {base n : Nat} {v : Value} {xs : List Value} {f : Fl} (h : OwnFl W f) (ho : W.ownsRow base 168 3 v n xs) (hg : W.grownBy W' v.ownBlock) : OwnFl W' f := by
  obtain ⟨base, h1, h2⟩ := h; exact ⟨base, row_row ho hg h1 (by decide), h2⟩
theorem OwnFl.tr {W : World} {f : Fl} (h : OwnFl W f) : TrAt W f.A f.n f.tr := by
  obtain ⟨base, h1, h2⟩ := h; obtain ⟨A, c, hv, ht, _⟩ := OwnT.at_ h1
  injection hv with e1 e2 e3
  rw [h2] at ht
  rwa [← e1] at ht
def GR.fxO (n : Nat) (l : List Bell.Fx) : GR := ⟨fun v W => ∃ A c base, v = .slice A n c ∧ OwnT W base (.slice A n c) l, fun ⟨A, c, b, e, h⟩ hE => ⟨A, c, b, e, row_ext h hE⟩⟩
def GR.flO (nm ty : ByteArray) (n : Nat) (l : List Bell.Fx) : GR := ⟨fun v W => ∃ A c base, v = .agg #[.string nm, .string ty, .slice A n c] ∧ OwnT W base (.slice A n c) l, fun ⟨A, c, b, e, h⟩ hE => ⟨A, c, b, e, row_ext h hE⟩⟩
def GR.flR (nm ty : ByteArray) (n : Nat) (l : List Bell.Fx) : GR := ⟨fun v W => ∃ g A c base, v = .slice (some ⟨g, 0, none⟩) 1 1 ∧ Blk W g 168 #[.string nm, .string ty, .slice A n c] ∧ OwnT W base (.slice A n c) l, fun ⟨g, A, c, b, e, h1, h2⟩ hE => ⟨g, A, c, b, e, h1.below hE, row_ext h2 hE⟩⟩
set_option maxHeartbeats 2000000 in
set_option maxRecDepth 100000 in
theorem flights_any (A : Option Addr) (n c : Nat) (fs : List Fl) (w : World) (hfs : FlsAt w A n fs) (hS : ∀ i, i < n → (flAt fs i).n ≤ 100000) (hn : n ≤ 100000) :
    Calls Tryz.prog 65 #[.slice A n c] w fun e w' => ∃ A' c' fs', e = .returned (.slice A' n c') ∧ FlsAt w' A' n fs' ∧ SimF fs fs' n ∧ Below w.heap.size w w' := by
  obtain ⟨iT, hiT, hzT, hsT, hbT⟩ := info_parts infoFl; have HFS := Lib.hid hfs; have HS := Lib.hid hS; clear hfs hS
  go_enter Tryz.func65, Tryz.ntmps65
  go_wp2
  go_loopw [3, 5, 8] (fun v _ i wr => ∃ (k : Nat) (fs' : List Fl), k ≤ n ∧ i = .int .i64 k ∧ fs'.length = k ∧ Hid (wr.ownsRow w.heap.size 168 3 v k (flRow fs')) ∧ Hid (∀ i, i < k → OwnFl wr (flAt fs' i)) ∧ Hid (SimF fs fs' k) ∧ Hid (Below w.heap.size w wr)) (fun _ _ i _ => n - (intOf i).toNat)
  case atStart => exact ⟨0, [], Nat.zero_le _, rfl, rfl, World.ownsRow_nil _ _ _ _, (fun i hi => by omega), (fun i hi => by omega), Below.refl _ _⟩
  case round =>
    obtain ⟨k, fs', hk, rfl, hlen, hown, hall, hsim, hb⟩ := hrel
    by_cases hlt : k < n
    · have pk : (k : Int) < (n : Int) := by omega
      have HB := Lib.hid hb.out; obtain ⟨b, o, rfl, hc⟩ := (HFS.out.keep HB.out).2 (by omega); obtain ⟨⟨c0, c1, c2⟩, hok⟩ := hc k hlt; have hsn := HS.out k hlt; obtain ⟨f, hf⟩ : ∃ f, f = flAt fs k := ⟨_, rfl⟩; have HFK := Lib.hid hf; rw [← hf] at c0 c1 c2 hok hsn; have HTR := Lib.hid hok.tr; have HSN := Lib.hid hsn; clear hc hok hf hb hsn
      go_upto_region 5 with fail
      obtain ⟨wa, hwa⟩ : ∃ W, W = (wr.alloc (.cells #[.string f.nm, .string f.ty, .slice f.A f.n f.c] 151)) := ⟨_, rfl⟩; rw [← hwa]; have B : Hid (Blk wa (wr.heap.size) 151 #[.string f.nm, .string f.ty, .slice f.A f.n f.c]) := by show Blk _ _ _ _; rw [hwa]; exact Blk.new _ _ _
      have hba : Below wr.heap.size wr wa := by rw [hwa]; exact ((Below.refl _ _).alloc (Nat.le_refl _) _)
      obtain ⟨g5, hg5⟩ : ∃ g, g = wr.heap.size := ⟨_, rfl⟩; have HGwa : Hid (g5 = wr.heap.size) := hg5; rw [← hg5] at B
      try rw [← hg5]
      clear hwa hg5; clear c0 c1 c2; have HBA := Lib.hid hba; replace HB := Lib.hid (HB.out.trans (hba.mono HB.out.size)); clear hba; have HTA := Lib.hid (HTR.out.keep HBA.out); refine wp_region_grow 10 (by kernel_rfl) (by kernel_rfl) [GR.eq (u3), GR.eq (.pointer (some ⟨g5, 0, none⟩)), GR.eq (.string f.nm), GR.eq (.pointer (some ⟨g5, 1, none⟩)), GR.eq (.string f.ty), GR.eq (.pointer (some ⟨g5, 2, none⟩)), GR.eq (.slice f.A f.n f.c), GR.fxO f.n f.tr, GR.flO f.nm f.ty f.n f.tr, GR.flR f.nm f.ty f.n f.tr] 25 rfl (by kernel_rfl) ?_ ?_
      · refine ⟨?_, ?_, ?_, ?_, ?_, ?_, ?_, ?_, ?_, ?_, trivial⟩
        · intro a W hE hd ho; have e3 : a.tmps[3]?.getD undef = u3 := ho 3 (by kernel_rfl); exact gs_same (v := u3) (by go_simp) rfl
        · intro a W hE hd ho; have e5 : a.tmps[5]?.getD undef = .pointer (some ⟨g5, 0, none⟩) := ho 5 (by kernel_rfl); exact gs_same (v := .pointer (some ⟨g5, 0, none⟩)) (by go_simp) rfl
        · intro a W hE hd ho; have e13 : a.tmps[13]?.getD undef = .pointer (some ⟨g5, 0, none⟩) := hd 1 13 (by kernel_rfl) (by kernel_rfl); have c0 := (B.out.below hE).cell 0; simp only [List.getElem?_toArray, List.getElem?_cons_zero, List.getElem?_cons_succ] at c0; exact gs_same (v := .string f.nm) (by go_simp) rfl
        · intro a W hE hd ho; have e5 : a.tmps[5]?.getD undef = .pointer (some ⟨g5, 0, none⟩) := ho 5 (by kernel_rfl); exact gs_same (v := .pointer (some ⟨g5, 1, none⟩)) (by go_simp) rfl
        · intro a W hE hd ho; have e15 : a.tmps[15]?.getD undef = .pointer (some ⟨g5, 1, none⟩) := hd 3 15 (by kernel_rfl) (by kernel_rfl); have c1 := (B.out.below hE).cell 1; simp only [List.getElem?_toArray, List.getElem?_cons_zero, List.getElem?_cons_succ] at c1; exact gs_same (v := .string f.ty) (by go_simp) rfl
        · intro a W hE hd ho; have e5 : a.tmps[5]?.getD undef = .pointer (some ⟨g5, 0, none⟩) := ho 5 (by kernel_rfl); exact gs_same (v := .pointer (some ⟨g5, 2, none⟩)) (by go_simp) rfl
        · intro a W hE hd ho; have e17 : a.tmps[17]?.getD undef = .pointer (some ⟨g5, 2, none⟩) := hd 5 17 (by kernel_rfl) (by kernel_rfl); have c2 := (B.out.below hE).cell 2; simp only [List.getElem?_toArray, List.getElem?_cons_zero, List.getElem?_cons_succ] at c2; exact gs_same (v := .slice f.A f.n f.c) (by go_simp) rfl
        · intro a W hE hd ho; have e18 : a.tmps[18]?.getD undef = .slice f.A f.n f.c := hd 6 18 (by kernel_rfl) (by kernel_rfl); refine gs_call (f := 36) (args := #[.slice f.A f.n f.c]) (by go_simp) ?_; refine (fixes_own f.A f.n f.c f.tr W (HTA.out.keep hE) HSN.out).mono ?_; rintro e w9 ⟨A', c', rfl, h1, h2⟩; exact ⟨_, rfl, h2, A', c', _, rfl, h1⟩
        · intro a W hE hd ho; have e14 : a.tmps[14]?.getD undef = .string f.nm := hd 2 14 (by kernel_rfl) (by kernel_rfl); have e16 : a.tmps[16]?.getD undef = .string f.ty := hd 4 16 (by kernel_rfl) (by kernel_rfl); obtain ⟨A', c', bs, e19, h1⟩ : ∃ A c base, a.tmps[19]?.getD undef = .slice A f.n c ∧ OwnT W base (.slice A f.n c) f.tr := hd 7 19 (by kernel_rfl) (by kernel_rfl); exact gs_same (v := .agg #[.string f.nm, .string f.ty, .slice A' f.n c']) (by go_simp) ⟨A', c', bs, rfl, h1⟩
        · intro a W hE hd ho; obtain ⟨A', c', bs, e20, h1⟩ : ∃ A c base, a.tmps[20]?.getD undef = .agg #[.string f.nm, .string f.ty, .slice A f.n c] ∧ OwnT W base (.slice A f.n c) f.tr := hd 8 20 (by kernel_rfl) (by kernel_rfl); exact gs_val (v := .slice (some ⟨W.heap.size, 0, none⟩) 1 1) (W' := W.alloc (.cells #[.string f.nm, .string f.ty, .slice A' f.n c'] 168)) (by go_simp) ((Below.refl _ _).alloc (Nat.le_refl _) _) ⟨_, A', c', bs, rfl, Blk.new _ _ _, row_ext h1 ((Below.refl _ _).alloc (Nat.le_refl _) _)⟩
      intro vb wb hE hR; have y0 : vb 0 = u3 := hR 0 (by omega); have y1 : vb 1 = .pointer (some ⟨g5, 0, none⟩) := hR 1 (by omega); have y2 : vb 2 = .string f.nm := hR 2 (by omega); have y3 : vb 3 = .pointer (some ⟨g5, 1, none⟩) := hR 3 (by omega); have y4 : vb 4 = .string f.ty := hR 4 (by omega); have y5 : vb 5 = .pointer (some ⟨g5, 2, none⟩) := hR 5 (by omega); have y6 : vb 6 = .slice f.A f.n f.c := hR 6 (by omega); obtain ⟨zz7, y7⟩ : ∃ v, vb 7 = v := ⟨_, rfl⟩; obtain ⟨zz8, y8⟩ : ∃ v, vb 8 = v := ⟨_, rfl⟩; obtain ⟨gN, A', c', bs, y9, BN, ho⟩ : ∃ g A c base, vb 9 = .slice (some ⟨g, 0, none⟩) 1 1 ∧ Blk wb g 168 #[.string f.nm, .string f.ty, .slice A f.n c] ∧ OwnT wb base (.slice A f.n c) f.tr := hR 9 (by omega); simp only [List.range, List.range.loop, List.foldl_cons, List.foldl_nil, y0, y1, y2, y3, y4, y5, y6, y7, y8, y9, List.drop_succ_cons, List.drop_zero]; simp only [dstAt, List.getElem?_toArray, List.getElem?_cons_zero, List.getElem?_cons_succ, Option.bind_some, Act.put, List.setIfInBounds_toArray, List.set_cons_zero, List.set_cons_succ]
      clear y0 y1 y2 y3 y4 y5 y6 y7 y8 y9 hR; have hsz := HB.out.size; have hE5 : Ext wa wb := hE; have hszb := hE5.below.size; have hE6 := hE5.below; replace HB := Lib.hid (HB.out.trans (hE6.mono HB.out.size)); clear hE6; have row5 := row_ext (row_ext hown.out HBA.out) hE5; have HAL : Hid (∀ i, i < k → OwnFl wb (flAt fs' i)) := fun i hi => ((hall.out i hi).ext HBA.out).ext hE5
      have hw5 : w.heap.size ≤ wb.heap.size := by omega
      obtain ⟨f', hf'⟩ : ∃ f', f' = (⟨f.nm, f.ty, f.tr, A', f.n, c'⟩ : Fl) := ⟨_, rfl⟩; have HO : Hid (OwnFl wb f') := by show OwnFl _ _; rw [hf']; exact ⟨bs, ho, HTR.out.1⟩
      have HRW : Hid (flRow (fs' ++ [f']) = flRow fs' ++ [.string f.nm, .string f.ty, .slice A' f.n c']) := by show _ = _; rw [flRow_snoc, hf']
      have HSM : Hid (f'.nm = f.nm ∧ f'.ty = f.ty ∧ f'.tr = f.tr) := by show _ ∧ _ ∧ _; rw [hf']; exact ⟨rfl, rfl, rfl⟩
      have HBN : Hid (∀ (j : Nat) (u : Value), ([.string f.nm, .string f.ty, .slice A' f.n c'] : List Value)[j]? = some u → wb.cell? ((⟨gN, 0, none⟩ : Addr).add j) = some u) := fun j u hu => by
        rw [addAddr, Nat.zero_add, BN.cell j]
        simpa using hu
      clear hE hE5 BN ho hf' HTR HTA HSN HBA B; refine wpList_append_own _ rfl _ _ 115 rfl w.heap.size 168 iT (.agg #[.string ⟨#[]⟩, .string ⟨#[]⟩, .slice none 0 0]) 3 56 Tryz.underlying115 hiT hzT hsT hbT rfl (by decide) u3 k (flRow fs') rfl row5 ⟨gN, 0, none⟩ 1 1 [.string f.nm, .string f.ty, .slice A' f.n c'] rfl rfl HBN.out (by simp [Value.oneCell']) (by unfold maxLen; omega) (by omega) hw5 ?_; intro v' w1 hown' hgrow _
      have R : Hid (w1.ownsRow w.heap.size 168 3 v' (k + 1) (flRow (fs' ++ [f']))) := by
        show World.ownsRow _ _ _ _ _ _ _
        rw [HRW.out]; exact hown'
      have B1 : Hid (Below w.heap.size w w1) := Below.grown HB.out hgrow hw5 (fun j hj => (row5.lt j hj).1)
      have AL : Hid (∀ i, i < k + 1 → OwnFl w1 (flAt (fs' ++ [f']) i)) := fun i hi => by
        rcases Nat.lt_or_ge i k with h | h
        · rw [flAt_before _ _ (by omega)]; exact (HAL.out i h).grow row5 hgrow
        · obtain rfl : i = k := by omega
          rw [show flAt (fs' ++ [f']) i = f' by have := flAt_snoc fs' f'; rwa [hlen] at this]; exact HO.out.grow row5 hgrow
      have SM : Hid (SimF fs (fs' ++ [f']) (k + 1)) := fun i hi => by
        rcases Nat.lt_or_ge i k with h | h
        · rw [flAt_before _ _ (by omega)]; exact hsim.out i h
        · obtain rfl : i = k := by omega
          rw [show flAt (fs' ++ [f']) i = f' by have := flAt_snoc fs' f'; rwa [hlen] at this, ← HFK.out]; exact HSM.out
      clear hown' hgrow row5 HBN hown hall; go_wp2; go_roundw
      case rel => exact ⟨k + 1, fs' ++ [f'], by omega, by go_num, by simp [hlen], R, AL, SM, B1⟩
      case measure => simp [intOf]; omega
    · obtain rfl : k = n := by omega
      have HB := Lib.hid hb.out
      have ok : ∀ i, i < k → FlOk wr (flAt fs' i) := fun i hi => by
        have h1 := (hall.out i hi).tr; obtain ⟨e1, e2, e3⟩ := hsim.out i hi; obtain ⟨b, o, _, hc⟩ := HFS.out.2 (by omega); have hk := (hc i hi).2; refine ⟨h1, ?_, by rw [e1]; exact hk.sz⟩; have h2 := h1.1; have h3 := hk.tr.1; have h4 := HS.out i hi; rw [e3] at h2
        omega
      have HT : Hid (∃ A' c', u3 = .slice A' k c' ∧ FlsAt wr A' k fs') := by
        show ∃ A' c', _
        have h0 := hown.out; rcases hown.out.2 with ⟨h1, h2⟩ | ⟨g, cap, cur, h1, _⟩
        · subst h2; exact ⟨none, 0, h1, hlen, fun h => absurd h (by omega)⟩
        · rw [h1] at h0; refine ⟨_, cap, h1, hlen, fun _ => ⟨g, 0, rfl, fun i hi => ⟨?_, ok i hi⟩⟩⟩; obtain ⟨p0, p1, p2⟩ := flRow_at fs' i (by omega); rw [Nat.zero_add]; refine ⟨?_, ?_, ?_⟩
          · rw [World.ownsRow.cellAt h0 (i * 3) (by omega)]; exact p0
          · rw [World.ownsRow.cellAt h0 (i * 3 + 1) (by omega)]; exact p1
          · rw [World.ownsRow.cellAt h0 (i * 3 + 2) (by omega)]; exact p2
      obtain ⟨A', c', hv, ht⟩ := HT.out; have HTT := Lib.hid ht; subst hv; clear ht HT hown hall hb ok; go_wp2; go_ret; exact ⟨A', c', fs', rfl, HTT.out, hsim.out, HB.out⟩
end Go.Proofs.YtmafmebcgmegeaaGreatDoor
