/- Texts QI Q4 Q5 of the proof. -/
import Derived.OwnWalk
import Derived.Laws.OwnMore
import Derived.Test.YtmafmebcgmegeaaGreatDoorFz25
import Derived.Test.YtmafmebcgmegeaaGreatDoorFz17
namespace Go.Proofs.YtmafmebcgmegeaaGreatDoor
open Go.RowKit Go.Sort
theorem infoLoud : (Tryz.prog.info? 213).map (fun i => (i.zero, i.size, i.bytes)) = some (some (.agg #[.string ⟨#[]⟩, .string ⟨#[]⟩, .slice none 0 0, .int .i64 0]), 4, 64) := by kernel_rfl
def loudRow (fs : List Fl) (V : Nat → Int) : Nat → List Value
  | 0 => []
  | k + 1 => loudRow fs V k ++ [.string (flAt fs k).nm, .string (flAt fs k).ty, .slice (flAt fs k).A (flAt fs k).n (flAt fs k).c, .int .i64 (V k)]
theorem loudRow_length (fs : List Fl) (V : Nat → Int) (k : Nat) : (loudRow fs V k).length = k * 4 := by
  induction k with
  | zero => rfl
  | succ k ih => simp only [loudRow, List.length_append, ih, List.length_cons, List.length_nil]; omega
theorem loudRow_at (fs : List Fl) (V : Nat → Int) : ∀ (n i : Nat), i < n → (loudRow fs V n)[i * 4]? = some (.string (flAt fs i).nm) ∧ (loudRow fs V n)[i * 4 + 1]? = some (.string (flAt fs i).ty) ∧ (loudRow fs V n)[i * 4 + 2]? = some (.slice (flAt fs i).A (flAt fs i).n (flAt fs i).c) ∧ (loudRow fs V n)[i * 4 + 3]? = some (.int .i64 (V i))
  | 0, _, h => absurd h (Nat.not_lt_zero _)
  | n + 1, i, h => by
    have hl := loudRow_length fs V n; rcases Nat.lt_or_ge i n with h' | h'
    · obtain ⟨a, b, c, d⟩ := loudRow_at fs V n i h'; simp only [loudRow]; rw [List.getElem?_append_left (by omega), List.getElem?_append_left (by omega), List.getElem?_append_left (by omega), List.getElem?_append_left (by omega)]; exact ⟨a, b, c, d⟩
    · obtain rfl : i = n := by omega
      simp only [loudRow]; rw [List.getElem?_append_right (by omega), List.getElem?_append_right (by omega), List.getElem?_append_right (by omega), List.getElem?_append_right (by omega), hl]
      simp
def LoudsAt (w : World) (g n : Nat) (fs : List Fl) (V : Nat → Int) : Prop :=
  ∀ i, i < n → w.cell? ⟨g, i * 4, none⟩ = some (.string (flAt fs i).nm) ∧ w.cell? ⟨g, i * 4 + 1, none⟩ = some (.string (flAt fs i).ty) ∧ w.cell? ⟨g, i * 4 + 2, none⟩ = some (.slice (flAt fs i).A (flAt fs i).n (flAt fs i).c) ∧ w.cell? ⟨g, i * 4 + 3, none⟩ = some (.int .i64 (V i))
theorem LoudsAt.keep {w w' : World} {g n : Nat} {fs : List Fl} {V : Nat → Int} (h : LoudsAt w g n fs V) (hb : Below w.heap.size w w') : LoudsAt w' g n fs V := fun i hi => by
  have k : ∀ {j : Nat} {v : Value}, w.cell? ⟨g, j, none⟩ = some v → w'.cell? ⟨g, j, none⟩ = some v := fun {j v} hc => by
    rw [hb.cell (p := ⟨g, j, none⟩) (World.block_lt_of_cell? _ _ hc)]; exact hc
  obtain ⟨a, b, c, d⟩ := h i hi; exact ⟨k a, k b, k c, k d⟩
theorem louds_of {w : World} {base g n : Nat} {fs : List Fl} {V : Nat → Int} (h : w.ownsRow base 213 4 (.slice (some ⟨g, 0, none⟩) n n) n (loudRow fs V n)) : LoudsAt w g n fs V := fun i hi => by
  obtain ⟨a, b, c, d⟩ := loudRow_at fs V n i hi; exact ⟨(h.cellAt _ (by omega)).trans a, (h.cellAt _ (by omega)).trans b, (h.cellAt _ (by omega)).trans c, (h.cellAt _ (by omega)).trans d⟩
theorem cells_four_at (w : World) (t : TypeId) (a b c d : Value) : ∀ (j : Nat) (u : Value), [a, b, c, d][j]? = some u → (w.alloc (.cells #[a, b, c, d] t)).cell? ((⟨w.heap.size, 0, none⟩ : Addr).add j) = some u := fun j u h => by
  rw [addAddr, Nat.zero_add, (Blk.new w t #[a, b, c, d]).cell j]
  simpa using h
set_option maxHeartbeats 1000000 in
set_option maxRecDepth 100000 in
theorem mapped_loud (A : Option Addr) (n c : Nat) (fs : List Fl) (V : Nat → Int) (gk ga gr : Nat) (w : World) (hfs : FlsAt w A n fs) (hn : n ≤ 16)
    (hcl : ∀ i, i < n → ∀ W, Below w.heap.size w W → Calls Tryz.prog 188 #[.agg (flV (flAt fs i)), .pointer (some ⟨gk, 0, none⟩), .pointer (some ⟨ga, 0, none⟩), .pointer (some ⟨gr, 0, none⟩)] W fun e w' => e = .returned (.agg (loudV (flAt fs i).nm (flAt fs i).ty (flAt fs i).A (flAt fs i).n (flAt fs i).c (V i))) ∧ Below W.heap.size W w') :
    Calls Tryz.prog 187 #[.slice A n c, .func (.func 188) #[] #[.pointer (some ⟨gk, 0, none⟩), .pointer (some ⟨ga, 0, none⟩), .pointer (some ⟨gr, 0, none⟩)]] w
      fun e w' => e = .returned (.slice (some ⟨w.heap.size, 0, none⟩) n n) ∧ LoudsAt w' w.heap.size n fs V ∧ Below w.heap.size w w' := by
  obtain ⟨i0, hi, hz0, hz1, hz2⟩ := info_parts infoLoud; have HF := Lib.hid hfs; have HCL := Lib.hid hcl; clear hfs hcl
  go_enter Tryz.func187, Tryz.ntmps187
  go_wp2_with (at_make; refine wpList_make_own _ rfl _ _ 209 rfl w.heap.size 213 i0 (.agg #[.string ⟨#[]⟩, .string ⟨#[]⟩, .slice none 0 0, .int .i64 0]) 4 Tryz.underlying209 hi hz0 hz1 _ _ _ n rfl rfl rfl (by rw [hz2]; omega) (by unfold maxLen; omega) (by simp) ?_; intro w1 hown hg1)
  obtain ⟨g, hg⟩ : ∃ g, g = w.heap.size := ⟨_, rfl⟩; rw [← hg] at hown ⊢; have HG : Hid (g = w.heap.size) := hg; have HO : Hid (w1.ownsRow g 213 4 (.slice (some ⟨g, 0, none⟩) 0 n) 0 (loudRow fs V 0)) := hown; have HB1 : Hid (Below w.heap.size w w1) := Below.grown (Below.refl _ _) hg1 (Nat.le_refl _) (fun k hk => by cases hk); clear hown hg1 hg; go_wp2
  go_loopw [5, 13] (fun v i wr => ∃ k : Nat, k ≤ n ∧ i = .int .i64 k ∧ v = .slice (some ⟨g, 0, none⟩) k n ∧ Hid (wr.ownsRow g 213 4 (.slice (some ⟨g, 0, none⟩) k n) k (loudRow fs V k)) ∧ Hid (Below w.heap.size w wr)) (fun _ i _ => n - (intOf i).toNat)
  case atStart => exact ⟨0, Nat.zero_le _, rfl, rfl, HO, HB1⟩
  case round =>
    clear HO HB1; obtain ⟨k, hk, rfl, rfl, hO, hB⟩ := hrel
    by_cases hlt : k < n
    · obtain ⟨b, o, rfl, hc⟩ := (HF.out.keep hB.out).2 (by omega); obtain ⟨⟨c1, c2, c3⟩, hok⟩ := hc k hlt; have HK := Lib.hid (HCL.out k hlt); have HR : Hid (loudRow fs V (k + 1) = loudRow fs V k ++ [.string (flAt fs k).nm, .string (flAt fs k).ty, .slice (flAt fs k).A (flAt fs k).n (flAt fs k).c, .int .i64 (V k)]) := rfl; obtain ⟨f, hf⟩ : ∃ f, f = flAt fs k := ⟨_, rfl⟩; obtain ⟨x, hx⟩ : ∃ x, x = V k := ⟨_, rfl⟩; rw [← hf] at c1 c2 c3 HK HR; rw [← hx] at HK HR; clear hc hok hf hx HF
      go_upto_region 5 with fail
      obtain ⟨wa, hwa⟩ : ∃ W, W = (wr.alloc (.cells #[.string f.nm, .string f.ty, .slice f.A f.n f.c] 168)) := ⟨_, rfl⟩; rw [← hwa]; have B : Hid (Blk wa (wr.heap.size) 168 #[.string f.nm, .string f.ty, .slice f.A f.n f.c]) := by show Blk _ _ _ _; rw [hwa]; exact Blk.new _ _ _
      have hba : Below wr.heap.size wr wa := by rw [hwa]; exact ((Below.refl _ _).alloc (Nat.le_refl _) _)
      obtain ⟨gx, hgx⟩ : ∃ g, g = wr.heap.size := ⟨_, rfl⟩; have HGwa : Hid (gx = wr.heap.size) := hgx; rw [← hgx] at B
      try rw [← hgx]
      clear hwa hgx; have BB := B.out; have zc0 := BB.cell 0; have zf0 := BB.frozen 0; have zc1 := BB.cell 1; have zf1 := BB.frozen 1; have zc2 := BB.cell 2; have zf2 := BB.frozen 2; simp only [List.getElem?_toArray, List.getElem?_cons_zero, List.getElem?_cons_succ] at zc0 zc1 zc2; clear BB; replace hB := Lib.hid (hB.out.trans (hba.mono hB.out.size)); replace hO : Hid (wa.ownsRow g 213 4 (.slice (some ⟨g, 0, none⟩) k n) k (loudRow fs V k)) := World.ownsRow.kept hO.out (row := none) ⟨hba.os, hba.tape, hba.output, hba.size, fun k hk _ => hba.block k hk⟩ (Classical.em _); clear hba c1 c2 c3 B
      go_wp2_with fail
      refine (HK.out wa hB.out).mono ?_; rintro e wb ⟨rfl, hb⟩; unfold loudV; replace hO : Hid (wb.ownsRow g 213 4 (.slice (some ⟨g, 0, none⟩) k n) k (loudRow fs V k)) := World.ownsRow.kept hO.out (row := none) ⟨hb.os, hb.tape, hb.output, hb.size, fun k hk _ => hb.block k hk⟩ (Classical.em _); replace hB := Lib.hid (hB.out.trans (hb.mono hB.out.size)); have hsz := hB.out.size; clear hb zc0 zc1 zc2 zf0 zf1 zf2 HK
      go_wp2_with (at_builtin; refine wpList_append_fits _ rfl _ _ 209 rfl g 213 i0 4 Tryz.underlying209 hi hz1 g k n (loudRow fs V k) rfl (World.ownsRow.alloc hO.out _) ⟨wb.heap.size, 0, none⟩ 1 1 [.string f.nm, .string f.ty, .slice f.A f.n f.c, .int .i64 x] rfl rfl (cells_four_at _ _ _ _ _ _) (by simp [Value.oneCell']) (by omega) ?_; intro w3 hown' hgrow)
      have R : Hid (w3.ownsRow g 213 4 (.slice (some ⟨g, 0, none⟩) (k + 1) n) (k + 1) (loudRow fs V (k + 1))) := by
        show World.ownsRow _ _ _ _ _ _ _
        rw [HR.out]; exact hown'
      have hle : Hid (w.heap.size ≤ g) := by show _ ≤ _; rw [HG.out]; exact Nat.le_refl _
      have B3 : Hid (Below w.heap.size w w3) := Below.grown (hB.out.alloc hsz _) hgrow (by simp; omega) (fun j hj => by cases hj; exact hle.out); clear hown' hgrow hO; go_wp2; go_roundw
      case rel => exact ⟨k + 1, by omega, by go_num, rfl, R, B3⟩
      case measure => simp [intOf]; omega
    · obtain rfl : k = n := by omega
      go_wp2
      go_ret
      exact ⟨by rw [HG.out]; rfl, by rw [← HG.out]; exact louds_of hO.out, hB.out⟩
end Go.Proofs.YtmafmebcgmegeaaGreatDoor

namespace Go.Proofs.YtmafmebcgmegeaaGreatDoor
open Go.RowKit Go.Sort
set_option maxHeartbeats 1000000 in
set_option maxRecDepth 100000 in
theorem checkPath_any (A : Option Addr) (n c : Nat) (l : List Bell.Pt) (w : World) (hl : PtsAt w A n l) (hn : n ≤ 140737488351232) :
    Calls Tryz.prog 127 #[.slice A n c] w fun e w' => e = .returned (.int .i64 (pathE l)) ∧ Below w.heap.size w w' := by
  have HL := Lib.hid hl; have HN := Lib.hid hl.1; obtain ⟨V, hV⟩ : ∃ V, V = pathE l := ⟨_, rfl⟩; have HV : Hid (V = andE (lengthE n 16) (firstR (ptAtE l) n)) := by show _ = _; rw [hV, ← hl.1]; rfl
  rw [← hV]; clear hl hV
  go_enter Tryz.func127, Tryz.ntmps127
  go_wp2_with fail
  refine (length_pt A n c 16 w).mono ?_; rintro e w' ⟨rfl, rfl⟩; obtain ⟨E, hE⟩ : ∃ E, E = lengthE n 16 := ⟨_, rfl⟩; rw [← hE] at HV ⊢; clear hE
  by_cases h0 : E = 0
  case neg =>
    have hr : V = E := by rw [HV.out, andE_n h0]
    go_wp2
    go_ret
    exact ⟨ret_int hr.symm, Below.refl _ _⟩
  replace HV : Hid (V = firstR (ptAtE l) n) := by show _ = _; rw [HV.out, andE_0 h0]
  subst h0; go_wp2
  go_loopw [4, 5, 6, 14] (fun _ _ _ k wr => ∃ j : Nat, j ≤ n ∧ k = .int .i64 j ∧ Hid (∀ i, i < j → ptAtE l i = 0) ∧ Hid (Below w'.heap.size w' wr)) (fun _ _ _ k _ => n - (intOf k).toNat)
  case atStart => exact ⟨0, Nat.zero_le _, rfl, (fun i hi => by omega), Below.refl _ _⟩
  case round =>
    obtain ⟨j, hj, rfl, hz, hb⟩ := hrel
    by_cases hlt : j < n
    · have HLr := Lib.hid (HL.out.keep hb.out); obtain ⟨b, o, rfl, hc⟩ := HLr.out.2 (by omega); obtain ⟨c1, c2⟩ := hc j hlt; have HJ : Hid (ptAtE l j = andE (firstE [withinE (Bell.ptAt l j).x (-100000) 100000, withinE (Bell.ptAt l j).y (-100000) 100000]) (if 0 < j ∧ (Bell.ptAt l j).x = (Bell.ptAt l (j - 1)).x ∧ (Bell.ptAt l j).y = (Bell.ptAt l (j - 1)).y then 9 else 0)) := rfl; obtain ⟨x, hx⟩ : ∃ x, x = (Bell.ptAt l j).x := ⟨_, rfl⟩; obtain ⟨y, hy⟩ : ∃ y, y = (Bell.ptAt l j).y := ⟨_, rfl⟩; rw [← hx] at c1 HJ; rw [← hy] at c2 HJ; clear hc hx hy
      go_upto_region 7 with fail
      have HB := hb; clear hb; obtain ⟨wa, hwa⟩ : ∃ W, W = (wr.alloc (.cells #[.int .i64 x, .int .i64 y] 30)) := ⟨_, rfl⟩; rw [← hwa]; have P : Hid (Blk wa (wr.heap.size) 30 #[.int .i64 x, .int .i64 y]) := by show Blk _ _ _ _; rw [hwa]; exact Blk.new _ _ _
      have hba : Below wr.heap.size wr wa := by rw [hwa]; exact ((Below.refl _ _).alloc (Nat.le_refl _) _)
      obtain ⟨gp, hgp⟩ : ∃ g, g = wr.heap.size := ⟨_, rfl⟩; have HGwa : Hid (gp = wr.heap.size) := hgp; rw [← hgp] at P
      try rw [← hgp]
      clear hwa hgp; replace HB := Lib.hid (HB.out.trans (hba.mono HB.out.size)); clear hba; clear c1 c2; have a0 := fun d os => cell_regrown (P.out.cell 0) d os
      have a1 := fun d os => cell_regrown (P.out.cell 1) d os
      have f0 := fun nd ns => Calls.regrown_of (Calls.grow_same (srcFar_st x (grow (redrawn wa nd) ns)))
      have f1 := fun nd ns => Calls.regrown_of (Calls.grow_same (srcFar_st y (grow (redrawn wa nd) ns)))
      refine wp_region_below_tail 6 (by kernel_rfl) (by kernel_rfl) ?_; simp only [List.take_succ_cons, List.take_zero, List.drop_succ_cons, List.drop_zero]
      iterate 2 (quiet_step (fail))
      quiet_step (exact f0 _ _)
      iterate 2 (quiet_step (fail))
      quiet_step (exact f1 _ _)
      refine wpQuiet_nil ?_; intro wb hq1; obtain ⟨⟨dq, osq⟩, hq2⟩ := hq1; have hbb := below_regrown wa dq osq; rw [← hq2] at hbb; clear hq2; replace HB := Lib.hid (HB.out.trans (hbb.mono HB.out.size)); replace P := Lib.hid (P.out.below hbb); clear hbb; clear a0 a1 f0 f1
      go_wp2_with fail
      obtain ⟨wc, hwc⟩ : ∃ W, W = (wb.alloc (.cells #[.int .i64 (withinE x (-100000) 100000), .int .i64 (withinE y (-100000) 100000)] 37)) := ⟨_, rfl⟩; rw [← hwc]; have ES : Hid (Blk wc (wb.heap.size) 37 #[.int .i64 (withinE x (-100000) 100000), .int .i64 (withinE y (-100000) 100000)]) := by show Blk _ _ _ _; rw [hwc]; exact Blk.new _ _ _
      have hbc : Below wb.heap.size wb wc := by rw [hwc]; exact ((Below.refl _ _).alloc (Nat.le_refl _) _)
      obtain ⟨ge, hge⟩ : ∃ g, g = wb.heap.size := ⟨_, rfl⟩; have HGwc : Hid (ge = wb.heap.size) := hge; rw [← hge] at ES
      try rw [← hge]
      clear hwc hge; replace HB := Lib.hid (HB.out.trans (hbc.mono HB.out.size)); replace P := Lib.hid (P.out.below hbc); clear hbc; refine (first2 _ _ (withinE x (-100000) 100000) (withinE y (-100000) 100000) _ (ES.out.cell 0) (ES.out.cell 1)).mono ?_; rintro e w2 ⟨rfl, rfl⟩; clear ES; obtain ⟨F, hF⟩ : ∃ F, F = firstE [withinE x (-100000) 100000, withinE y (-100000) 100000] := ⟨_, rfl⟩; rw [← hF] at HJ ⊢; clear hF
      by_cases hF0 : F = 0
      case neg =>
        have hr : Hid (V = F) := by
          show _ = _
          rw [HV.out, firstR_hit hlt hz.out (by rw [HJ.out, andE_n hF0]; exact hF0), HJ.out, andE_n hF0]
        go_wp2
        go_ret
        exact ⟨ret_int hr.out.symm, HB.out⟩
      subst hF0; have HLc := Lib.hid (HL.out.keep HB.out); have PP := P.out; have pc0 := PP.cell 0; have pf0 := PP.frozen 0; have pc1 := PP.cell 1; have pf1 := PP.frozen 1; simp only [List.getElem?_toArray, List.getElem?_cons_zero, List.getElem?_cons_succ] at pc0 pc1; clear PP; rcases Nat.eq_zero_or_pos j with hj0 | hj0
      · subst hj0; have hr : Hid (ptAtE l 0 = 0) := by show _ = _; rw [HJ.out]; simp [andE]
        go_wp2
        go_region
        go_wp2
        go_roundw
        case rel => exact ⟨1, by omega, by go_num, (fun i hi => by obtain rfl : i = 0 := (by omega); exact hr.out), HB.out.drew⟩
        case measure => simp [intOf]; omega
      · obtain ⟨q, rfl⟩ : ∃ q, j = q + 1 := ⟨j - 1, by omega⟩; rw [Nat.add_sub_cancel] at HJ; obtain ⟨b', o', e', hc⟩ := HLc.out.2 (by omega)
        cases e'
        obtain ⟨d1, d2⟩ := hc q (by omega); obtain ⟨u, hu⟩ : ∃ u, u = (Bell.ptAt l q).x := ⟨_, rfl⟩; obtain ⟨v, hv⟩ : ∃ v, v = (Bell.ptAt l q).y := ⟨_, rfl⟩; rw [← hu] at d1 HJ; rw [← hv] at d2 HJ; clear hc hu hv
        by_cases hxu : x = u
        · subst hxu
          by_cases hyv : y = v
          · subst hyv
            have hr : Hid (V = 9) := by
              show _ = _
              have h9 : ptAtE l (q + 1) = 9 := by rw [HJ.out, andE_0 rfl, if_pos ⟨by omega, rfl, rfl⟩]
              rw [HV.out, firstR_hit hlt hz.out (by rw [h9]; decide), h9]
            go_wp2
            go_region
            go_wp2
            go_ret
            exact ⟨ret_int hr.out.symm, HB.out.drew⟩
          · skip
            have hr : Hid (ptAtE l (q + 1) = 0) := by show _ = _; rw [HJ.out, andE_0 rfl, if_neg (fun h => hyv h.2.2)]
            go_wp2
            go_region
            go_wp2
            go_roundw
            case rel =>
              exact ⟨q + 1 + 1, by omega, by go_num, (fun i hi => by
                rcases Nat.lt_or_ge i (q + 1) with h | h
                · exact hz.out i h
                · obtain rfl : i = q + 1 := (by omega); exact hr.out), HB.out.drew⟩
            case measure => simp [intOf]; omega
        · skip
          have hr : Hid (ptAtE l (q + 1) = 0) := by show _ = _; rw [HJ.out, andE_0 rfl, if_neg (fun h => hxu h.2.1)]
          go_wp2
          go_region
          go_wp2
          go_roundw
          case rel =>
            exact ⟨q + 1 + 1, by omega, by go_num, (fun i hi => by
              rcases Nat.lt_or_ge i (q + 1) with h | h
              · exact hz.out i h
              · obtain rfl : i = q + 1 := (by omega); exact hr.out), HB.out.drew⟩
          case measure => simp [intOf]; omega
    · have hr : Hid (V = 0) := by
        show _ = _
        rw [HV.out]; exact firstR_miss fun i hi => hz.out i (by omega)
      go_wp2
      go_ret
      exact ⟨ret_int hr.out.symm, hb.out⟩
end Go.Proofs.YtmafmebcgmegeaaGreatDoor

namespace Go.Proofs.YtmafmebcgmegeaaGreatDoor
open Go.RowKit Go.Sort
set_option maxHeartbeats 1000000 in
set_option maxRecDepth 100000 in
theorem CheckProcedure_any (A : Option Addr) (n c : Nat) (l : List Bell.Sp) (w : World) (hl : SpsAt w A n l) (hn : n ≤ 140737488351232) :
    Calls Tryz.prog 54 #[.slice A n c] w fun e w' => e = .returned (.int .i64 (procE l)) ∧ Below w.heap.size w w' := by
  have HL := Lib.hid hl; have HN := Lib.hid hl.1; obtain ⟨V, hV⟩ : ∃ V, V = procE l := ⟨_, rfl⟩; have HV : Hid (V = andE (lengthE n 8) (firstR (spAtE l) n)) := by show _ = _; rw [hV, ← hl.1]; rfl
  rw [← hV]; clear hl hV
  go_enter Tryz.func54, Tryz.ntmps54
  go_wp2_with fail
  refine (length_step A n c 8 w).mono ?_; rintro e w' ⟨rfl, rfl⟩; obtain ⟨E, hE⟩ : ∃ E, E = lengthE n 8 := ⟨_, rfl⟩; rw [← hE] at HV ⊢; clear hE
  by_cases h0 : E = 0
  case neg =>
    have hr : V = E := by rw [HV.out, andE_n h0]
    go_wp2
    go_ret
    exact ⟨ret_int hr.symm, Below.refl _ _⟩
  replace HV : Hid (V = firstR (spAtE l) n) := by show _ = _; rw [HV.out, andE_0 h0]
  subst h0; go_wp2
  go_loopw [4, 5, 6, 14] (fun _ _ _ k wr => ∃ j : Nat, j ≤ n ∧ k = .int .i64 j ∧ Hid (∀ i, i < j → spAtE l i = 0) ∧ Hid (Below w'.heap.size w' wr)) (fun _ _ _ k _ => n - (intOf k).toNat)
  case atStart => exact ⟨0, Nat.zero_le _, rfl, (fun i hi => by omega), Below.refl _ _⟩
  case round =>
    obtain ⟨j, hj, rfl, hz, hb⟩ := hrel
    by_cases hlt : j < n
    · have HLr := Lib.hid (HL.out.keep hb.out); obtain ⟨b, o, rfl, hc⟩ := HLr.out.2 (by omega); obtain ⟨c1, c2, c3⟩ := hc j hlt; have HJ : Hid (spAtE l j = andE (stepE (Bell.spAt l j)) (if (j = 0 ∧ (Bell.spAt l j).d ≠ 0) ∨ (0 < j ∧ (Bell.spAt l j).d ≤ (Bell.spAt l (j - 1)).d) then 11 else 0)) := rfl; obtain ⟨S, hS⟩ : ∃ S, S = Bell.spAt l j := ⟨_, rfl⟩; rw [← hS] at c1 c2 c3 HJ; clear hc hS; have HB := hb; clear hb; have HS0 : Hid (spV S = #[.int .i64 S.d, .int .i64 S.h, .int .i64 S.p]) := rfl
      go_wp2_with fail
      obtain ⟨wa, hwa⟩ : ∃ W, W = (wr.alloc (.cells #[.int .i64 S.d, .int .i64 S.h, .int .i64 S.p] 166)) := ⟨_, rfl⟩; rw [← hwa]; have P : Hid (Blk wa (wr.heap.size) 166 #[.int .i64 S.d, .int .i64 S.h, .int .i64 S.p]) := by show Blk _ _ _ _; rw [hwa]; exact Blk.new _ _ _
      have hba : Below wr.heap.size wr wa := by rw [hwa]; exact ((Below.refl _ _).alloc (Nat.le_refl _) _)
      obtain ⟨gp, hgp⟩ : ∃ g, g = wr.heap.size := ⟨_, rfl⟩; have HGwa : Hid (gp = wr.heap.size) := hgp; rw [← hgp] at P
      try rw [← hgp]
      clear hwa hgp; replace HB := Lib.hid (HB.out.trans (hba.mono HB.out.size)); clear hba; clear c1 c2 c3; refine (stepCheck_any S wa).mono ?_; rintro e wb ⟨rfl, hbb⟩; replace HB := Lib.hid (HB.out.trans (hbb.mono HB.out.size)); replace P := Lib.hid (P.out.below hbb); clear hbb; obtain ⟨F, hF⟩ : ∃ F, F = stepE S := ⟨_, rfl⟩; rw [← hF] at HJ ⊢; clear hF HS0
      by_cases hF0 : F = 0
      case neg =>
        have hr : Hid (V = F) := by
          show _ = _
          rw [HV.out, firstR_hit hlt hz.out (by rw [HJ.out, andE_n hF0]; exact hF0), HJ.out, andE_n hF0]
        go_wp2
        go_ret
        exact ⟨ret_int hr.out.symm, HB.out⟩
      subst hF0; have HLc := Lib.hid (HL.out.keep HB.out); have p0 := P.out.cell 0; simp only [List.getElem?_toArray, List.getElem?_cons_zero] at p0; obtain ⟨d, hd⟩ : ∃ d, d = S.d := ⟨_, rfl⟩; rw [← hd] at p0 HJ; clear hd P; rcases Nat.eq_zero_or_pos j with hj0 | hj0
      · subst hj0
        by_cases hd0 : d = 0
        · have hr : Hid (spAtE l 0 = 0) := by show _ = _; rw [HJ.out, andE_0 rfl, if_neg (by omega)]
          subst hd0; go_wp2
          go_region
          go_wp2
          go_roundw
          case rel => exact ⟨1, by omega, by go_num, (fun i hi => by obtain rfl : i = 0 := (by omega); exact hr.out), HB.out.drew⟩
          case measure => simp [intOf]; omega
        · have h11 : spAtE l 0 = 11 := by rw [HJ.out, andE_0 rfl, if_pos (.inl ⟨rfl, hd0⟩)]
          have hr : Hid (V = 11) := by
            show _ = _
            rw [HV.out, firstR_hit hlt hz.out (by rw [h11]; decide), h11]
          have hdb : (d != 0) = true := by simpa using hd0
          clear h11; go_wp2
          go_region
          go_wp2
          go_ret
          exact ⟨ret_int hr.out.symm, HB.out.drew⟩
      · obtain ⟨q, rfl⟩ : ∃ q, j = q + 1 := ⟨j - 1, by omega⟩; rw [Nat.add_sub_cancel] at HJ; obtain ⟨b', o', e', hc⟩ := HLc.out.2 (by omega)
        cases e'
        obtain ⟨d1, _, _⟩ := hc q (by omega); obtain ⟨u, hu⟩ : ∃ u, u = (Bell.spAt l q).d := ⟨_, rfl⟩; rw [← hu] at d1 HJ; clear hc hu; have hqz : ((q : Int) + 1 == 0) = false := by simp; omega
        by_cases heq : d ≤ u
        · have hbq : decide (d ≤ u) = true := decide_eq_true heq; have h11 : spAtE l (q + 1) = 11 := by rw [HJ.out, andE_0 rfl, if_pos (.inr ⟨by omega, heq⟩)]
          have hr : Hid (V = 11) := by
            show _ = _
            rw [HV.out, firstR_hit hlt hz.out (by rw [h11]; decide), h11]
          clear heq h11; go_wp2
          go_region
          go_wp2
          go_ret
          exact ⟨ret_int hr.out.symm, HB.out.drew⟩
        · have hbq : decide (d ≤ u) = false := decide_eq_false heq; have hr : Hid (spAtE l (q + 1) = 0) := by show _ = _; rw [HJ.out, andE_0 rfl, if_neg (by omega)]
          clear heq; go_wp2
          go_region
          go_wp2
          go_roundw
          case rel =>
            exact ⟨q + 1 + 1, by omega, by go_num, (fun i hi => by
              rcases Nat.lt_or_ge i (q + 1) with h | h
              · exact hz.out i h
              · obtain rfl : i = q + 1 := (by omega); exact hr.out), HB.out.drew⟩
          case measure => simp [intOf]; omega
    · have hr : Hid (V = 0) := by
        show _ = _
        rw [HV.out]; exact firstR_miss fun i hi => hz.out i (by omega)
      go_wp2
      go_ret
      exact ⟨ret_int hr.out.symm, hb.out⟩
end Go.Proofs.YtmafmebcgmegeaaGreatDoor
