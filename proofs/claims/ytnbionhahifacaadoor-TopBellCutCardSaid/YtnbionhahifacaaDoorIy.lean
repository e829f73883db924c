/- What is heard from a track at each of its ticks. -/
import Derived.Test.YtnbionhahifacaaDoorIv
import Derived.Test.YtnbionhahifacaaDoorIx
import Derived.Test.YtnbionhahifacaaDoorIi
namespace Go.Proofs.YtnbionhahifacaaDoor
open Go.RowKit Go.Sort

/-- A type of the program in memory, its own. -/
def GR.tyOk (nm : ByteArray) (sh : List Int) (T : Bell.Ty) (sn qn gn : Nat) : GR :=
  ⟨fun v W => ∃ cs sa sc qb qo qc gb go gc, v = .agg cs ∧ TyOk W cs nm sh T sa sn sc qb qo qn qc gb go gn gc, fun ⟨cs, sa, sc, qb, qo, qc, gb, go, gc, e, h⟩ hE => ⟨cs, sa, sc, qb, qo, qc, gb, go, gc, e, h.keep hE⟩⟩

set_option maxHeartbeats 2000000 in
set_option maxRecDepth 100000 in
theorem bellHeard_any {nm : ByteArray} {sh : List Int} {T : Bell.Ty} {sa : Option Addr} {sn sc : Nat} {qa : Option Addr} {qn qc : Nat} {ga : Option Addr} {gn gc : Nat} {cs : Array Value} (A : Option Addr) (n c : Nat) (l : List Bell.Fx) (r : Bell.Pl) (w : World) (hT : RTy w cs nm sh T sa sn sc qa qn qc ga gn gc) (hg : GoodT sh T) (hnm : nameB nm = true) (hsz : nm.size ≤ 40)
    (hl : TrAt w A n l) (hgt : Bell.GoodTr l) (hr : GoodPl r) :
    Calls Tryd.prog 6 #[.agg cs, .slice A n c, .agg #[.int .i64 r.x, .int .i64 r.y, .int .i64 r.z]] w fun e w' => ∃ v, e = .returned (.tuple #[v, .bool true]) ∧ OwnI w' w.heap.size v (Bell.allOf T l r) ∧ Below w.heap.size w w' := by
  obtain ⟨i0, hi, hz0, hz1, hz2⟩ := info_parts infoInt
  have IT : Hid ((Tryd.prog.info? 26).map (·.size) = some cs.size) := by show _ = _; rw [hT.cells]; kernel_rfl
  have hnl := hl.1
  have hn2 : 2 ≤ n := by rw [← hnl]; exact hgt.lo
  have hn16 : n ≤ 16 := by rw [← hnl]; exact hgt.hi
  obtain ⟨b, off, rfl, hF⟩ := hl.2 (by omega)
  obtain ⟨m, hmn⟩ : ∃ m, m + 1 = n := ⟨n - 1, by omega⟩
  obtain ⟨f0, hf0⟩ : ∃ x, x = (Bell.fxAt l 0).t := ⟨_, rfl⟩
  obtain ⟨f1, hf1⟩ : ∃ x, x = (Bell.fxAt l m).t := ⟨_, rfl⟩
  have p0 := hgt.pts 0 (by omega)
  have p1 := hgt.pts m (by omega)
  have u0 : 0 ≤ f0 := by rw [hf0]; exact p0.t0
  have u1 : f1 ≤ 100000000 := by rw [hf1]; exact p1.t1
  have u2 : f0 < f1 := by rw [hf0, hf1]; exact hgt.up 0 m (by omega) (by omega)
  have HLAST : Hid ((Bell.fxAt l (l.length - 1)).t = f1) := by show _ = _; rw [hf1, hnl, ← hmn, Nat.add_sub_cancel]
  have HALEN : Hid ((Bell.allOf T l r).length = (f1 - f0).toNat) := by show _ = _; rw [Bell.all_len, HLAST.out, hf0]
  have HRG := Lib.hid (Bell.all_range hg.ty l r)
  have HF0 := Lib.hid hf0
  have HF1 := Lib.hid hf1
  have HMN := Lib.hid hmn
  have HT := Lib.hid hT
  have HG := Lib.hid hg
  have HL := Lib.hid hl
  have HFX := Lib.hid hF
  have HGT := Lib.hid hgt
  have HR := Lib.hid hr
  clear hT hg hl hgt hr hF hf0 hf1 hnl p0 p1 hmn
  go_enter Tryd.func6, Tryd.ntmps6
  go_upto_region 1 with fail
  obtain ⟨w1, hw1⟩ : ∃ W, W = (w.alloc (.cells cs 26)).alloc (.cells #[.int .i64 r.x, .int .i64 r.y, .int .i64 r.z] 29) := ⟨_, rfl⟩
  rw [← hw1]
  have T1 : Hid (Blk w1 w.heap.size 26 cs) := by show Blk _ _ _ _; rw [hw1]; exact (Blk.new _ _ _).alloc _
  have R1 : Hid (Blk w1 (w.heap.size + 1) 29 #[.int .i64 r.x, .int .i64 r.y, .int .i64 r.z]) := by show Blk _ _ _ _; rw [hw1]; exact Blk.at_size _ _ (by simp)
  have HB1 : Hid (Below w.heap.size w w1) := by show Below _ _ _; rw [hw1]; exact ((Below.refl _ _).alloc (Nat.le_refl _) _).alloc (by simp) _
  have hsz1 : w.heap.size ≤ w1.heap.size := HB1.out.size
  obtain ⟨g, hg⟩ : ∃ g, g = w.heap.size := ⟨_, rfl⟩
  obtain ⟨g2, hg2⟩ : ∃ g2, g2 = w.heap.size + 1 := ⟨_, rfl⟩
  rw [← hg2] at R1 ⊢
  rw [← hg] at T1 ⊢
  have HGs := Lib.hid hg
  clear hw1 hg hg2
  have k0 := ((HFX.out.keep HB1.out).2 0 (by omega)).1
  rw [← HF0.out] at k0
  simp only [Nat.zero_mul, Nat.add_zero] at k0
  have pl : ¬ n = 0 := by omega
  go_wp2
  go_loopw [8, 9, 10, 11, 12, 13] (fun v t _ _ _ _ wr => ∃ k : Nat, (k : Int) ≤ f1 - f0 ∧ t = .int .i64 (f0 + k) ∧ Hid (OwnI wr w1.heap.size v ((Bell.allOf T l r).take k)) ∧ Hid (Below w1.heap.size w1 wr)) (fun _ t _ _ _ _ _ => (f1 - intOf t).toNat)
  case atStart => exact ⟨0, by omega, by simp, OwnI.nil _ _, Below.refl _ _⟩
  case round =>
    clear k0 pl
    obtain ⟨k, hk, rfl, hown, hbw⟩ := hrel
    have HB := Lib.hid (HB1.out.trans (hbw.out.mono HB1.out.size))
    obtain ⟨t, ht⟩ : ∃ t : Int, t = f0 + k := ⟨_, rfl⟩
    rw [← ht]
    have k1 := ((HFX.out.keep HB.out).2 m (by have := HMN.out; omega)).1
    rw [← HF1.out] at k1
    have wn : IntKind.i64.wrap ((n : Int) - 1) = (m : Int) := by rw [IntWalk.i64_in _ (by omega)]; have := HMN.out; omega
    have plm : (m : Int) < (n : Int) := by have := HMN.out; omega
    by_cases hlt : t < f1
    · have d1 : decide (t < f1) = true := decide_eq_true hlt
      have HLT := Lib.hid hlt
      have HGE : Hid (f0 ≤ t) := by show _ ≤ _; omega
      have HTK := Lib.hid ht
      clear hlt ht
      go_wp2_with fail
      refine (bellTrack_any (some ⟨b, off, none⟩) n c l wr (HL.out.keep HB.out) (by omega)).mono ?_
      rintro e w2 ⟨A2, c2, rfl, htr, hcap, hb2⟩
      obtain ⟨b2, o2, rfl, hfx⟩ := htr.2 (by omega)
      have HFX2 := Lib.hid hfx
      have HB2 := Lib.hid hb2
      clear htr hcap hfx hb2 k1 wn plm d1
      go_wp2_with fail
      refine (At_ok b2 o2 n c2 l t w2 HFX2.out HGT.out (by rw [← HF0.out]; exact HGE.out) (by rw [HLAST.out]; exact HLT.out)).mono ?_
      have HGS := Lib.hid (Bell.state_ok HGT.out (k := t) (by rw [← HF0.out]; exact HGE.out) (by rw [HLAST.out]; exact HLT.out))
      obtain ⟨s, hs⟩ : ∃ s, s = Bell.stAt l t := ⟨_, rfl⟩
      rw [← hs] at HGS ⊢
      have HS := Lib.hid hs
      clear hs
      rintro e w3 ⟨rfl, hb3⟩
      have HB3 := Lib.hid hb3
      clear hb3
      unfold stV
      go_upto_region 8 with fail
      obtain ⟨w4, hw4⟩ : ∃ W, W = w3.alloc (.cells #[.int .i64 s.x, .int .i64 s.y, .int .i64 s.z, .int .i64 s.hx, .int .i64 s.hy, .int .i64 s.p] 72) := ⟨_, rfl⟩
      rw [← hw4]
      have S4 : Hid (Blk w4 w3.heap.size 72 #[.int .i64 s.x, .int .i64 s.y, .int .i64 s.z, .int .i64 s.hx, .int .i64 s.hy, .int .i64 s.p]) := by show Blk _ _ _ _; rw [hw4]; exact Blk.new _ _ _
      have hb4 : Below wr.heap.size wr w4 := by rw [hw4]; exact (HB2.out.trans (HB3.out.mono HB2.out.size)).alloc (Nat.le_trans HB2.out.size HB3.out.size) _
      obtain ⟨g4, hg4⟩ : ∃ x, x = w3.heap.size := ⟨_, rfl⟩
      rw [← hg4] at S4 ⊢
      have hw14 : Below w1.heap.size w1 w4 := hbw.out.trans (hb4.mono hbw.out.size)
      have T4 := Lib.hid (T1.out.below hw14)
      have R4 := Lib.hid (R1.out.below hw14)
      have HB4 := Lib.hid (HB1.out.trans (hw14.mono HB1.out.size))
      have HO4 := Lib.hid (hown.out.below hb4)
      have HW4 := Lib.hid hw14
      clear hw4 hb4 hg4 hw14 HFX2 HB2 HB3 HB hbw hown
      obtain ⟨H, hH⟩ : ∃ H, H = Bell.heardOf T s r := ⟨_, rfl⟩
      have HH := Lib.hid hH
      have hE0 : checkEnergyE H = 0 := by
        have h1 := Bell.heard_range HG.out.ty s r
        rw [← hH] at h1
        exact withinE_of h1.1 (by omega)
      have HE0 := Lib.hid hE0
      clear hH hE0
      refine wp_region_grow 9 (by kernel_rfl) (by kernel_rfl) [GR.eq (.agg cs), GR.tyOk nm sh T sn qn gn, GR.eq (.agg #[.int .i64 s.x, .int .i64 s.y, .int .i64 s.z, .int .i64 s.hx, .int .i64 s.hy, .int .i64 s.p]), GR.eq (.agg #[.int .i64 r.x, .int .i64 r.y, .int .i64 r.z]), GR.eq (.tuple #[.int .i64 H, .int .i64 0]), GR.eq (.tuple #[.int .i64 H, .int .i64 0]), GR.eq (.int .i64 H), GR.eq (.int .i64 0), GR.eq (.int .i64 H)] 61 rfl (by kernel_rfl) ?_ ?_
      · refine ⟨?_, ?_, ?_, ?_, ?_, ?_, ?_, ?_, ?_, trivial⟩
        · intro a W hE hd ho
          have e3 : a.tmps[3]?.getD undef = .pointer (some ⟨g, 0, none⟩) := ho 3 (by kernel_rfl)
          exact gs_load 26 (.tmp 3) rfl ⟨g, 0, none⟩ (.agg cs) ((eval_getD _ _).trans e3) ((T4.out.below hE).lv Tryd.prog Tryd.underlying26 rfl IT.out) rfl
        · intro a W hE hd ho
          have e39 : a.tmps[39]?.getD undef = .agg cs := hd 0 39 (by kernel_rfl) (by kernel_rfl)
          refine gs_call (f := 8) (args := #[.agg cs]) (by go_simp) ?_
          refine (bellType_any W (HT.out.keep (HB4.out.trans (hE.below.mono HB4.out.size))) HG.out hnm hsz).mono ?_
          rintro e w9 ⟨cs', sa', sc', qb, qo, qc', gb, go, gc', rfl, h1, h2⟩
          exact ⟨_, rfl, h2, cs', sa', sc', qb, qo, qc', gb, go, gc', rfl, h1⟩
        · intro a W hE hd ho
          have e10 : a.tmps[10]?.getD undef = .pointer (some ⟨g4, 0, none⟩) := ho 10 (by kernel_rfl)
          have c0 := (S4.out.below hE).cell 0
          have c1 := (S4.out.below hE).cell 1
          have c2 := (S4.out.below hE).cell 2
          have c3 := (S4.out.below hE).cell 3
          have c4 := (S4.out.below hE).cell 4
          have c5 := (S4.out.below hE).cell 5
          simp only [List.getElem?_toArray, List.getElem?_cons_zero, List.getElem?_cons_succ] at c0 c1 c2 c3 c4 c5
          exact gs_same (v := .agg #[.int .i64 s.x, .int .i64 s.y, .int .i64 s.z, .int .i64 s.hx, .int .i64 s.hy, .int .i64 s.p]) (by go_simp) rfl
        · intro a W hE hd ho
          have e5 : a.tmps[5]?.getD undef = .pointer (some ⟨g2, 0, none⟩) := ho 5 (by kernel_rfl)
          have c0 := (R4.out.below hE).cell 0
          have c1 := (R4.out.below hE).cell 1
          have c2 := (R4.out.below hE).cell 2
          simp only [List.getElem?_toArray, List.getElem?_cons_zero, List.getElem?_cons_succ] at c0 c1 c2
          exact gs_same (v := .agg #[.int .i64 r.x, .int .i64 r.y, .int .i64 r.z]) (by go_simp) rfl
        · intro a W hE hd ho
          have e41 : a.tmps[41]?.getD undef = .agg #[.int .i64 s.x, .int .i64 s.y, .int .i64 s.z, .int .i64 s.hx, .int .i64 s.hy, .int .i64 s.p] := hd 2 41 (by kernel_rfl) (by kernel_rfl)
          have e42 : a.tmps[42]?.getD undef = .agg #[.int .i64 r.x, .int .i64 r.y, .int .i64 r.z] := hd 3 42 (by kernel_rfl) (by kernel_rfl)
          obtain ⟨cs', sa', sc', qb, qo, qc', gb, go, gc', e40, h1⟩ : ∃ cs sa sc qb qo qc gb go gc, a.tmps[40]?.getD undef = .agg cs ∧ TyOk W cs nm sh T sa sn sc qb qo qn qc gb go gn gc := hd 1 40 (by kernel_rfl) (by kernel_rfl)
          refine gs_call (f := 20) (args := #[.agg cs', .agg (stV s), .agg (plV r)]) (by unfold stV plV; go_simp) ?_
          refine (Heard_ok s r W h1 HGS.out HR.out).mono ?_
          rintro e w9 ⟨rfl, h2⟩
          exact ⟨_, rfl, h2, by rw [HH.out]; rfl⟩
        · intro a W hE hd ho
          have e43 : a.tmps[43]?.getD undef = .tuple #[.int .i64 H, .int .i64 0] := hd 4 43 (by kernel_rfl) (by kernel_rfl)
          exact gs_same (v := .tuple #[.int .i64 H, .int .i64 0]) (by go_simp) rfl
        · intro a W hE hd ho
          have e38 : a.tmps[38]?.getD undef = .tuple #[.int .i64 H, .int .i64 0] := hd 5 38 (by kernel_rfl) (by kernel_rfl)
          exact gs_same (v := .int .i64 H) (by go_simp) rfl
        · intro a W hE hd ho
          have e38 : a.tmps[38]?.getD undef = .tuple #[.int .i64 H, .int .i64 0] := hd 5 38 (by kernel_rfl) (by kernel_rfl)
          exact gs_same (v := .int .i64 0) (by go_simp) rfl
        · intro a W hE hd ho
          have e44 : a.tmps[44]?.getD undef = .int .i64 H := hd 6 44 (by kernel_rfl) (by kernel_rfl)
          exact gs_same (v := .int .i64 H) (by go_simp) rfl
      · intro vv w5 hE hR
        obtain ⟨x1, y1⟩ : ∃ v, vv 1 = v := ⟨_, rfl⟩
        have y0 : vv 0 = .agg cs := hR 0 (by omega)
        have y2 : vv 2 = .agg #[.int .i64 s.x, .int .i64 s.y, .int .i64 s.z, .int .i64 s.hx, .int .i64 s.hy, .int .i64 s.p] := hR 2 (by omega)
        have y3 : vv 3 = .agg #[.int .i64 r.x, .int .i64 r.y, .int .i64 r.z] := hR 3 (by omega)
        have y4 : vv 4 = .tuple #[.int .i64 H, .int .i64 0] := hR 4 (by omega)
        have y5 : vv 5 = .tuple #[.int .i64 H, .int .i64 0] := hR 5 (by omega)
        have y6 : vv 6 = .int .i64 H := hR 6 (by omega)
        have y7 : vv 7 = .int .i64 0 := hR 7 (by omega)
        have y8 : vv 8 = .int .i64 H := hR 8 (by omega)
        simp only [List.range, List.range.loop, List.foldl_cons, List.foldl_nil, y0, y1, y2, y3, y4, y5, y6, y7, y8, List.drop_succ_cons, List.drop_zero]
        simp only [dstAt, List.getElem?_toArray, List.getElem?_cons_zero, List.getElem?_cons_succ, Option.bind_some, Act.put, List.setIfInBounds_toArray, List.set_cons_zero, List.set_cons_succ]
        clear y0 y1 y2 y3 y4 y5 y6 y7 y8 hR
        have HO5 := Lib.hid (HO4.out.below hE)
        have HW5 := Lib.hid (HW4.out.trans (hE.below.mono HW4.out.size))
        clear hE HO4 HW4 T4 R4 S4 HB4
        go_wp2_with fail
        refine (refCheckEnergy_any H w5).mono ?_
        rw [HE0.out]
        rintro e w6 ⟨rfl, rfl⟩
        have HT2 : Hid ((Bell.allOf T l r).take (k + 1) = (Bell.allOf T l r).take k ++ [H]) := by
          show _ = _
          have hkl : k < (Bell.allOf T l r).length := by rw [HALEN.out]; have := HTK.out; have := HLT.out; omega
          have hgd : (Bell.allOf T l r).getD k 0 = (Bell.allOf T l r)[k] := by simp [List.getD_eq_getElem?_getD, List.getElem?_eq_getElem hkl]
          have h2 := Bell.all_at hkl
          rw [← HF0.out, ← HTK.out] at h2
          rw [HH.out, HS.out, ← show Bell.heardAt T l r t = Bell.heardOf T (Bell.stAt l t) r from rfl, ← h2, hgd]
          exact (List.take_append_getElem hkl).symm
        have HLEN : Hid (((Bell.allOf T l r).take k).length = k) := by show _ = _; rw [List.length_take, HALEN.out]; have := HTK.out; have := HLT.out; omega
        have hown0 : w5.ownsRow w1.heap.size 3 1 u8 k (((Bell.allOf T l r).take k).map (Value.int .i64)) := by have := HO5.out; unfold OwnI at this; rwa [HLEN.out] at this
        have hs5 := HW5.out.size
        have hk5 : k ≤ 100000000 := by have := HTK.out; have := HLT.out; omega
        go_wp2_with (at_builtin; refine wpList_append_own _ rfl _ _ 22 rfl w1.heap.size 3 i0 (.int .i64 0) 1 8 Tryd.underlying22 hi hz0 hz1 hz2 rfl (by decide) _ _ _ rfl (World.ownsRow.alloc hown0 _) ⟨w5.heap.size, 0, none⟩ 1 1 [.int .i64 H] rfl rfl (cell_one_new _ _ _) (by simp [Value.oneCell']) (by unfold maxLen; omega) (by omega) (by simp; omega) ?_; intro v' w7 hown' hgrow _)
        have RR : Hid (OwnI w7 w1.heap.size v' ((Bell.allOf T l r).take (k + 1))) := by
          show OwnI _ _ _ _
          unfold OwnI
          rw [HT2.out, List.length_append, HLEN.out, List.map_append]
          exact hown'
        have BB : Hid (Below w1.heap.size w1 w7) := Below.grown (HW5.out.alloc hs5 _) hgrow (by simp; omega) (fun j hj => (hown0.lt j hj).1)
        have HWT : Hid (wrap64 (t + 1) = t + 1) := by show _ = _; have := HGE.out; have := HLT.out; unfold wrap64; omega
        have hb0 : 0 ≤ t := by have := HGE.out; omega
        have hb1 : t ≤ 100000000 := by have := HLT.out; omega
        clear hown' hgrow hown0
        go_wp2
        go_roundw
        case rel => exact ⟨k + 1, by have := HTK.out; have := HLT.out; omega, by have h9 := HTK.out; (try rw [HWT.out]); rw [h9]; go_num, RR, BB⟩
        case measure =>
          have h8 := HTK.out
          have h9 := HLT.out
          (try rw [HWT.out])
          simp [intOf]
          omega
    · have d1 : decide (t < f1) = false := decide_eq_false hlt
      have hall : (Bell.allOf T l r).take k = Bell.allOf T l r := List.take_of_length_le (by rw [HALEN.out]; omega)
      rw [hall] at hown
      obtain ⟨A9, n9, c9, rfl, hz⟩ := hown.out.slice
      have hn9 : 0 < n9 := by rw [← hz.1, HALEN.out]; omega
      have d2 : decide ((0 : Int) < (n9 : Int)) = true := decide_eq_true (by omega)
      clear hlt ht hz hall
      go_wp2
      (try simp only [Exit.inBlock, Exit.then])
      refine bodyPost_ret (v := .tuple #[.slice A9 n9 c9, .bool true]) (by simp [results, Tryd.results6, go_sem, asAddr]) rfl ?_
      exact ⟨_, rfl, hown.out.mono hsz1, HB.out⟩
end Go.Proofs.YtnbionhahifacaaDoor
