/- Texts Xp Jc of the proof. -/
import Derived.Test.YtmafmebcgmegeaaGreatDoorWt36
import Derived.Test.YtmafmebcgmegeaaGreatDoorWt3
namespace Go.Proofs.YtmafmebcgmegeaaGreatDoor
open Go.RowKit Go.Sort
def rjE (l k : List Bell.Fx) : Int := firstE [if (Bell.fxAt k 0).t ≤ (Bell.fxAt l (l.length - 1)).t then 11 else 0, if 16 < l.length + k.length then 5 else 0, if 1000 < (Bell.fxAt k (k.length - 1)).t - (Bell.fxAt l 0).t then 14 else 0]
theorem joE_rj {l k : List Bell.Fx} (h1 : trackE l = 0) (h2 : trackE k = 0) : joE l k = rjE l k := by
  have g1 := (goodTr_of h1).lo
  have g2 := (goodTr_of h2).lo
  have hz : firstE [trackE l, trackE k] = 0 := by rw [h1, h2]; rfl
  unfold joE rjE
  rw [if_pos hz]
  split
  · rfl
  · have e1 : lastE (l ++ k) = if 1000 < (Bell.fxAt k (k.length - 1)).t - (Bell.fxAt l 0).t then 14 else 0 := by
      unfold lastE
      rw [fxAt_left (show 0 < l.length by omega), List.length_append, show l.length + k.length - 1 = l.length + (k.length - 1) by omega, fxAt_right]
    have e2 : atMostE (l ++ k).length 16 = if 16 < l.length + k.length then 5 else 0 := by
      unfold atMostE
      rw [List.length_append]
      by_cases h : 16 < l.length + k.length
      · rw [if_pos h, if_pos (by omega)]
      · rw [if_neg h, if_neg (by omega)]
    rw [e1, e2]
    generalize (if 16 < l.length + k.length then (5 : Int) else 0) = a
    generalize (if 1000 < (Bell.fxAt k (k.length - 1)).t - (Bell.fxAt l 0).t then (14 : Int) else 0) = b
    rfl
def GR.sl3 (x y z : Int) : GR := ⟨fun v W => ∃ g, v = .slice (some ⟨g, 0, none⟩) 3 3 ∧ Blk W g 3 #[.int .i64 x, .int .i64 y, .int .i64 z], fun ⟨g, e, h⟩ hE => ⟨g, e, h.below hE⟩⟩
theorem wpList_append_fixR {ops : Array Oper} {rest : List Oper} {o : Oper} {a : Act} {Q : Exit → Act → World → Prop} {w : World} (hgd : o.guard = none) (s x : Operand)
    (ho : o.op = .call { callee := .builtin .append, args := #[s, x], argTypes := #[62, 62] })
    (base : Nat) (v : Value) (l : List Bell.Fx) (hs : a.eval s = v) (hown : OwnTR w base v l) (b off m c : Nat) (l2 : List Bell.Fx) (hx : a.eval x = .slice (some ⟨b, off, none⟩) m c) (h2 : TrAt w (some ⟨b, off, none⟩) m l2)
    (hlen : l.length + m ≤ 100000) (hbase : base ≤ w.heap.size)
    (h : ∀ v' w', OwnTR w' base v' (l ++ l2) → w.grownBy w' v.ownBlock → wpList Tryz.prog ops Q rest (a.put o.dst v') w') : wpList Tryz.prog ops Q (o :: rest) a w := by
  obtain ⟨i0, hi, hz0, hz1, hz2⟩ := info_parts infoFixR
  refine wpList_append_own w hgd s x 62 ho base 140 i0 (.agg #[.int .i64 0, .int .i64 0, .int .i64 0, .int .i64 0, .int .i64 0]) 5 40 Tryz.underlying62 hi hz0 hz1 hz2 rfl (by decide) v _ _ hs hown ⟨b, off, none⟩ m c (fxCells l2) hx (by rw [fxCells_len, h2.1]) h2.cellsAt ?_ (by unfold maxLen; omega) (by omega) hbase ?_
  · intro u hu
    simp only [fxCells, List.mem_flatMap] at hu
    obtain ⟨p, _, hp⟩ := hu
    simp only [List.mem_cons, List.not_mem_nil, or_false] at hp
    rcases hp with rfl | rfl | rfl | rfl | rfl <;> rfl
  · intro v' w' ho' hg _
    refine h v' w' ?_ hg
    unfold OwnTR
    rw [List.length_append, h2.1, show fxCells (l ++ l2) = fxCells l ++ fxCells l2 by simp [fxCells]]
    exact ho'
set_option maxHeartbeats 4000000 in
set_option maxRecDepth 100000 in
theorem refJoined_any (b0 o0 b1 o1 n m c d : Nat) (l k : List Bell.Fx) (w : World) (hl : FixesAt w b0 o0 n l) (hk : FixesAt w b1 o1 m k) (gl : Bell.GoodTr l) (gk : Bell.GoodTr k) :
    Calls Tryz.prog 44 #[.slice (some ⟨b0, o0, none⟩) n c, .slice (some ⟨b1, o1, none⟩) m d] w fun e w' => ∃ A q c', e = .returned (.tuple #[.slice A q c', .int .i64 (rjE l k)]) ∧ TrAt w' A q (if rjE l k = 0 then l ++ k else []) ∧ q ≤ 100000 ∧ Below w.heap.size w w' := by
  obtain ⟨RJ, hRJ⟩ : ∃ x, x = rjE l k := ⟨_, rfl⟩
  rw [← hRJ]
  obtain ⟨LV, hLV⟩ : ∃ x : List Bell.Fx, x = if RJ = 0 then l ++ k else [] := ⟨_, rfl⟩
  rw [← hLV]
  have HLV := Lib.hid hLV
  have a1 := gl.lo; have a2 := gl.hi; have b1' := gk.lo; have b2 := gk.hi
  rw [hl.1] at a1 a2
  rw [hk.1] at b1' b2
  obtain ⟨n1, hn1⟩ : ∃ n1, n = n1 + 1 := ⟨n - 1, by omega⟩
  obtain ⟨m1, hm1⟩ : ∃ m1, m = m1 + 1 := ⟨m - 1, by omega⟩
  have HL := Lib.hid hl
  have HK := Lib.hid hk
  have TL : Hid (TrAt w (some ⟨b0, o0, none⟩) n l) := ⟨hl.1, fun _ => ⟨b0, o0, rfl, hl⟩⟩
  have TK : Hid (TrAt w (some ⟨b1, o1, none⟩) m k) := ⟨hk.1, fun _ => ⟨b1, o1, rfl, hk⟩⟩
  obtain ⟨P0, hP0⟩ : ∃ x, x = (Bell.fxAt l 0).t := ⟨_, rfl⟩
  obtain ⟨P9, hP9⟩ : ∃ x, x = (Bell.fxAt l n1).t := ⟨_, rfl⟩
  obtain ⟨Q0, hQ0⟩ : ∃ x, x = (Bell.fxAt k 0).t := ⟨_, rfl⟩
  obtain ⟨Q9, hQ9⟩ : ∃ x, x = (Bell.fxAt k m1).t := ⟨_, rfl⟩
  have hp0 := (gl.pts 0 (by rw [hl.1]; omega)).t0; have hp1 := (gl.pts 0 (by rw [hl.1]; omega)).t1
  have hq0 := (gk.pts m1 (by rw [hk.1]; omega)).t0; have hq1 := (gk.pts m1 (by rw [hk.1]; omega)).t1
  rw [← hP0] at hp0 hp1
  rw [← hQ9] at hq0 hq1
  have HP0 := Lib.hid hP0; have HP9 := Lib.hid hP9; have HQ0 := Lib.hid hQ0; have HQ9 := Lib.hid hQ9
  obtain ⟨X1, hX1⟩ : ∃ x : Int, x = if decide (Q0 ≤ P9) then 11 else 0 := ⟨_, rfl⟩
  obtain ⟨X2, hX2⟩ : ∃ x : Int, x = if decide (16 < (n : Int) + (m : Int)) then 5 else 0 := ⟨_, rfl⟩
  obtain ⟨X3, hX3⟩ : ∃ x : Int, x = if decide (1000 < Q9 - P0) then 14 else 0 := ⟨_, rfl⟩
  have HX1 := Lib.hid hX1; have HX2 := Lib.hid hX2; have HX3 := Lib.hid hX3
  have HRJ : Hid (firstE [X1, X2, X3] = RJ) := by
    show _ = _
    rw [hRJ]
    unfold rjE
    rw [hl.1, hk.1, hn1, hm1, Nat.add_sub_cancel, Nat.add_sub_cancel, ← hP0, ← hP9, ← hQ0, ← hQ9, hX1, hX2, hX3, hn1, hm1]
    have e1 : (if decide (Q0 ≤ P9) = true then (11 : Int) else 0) = if Q0 ≤ P9 then 11 else 0 := by by_cases h : Q0 ≤ P9 <;> simp [h]
    have e2 : (if decide (16 < ((n1 + 1 : Nat) : Int) + ((m1 + 1 : Nat) : Int)) = true then (5 : Int) else 0) = if 16 < n1 + 1 + (m1 + 1) then 5 else 0 := by
      by_cases h : 16 < n1 + 1 + (m1 + 1)
      · rw [if_pos h, if_pos (decide_eq_true (by omega))]
      · rw [if_neg h, if_neg (by simp; omega)]
    have e3 : (if decide (1000 < Q9 - P0) = true then (14 : Int) else 0) = if 1000 < Q9 - P0 then 14 else 0 := by by_cases h : 1000 < Q9 - P0 <;> simp [h]
    rw [e1, e2, e3]
  have wn : IntKind.i64.wrap ((n : Int) - 1) = (n1 : Int) := by rw [IntWalk.i64_in _ (by omega)]; omega
  have wm : IntKind.i64.wrap ((m : Int) - 1) = (m1 : Int) := by rw [IntWalk.i64_in _ (by omega)]; omega
  have ws : IntKind.i64.wrap ((n : Int) + (m : Int)) = (n : Int) + (m : Int) := IntWalk.i64_in _ (by omega)
  have wd : IntKind.i64.wrap (Q9 - P0) = Q9 - P0 := IntWalk.i64_in _ (by omega)
  have pn : (n1 : Int) < (n : Int) := by omega
  have pm : (m1 : Int) < (m : Int) := by omega
  have pn0 : 0 < n := by omega
  have pm0 : 0 < m := by omega
  have hnm : n ≤ 16 ∧ m ≤ 16 := ⟨a2, b2⟩
  have qn : n1 < n := by omega
  have qm : m1 < m := by omega
  clear hl hk gl gk hRJ hLV hP0 hP9 hQ0 hQ9 hX1 hX2 hX3 hp0 hp1 hq0 hq1 a1 a2 b1' b2 hn1 hm1
  go_enter Tryz.func44, Tryz.ntmps44
  go_upto_region 1 with fail
  refine wp_region_grow 36 (by kernel_rfl) (by kernel_rfl) [GR.eq (.slice (some ⟨b1, o1, none⟩) m d), GR.eq (.pointer (some ⟨b1, o1, none⟩)), GR.eq (.pointer (some ⟨b1, o1, none⟩)), GR.eq (.int .i64 Q0), GR.eq (.slice (some ⟨b0, o0, none⟩) n c), GR.eq (.slice (some ⟨b0, o0, none⟩) n c), GR.eq (.int .i64 n), GR.eq (.int .i64 n1), GR.eq (.pointer (some ⟨b0, o0 + n1 * 5, none⟩)), GR.eq (.pointer (some ⟨b0, o0 + n1 * 5, none⟩)), GR.eq (.int .i64 P9), GR.eq (.bool (decide (Q0 ≤ P9))), GR.eq (.int .i64 X1), GR.eq (.slice (some ⟨b0, o0, none⟩) n c), GR.eq (.int .i64 n), GR.eq (.slice (some ⟨b1, o1, none⟩) m d), GR.eq (.int .i64 m), GR.eq (.int .i64 ((n : Int) + (m : Int))), GR.eq (.bool (decide (16 < (n : Int) + (m : Int)))), GR.eq (.int .i64 X2), GR.eq (.slice (some ⟨b1, o1, none⟩) m d), GR.eq (.slice (some ⟨b1, o1, none⟩) m d), GR.eq (.int .i64 m), GR.eq (.int .i64 m1), GR.eq (.pointer (some ⟨b1, o1 + m1 * 5, none⟩)), GR.eq (.pointer (some ⟨b1, o1 + m1 * 5, none⟩)), GR.eq (.int .i64 Q9), GR.eq (.slice (some ⟨b0, o0, none⟩) n c), GR.eq (.pointer (some ⟨b0, o0, none⟩)), GR.eq (.pointer (some ⟨b0, o0, none⟩)), GR.eq (.int .i64 P0), GR.eq (.int .i64 (Q9 - P0)), GR.eq (.bool (decide (1000 < Q9 - P0))), GR.eq (.int .i64 X3), GR.sl3 X1 X2 X3, GR.eq (.int .i64 RJ)] 51 rfl (by kernel_rfl) ?_ ?_
  · refine ⟨?_, ?_, ?_, ?_, ?_, ?_, ?_, ?_, ?_, ?_, ?_, ?_, ?_, ?_, ?_, ?_, ?_, ?_, ?_, ?_, ?_, ?_, ?_, ?_, ?_, ?_, ?_, ?_, ?_, ?_, ?_, ?_, ?_, ?_, ?_, ?_, trivial⟩
    · intro a W hE hd ho
      have e1 : a.tmps[1]?.getD undef = .slice (some ⟨b1, o1, none⟩) m d := ho 1 (by kernel_rfl)
      exact gs_same (v := .slice (some ⟨b1, o1, none⟩) m d) (by go_simp) rfl
    · intro a W hE hd ho
      have e7 : a.tmps[7]?.getD undef = .slice (some ⟨b1, o1, none⟩) m d := hd 0 7 (by kernel_rfl) (by kernel_rfl)
      exact gs_same (v := .pointer (some ⟨b1, o1, none⟩)) (by go_simp) rfl
    · intro a W hE hd ho
      have e8 : a.tmps[8]?.getD undef = .pointer (some ⟨b1, o1, none⟩) := hd 1 8 (by kernel_rfl) (by kernel_rfl)
      exact gs_same (v := .pointer (some ⟨b1, o1, none⟩)) (by go_simp) rfl
    · intro a W hE hd ho
      have e9 : a.tmps[9]?.getD undef = .pointer (some ⟨b1, o1, none⟩) := hd 2 9 (by kernel_rfl) (by kernel_rfl)
      have q0 := ((HK.out.keep hE.below).2 0 (by omega)).1
      simp only [Nat.zero_mul, Nat.add_zero] at q0
      rw [← HQ0.out] at q0
      exact gs_same (v := .int .i64 Q0) (by go_simp) rfl
    · intro a W hE hd ho
      have e0 : a.tmps[0]?.getD undef = .slice (some ⟨b0, o0, none⟩) n c := ho 0 (by kernel_rfl)
      exact gs_same (v := .slice (some ⟨b0, o0, none⟩) n c) (by go_simp) rfl
    · intro a W hE hd ho
      have e0 : a.tmps[0]?.getD undef = .slice (some ⟨b0, o0, none⟩) n c := ho 0 (by kernel_rfl)
      exact gs_same (v := .slice (some ⟨b0, o0, none⟩) n c) (by go_simp) rfl
    · intro a W hE hd ho
      have e12 : a.tmps[12]?.getD undef = .slice (some ⟨b0, o0, none⟩) n c := hd 5 12 (by kernel_rfl) (by kernel_rfl)
      exact gs_same (v := .int .i64 n) (by go_simp) rfl
    · intro a W hE hd ho
      have e13 : a.tmps[13]?.getD undef = .int .i64 n := hd 6 13 (by kernel_rfl) (by kernel_rfl)
      exact gs_same (v := .int .i64 n1) (by go_simp) rfl
    · intro a W hE hd ho
      have e11 : a.tmps[11]?.getD undef = .slice (some ⟨b0, o0, none⟩) n c := hd 4 11 (by kernel_rfl) (by kernel_rfl)
      have e14 : a.tmps[14]?.getD undef = .int .i64 n1 := hd 7 14 (by kernel_rfl) (by kernel_rfl)
      exact gs_same (v := .pointer (some ⟨b0, o0 + n1 * 5, none⟩)) (by go_simp) rfl
    · intro a W hE hd ho
      have e15 : a.tmps[15]?.getD undef = .pointer (some ⟨b0, o0 + n1 * 5, none⟩) := hd 8 15 (by kernel_rfl) (by kernel_rfl)
      exact gs_same (v := .pointer (some ⟨b0, o0 + n1 * 5, none⟩)) (by go_simp) rfl
    · intro a W hE hd ho
      have e16 : a.tmps[16]?.getD undef = .pointer (some ⟨b0, o0 + n1 * 5, none⟩) := hd 9 16 (by kernel_rfl) (by kernel_rfl)
      have q0 := ((HL.out.keep hE.below).2 n1 qn).1
      rw [← HP9.out] at q0
      exact gs_same (v := .int .i64 P9) (by go_simp) rfl
    · intro a W hE hd ho
      have e10 : a.tmps[10]?.getD undef = .int .i64 Q0 := hd 3 10 (by kernel_rfl) (by kernel_rfl)
      have e17 : a.tmps[17]?.getD undef = .int .i64 P9 := hd 10 17 (by kernel_rfl) (by kernel_rfl)
      exact gs_same (v := .bool (decide (Q0 ≤ P9))) (by go_simp) rfl
    · intro a W hE hd ho
      have e18 : a.tmps[18]?.getD undef = .bool (decide (Q0 ≤ P9)) := hd 11 18 (by kernel_rfl) (by kernel_rfl)
      refine gs_call (f := 105) (args := #[.bool (decide (Q0 ≤ P9)), .int .i64 11]) (by go_simp) ?_
      refine (refWhen_as W HX1.out).mono ?_
      rintro e w' ⟨rfl, rfl⟩
      exact ⟨_, rfl, Ext.refl _, rfl⟩
    · intro a W hE hd ho
      have e0 : a.tmps[0]?.getD undef = .slice (some ⟨b0, o0, none⟩) n c := ho 0 (by kernel_rfl)
      exact gs_same (v := .slice (some ⟨b0, o0, none⟩) n c) (by go_simp) rfl
    · intro a W hE hd ho
      have e20 : a.tmps[20]?.getD undef = .slice (some ⟨b0, o0, none⟩) n c := hd 13 20 (by kernel_rfl) (by kernel_rfl)
      exact gs_same (v := .int .i64 n) (by go_simp) rfl
    · intro a W hE hd ho
      have e1 : a.tmps[1]?.getD undef = .slice (some ⟨b1, o1, none⟩) m d := ho 1 (by kernel_rfl)
      exact gs_same (v := .slice (some ⟨b1, o1, none⟩) m d) (by go_simp) rfl
    · intro a W hE hd ho
      have e22 : a.tmps[22]?.getD undef = .slice (some ⟨b1, o1, none⟩) m d := hd 15 22 (by kernel_rfl) (by kernel_rfl)
      exact gs_same (v := .int .i64 m) (by go_simp) rfl
    · intro a W hE hd ho
      have e21 : a.tmps[21]?.getD undef = .int .i64 n := hd 14 21 (by kernel_rfl) (by kernel_rfl)
      have e23 : a.tmps[23]?.getD undef = .int .i64 m := hd 16 23 (by kernel_rfl) (by kernel_rfl)
      exact gs_same (v := .int .i64 ((n : Int) + (m : Int))) (by go_simp) rfl
    · intro a W hE hd ho
      have e24 : a.tmps[24]?.getD undef = .int .i64 ((n : Int) + (m : Int)) := hd 17 24 (by kernel_rfl) (by kernel_rfl)
      exact gs_same (v := .bool (decide (16 < (n : Int) + (m : Int)))) (by go_simp) rfl
    · intro a W hE hd ho
      have e25 : a.tmps[25]?.getD undef = .bool (decide (16 < (n : Int) + (m : Int))) := hd 18 25 (by kernel_rfl) (by kernel_rfl)
      refine gs_call (f := 105) (args := #[.bool (decide (16 < (n : Int) + (m : Int))), .int .i64 5]) (by go_simp) ?_
      refine (refWhen_as W HX2.out).mono ?_
      rintro e w' ⟨rfl, rfl⟩
      exact ⟨_, rfl, Ext.refl _, rfl⟩
    · intro a W hE hd ho
      have e1 : a.tmps[1]?.getD undef = .slice (some ⟨b1, o1, none⟩) m d := ho 1 (by kernel_rfl)
      exact gs_same (v := .slice (some ⟨b1, o1, none⟩) m d) (by go_simp) rfl
    · intro a W hE hd ho
      have e1 : a.tmps[1]?.getD undef = .slice (some ⟨b1, o1, none⟩) m d := ho 1 (by kernel_rfl)
      exact gs_same (v := .slice (some ⟨b1, o1, none⟩) m d) (by go_simp) rfl
    · intro a W hE hd ho
      have e28 : a.tmps[28]?.getD undef = .slice (some ⟨b1, o1, none⟩) m d := hd 21 28 (by kernel_rfl) (by kernel_rfl)
      exact gs_same (v := .int .i64 m) (by go_simp) rfl
    · intro a W hE hd ho
      have e29 : a.tmps[29]?.getD undef = .int .i64 m := hd 22 29 (by kernel_rfl) (by kernel_rfl)
      exact gs_same (v := .int .i64 m1) (by go_simp) rfl
    · intro a W hE hd ho
      have e27 : a.tmps[27]?.getD undef = .slice (some ⟨b1, o1, none⟩) m d := hd 20 27 (by kernel_rfl) (by kernel_rfl)
      have e30 : a.tmps[30]?.getD undef = .int .i64 m1 := hd 23 30 (by kernel_rfl) (by kernel_rfl)
      exact gs_same (v := .pointer (some ⟨b1, o1 + m1 * 5, none⟩)) (by go_simp) rfl
    · intro a W hE hd ho
      have e31 : a.tmps[31]?.getD undef = .pointer (some ⟨b1, o1 + m1 * 5, none⟩) := hd 24 31 (by kernel_rfl) (by kernel_rfl)
      exact gs_same (v := .pointer (some ⟨b1, o1 + m1 * 5, none⟩)) (by go_simp) rfl
    · intro a W hE hd ho
      have e32 : a.tmps[32]?.getD undef = .pointer (some ⟨b1, o1 + m1 * 5, none⟩) := hd 25 32 (by kernel_rfl) (by kernel_rfl)
      have q0 := ((HK.out.keep hE.below).2 m1 qm).1
      rw [← HQ9.out] at q0
      exact gs_same (v := .int .i64 Q9) (by go_simp) rfl
    · intro a W hE hd ho
      have e0 : a.tmps[0]?.getD undef = .slice (some ⟨b0, o0, none⟩) n c := ho 0 (by kernel_rfl)
      exact gs_same (v := .slice (some ⟨b0, o0, none⟩) n c) (by go_simp) rfl
    · intro a W hE hd ho
      have e34 : a.tmps[34]?.getD undef = .slice (some ⟨b0, o0, none⟩) n c := hd 27 34 (by kernel_rfl) (by kernel_rfl)
      exact gs_same (v := .pointer (some ⟨b0, o0, none⟩)) (by go_simp) rfl
    · intro a W hE hd ho
      have e35 : a.tmps[35]?.getD undef = .pointer (some ⟨b0, o0, none⟩) := hd 28 35 (by kernel_rfl) (by kernel_rfl)
      exact gs_same (v := .pointer (some ⟨b0, o0, none⟩)) (by go_simp) rfl
    · intro a W hE hd ho
      have e36 : a.tmps[36]?.getD undef = .pointer (some ⟨b0, o0, none⟩) := hd 29 36 (by kernel_rfl) (by kernel_rfl)
      have q0 := ((HL.out.keep hE.below).2 0 (by omega)).1
      simp only [Nat.zero_mul, Nat.add_zero] at q0
      rw [← HP0.out] at q0
      exact gs_same (v := .int .i64 P0) (by go_simp) rfl
    · intro a W hE hd ho
      have e33 : a.tmps[33]?.getD undef = .int .i64 Q9 := hd 26 33 (by kernel_rfl) (by kernel_rfl)
      have e37 : a.tmps[37]?.getD undef = .int .i64 P0 := hd 30 37 (by kernel_rfl) (by kernel_rfl)
      exact gs_same (v := .int .i64 (Q9 - P0)) (by go_simp) rfl
    · intro a W hE hd ho
      have e38 : a.tmps[38]?.getD undef = .int .i64 (Q9 - P0) := hd 31 38 (by kernel_rfl) (by kernel_rfl)
      exact gs_same (v := .bool (decide (1000 < Q9 - P0))) (by go_simp) rfl
    · intro a W hE hd ho
      have e39 : a.tmps[39]?.getD undef = .bool (decide (1000 < Q9 - P0)) := hd 32 39 (by kernel_rfl) (by kernel_rfl)
      refine gs_call (f := 105) (args := #[.bool (decide (1000 < Q9 - P0)), .int .i64 14]) (by go_simp) ?_
      refine (refWhen_as W HX3.out).mono ?_
      rintro e w' ⟨rfl, rfl⟩
      exact ⟨_, rfl, Ext.refl _, rfl⟩
    · intro a W hE hd ho
      have e19 : a.tmps[19]?.getD undef = .int .i64 X1 := hd 12 19 (by kernel_rfl) (by kernel_rfl)
      have e26 : a.tmps[26]?.getD undef = .int .i64 X2 := hd 19 26 (by kernel_rfl) (by kernel_rfl)
      have e40 : a.tmps[40]?.getD undef = .int .i64 X3 := hd 33 40 (by kernel_rfl) (by kernel_rfl)
      exact gs_val (v := .slice (some ⟨W.heap.size, 0, none⟩) 3 3) (W' := W.alloc (.cells #[.int .i64 X1, .int .i64 X2, .int .i64 X3] 3)) (by go_simp) ((Below.refl _ _).alloc (Nat.le_refl _) _) ⟨_, rfl, Blk.new _ _ _⟩
    · intro a W hE hd ho
      obtain ⟨g3, e41, hb3⟩ : ∃ g, a.tmps[41]?.getD undef = .slice (some ⟨g, 0, none⟩) 3 3 ∧ Blk W g 3 #[.int .i64 X1, .int .i64 X2, .int .i64 X3] := hd 34 41 (by kernel_rfl) (by kernel_rfl)
      refine gs_call (f := 99) (args := #[.slice (some ⟨g3, 0, none⟩) 3 3]) (by go_simp) ?_
      have h := refFirst3 g3 3 X1 X2 X3 W (hb3.cell 0) (hb3.cell 1) (hb3.cell 2)
      rw [HRJ.out] at h
      refine h.mono ?_
      rintro e w' ⟨rfl, rfl⟩
      exact ⟨_, rfl, Ext.refl _, rfl⟩
  intro v1 w2 hE hR
  have y0 : v1 0 = .slice (some ⟨b1, o1, none⟩) m d := hR 0 (by omega)
  have y1 : v1 1 = .pointer (some ⟨b1, o1, none⟩) := hR 1 (by omega)
  have y2 : v1 2 = .pointer (some ⟨b1, o1, none⟩) := hR 2 (by omega)
  have y3 : v1 3 = .int .i64 Q0 := hR 3 (by omega)
  have y4 : v1 4 = .slice (some ⟨b0, o0, none⟩) n c := hR 4 (by omega)
  have y5 : v1 5 = .slice (some ⟨b0, o0, none⟩) n c := hR 5 (by omega)
  have y6 : v1 6 = .int .i64 n := hR 6 (by omega)
  have y7 : v1 7 = .int .i64 n1 := hR 7 (by omega)
  have y8 : v1 8 = .pointer (some ⟨b0, o0 + n1 * 5, none⟩) := hR 8 (by omega)
  have y9 : v1 9 = .pointer (some ⟨b0, o0 + n1 * 5, none⟩) := hR 9 (by omega)
  have y10 : v1 10 = .int .i64 P9 := hR 10 (by omega)
  have y11 : v1 11 = .bool (decide (Q0 ≤ P9)) := hR 11 (by omega)
  have y12 : v1 12 = .int .i64 X1 := hR 12 (by omega)
  have y13 : v1 13 = .slice (some ⟨b0, o0, none⟩) n c := hR 13 (by omega)
  have y14 : v1 14 = .int .i64 n := hR 14 (by omega)
  have y15 : v1 15 = .slice (some ⟨b1, o1, none⟩) m d := hR 15 (by omega)
  have y16 : v1 16 = .int .i64 m := hR 16 (by omega)
  have y17 : v1 17 = .int .i64 ((n : Int) + (m : Int)) := hR 17 (by omega)
  have y18 : v1 18 = .bool (decide (16 < (n : Int) + (m : Int))) := hR 18 (by omega)
  have y19 : v1 19 = .int .i64 X2 := hR 19 (by omega)
  have y20 : v1 20 = .slice (some ⟨b1, o1, none⟩) m d := hR 20 (by omega)
  have y21 : v1 21 = .slice (some ⟨b1, o1, none⟩) m d := hR 21 (by omega)
  have y22 : v1 22 = .int .i64 m := hR 22 (by omega)
  have y23 : v1 23 = .int .i64 m1 := hR 23 (by omega)
  have y24 : v1 24 = .pointer (some ⟨b1, o1 + m1 * 5, none⟩) := hR 24 (by omega)
  have y25 : v1 25 = .pointer (some ⟨b1, o1 + m1 * 5, none⟩) := hR 25 (by omega)
  have y26 : v1 26 = .int .i64 Q9 := hR 26 (by omega)
  have y27 : v1 27 = .slice (some ⟨b0, o0, none⟩) n c := hR 27 (by omega)
  have y28 : v1 28 = .pointer (some ⟨b0, o0, none⟩) := hR 28 (by omega)
  have y29 : v1 29 = .pointer (some ⟨b0, o0, none⟩) := hR 29 (by omega)
  have y30 : v1 30 = .int .i64 P0 := hR 30 (by omega)
  have y31 : v1 31 = .int .i64 (Q9 - P0) := hR 31 (by omega)
  have y32 : v1 32 = .bool (decide (1000 < Q9 - P0)) := hR 32 (by omega)
  have y33 : v1 33 = .int .i64 X3 := hR 33 (by omega)
  obtain ⟨v34, y34⟩ : ∃ v, v1 34 = v := ⟨_, rfl⟩
  have y35 : v1 35 = .int .i64 RJ := hR 35 (by omega)
  simp only [List.range, List.range.loop, List.foldl_cons, List.foldl_nil, y0, y1, y2, y3, y4, y5, y6, y7, y8, y9, y10, y11, y12, y13, y14, y15, y16, y17, y18, y19, y20, y21, y22, y23, y24, y25, y26, y27, y28, y29, y30, y31, y32, y33, y34, y35, List.drop_succ_cons, List.drop_zero]
  simp only [dstAt, List.getElem?_toArray, List.getElem?_cons_zero, List.getElem?_cons_succ, Option.bind_some, Act.put, List.setIfInBounds_toArray, List.set_cons_zero, List.set_cons_succ]
  clear y0 y1 y2 y3 y4 y5 y6 y7 y8 y9 y10 y11 y12 y13 y14 y15 y16 y17 y18 y19 y20 y21 y22 y23 y24 y25 y26 y27 y28 y29 y30 y31 y32 y33 y34 y35 hR
  have hb := hE.below
  have HB : Hid (Below w.heap.size w w2) := hb
  replace TL := Lib.hid (TL.out.keep hb)
  replace TK := Lib.hid (TK.out.keep hb)
  have HLN : Hid (l.length = n ∧ k.length = m) := ⟨HL.out.1, HK.out.1⟩
  clear hE hb HL HK HX1 HX2 HX3 HRJ HP0 HP9 HQ0 HQ9 wn wm ws wd pn pm qn qm
  by_cases h0 : RJ = 0
  · have hv : LV = l ++ k := by rw [HLV.out, if_pos h0]
    have HV := Lib.hid hv
    clear hv
    subst h0
    obtain ⟨hn16, hm16⟩ := hnm
    have hln : 0 < l.length := by rw [HLN.out.1]; exact pn0
    go_wp2_with (first | (at_builtin; refine wpList_append_fixR rfl _ _ rfl w2.heap.size _ [] rfl (World.ownsRow_made w2 #[] 0 (Nat.le_refl _) (by decide) rfl) _ _ _ _ _ rfl (TL.out.keep ((Below.refl _ _).alloc (Nat.le_refl _) _)) (by simp; omega) (by simp) ?_; intro v' w3 hown' hgrow; have hown2 : OwnTR w3 w2.heap.size v' l := hown'; obtain ⟨gA, cA, rfl, _⟩ := ownTR_shape hown2 hln; have HO3 := Lib.hid hown2; have B3 : Hid (Below w2.heap.size w2 w3) := Below.grown ((Below.refl _ _).alloc (Nat.le_refl _) _) hgrow (by simp) (fun j hj => by cases hj; exact Nat.le_refl _); have TK3 := Lib.hid (TK.out.keep B3.out); clear hown' hown2 hgrow) | (at_builtin; refine wpList_append_fixR rfl _ _ rfl w2.heap.size _ l rfl HO3.out _ _ _ _ _ rfl TK3.out (by rw [HLN.out.1]; omega) B3.out.size ?_; intro v' w4 hown' hgrow; have HO4 := Lib.hid hown'; have B4 : Hid (Below w2.heap.size w2 w4) := Below.grown B3.out hgrow B3.out.size (fun j hj => (World.ownsRow.lt HO3.out j hj).1); obtain ⟨gB, cB, rfl, hfB⟩ := ownTR_shape hown' (by rw [List.length_append]; omega); have HFB := Lib.hid hfB; clear hown' hgrow hfB HO3 TK3 HO4))
    have hlen : (l ++ k).length = n + m := by rw [List.length_append, HLN.out.1, HLN.out.2]
    have HBF := Lib.hid (HB.out.trans (B4.out.mono HB.out.size))
    have hlen2 : (l ++ k).length = l.length + k.length := List.length_append
    have hN1 : l.length + k.length ≤ 100000 := by rw [HLN.out.1, HLN.out.2]; omega
    have HT4 : Hid (TrAt w4 (some ⟨gB, 0, none⟩) (l.length + k.length) (l ++ k)) := ⟨hlen2, fun _ => ⟨gB, 0, rfl, by rw [← hlen2]; exact HFB.out⟩⟩
    clear hlen B3 B4 hlen2 HFB
    try go_wp2
    (try simp only [Exit.inBlock, Exit.then])
    refine bodyPost_ret (v := .tuple #[.slice (some ⟨gB, 0, none⟩) (l.length + k.length) cB, .int .i64 0]) (by simp [results, Tryz.results44, go_sem, asAddr]) rfl ?_
    first
      | exact ⟨some ⟨gB, 0, none⟩, l.length + k.length, cB, rfl, by rw [HV.out]; exact HT4.out, hN1, HBF.out⟩
      | exact ⟨some ⟨gB, 0, none⟩, l.length + k.length, ⟨cB, rfl⟩, by rw [HV.out]; exact HT4.out, hN1, HBF.out⟩
  · have hv : LV = [] := by rw [HLV.out, if_neg h0]
    have HV := Lib.hid hv
    clear hv
    go_wp2
    (try simp only [Exit.inBlock, Exit.then])
    refine bodyPost_ret (v := .tuple #[.slice none 0 0, .int .i64 RJ]) (by simp [results, Tryz.results44, go_sem, asAddr]) rfl ?_
    exact ⟨none, 0, 0, rfl, by rw [HV.out]; exact tr_nil _, by omega, HB.out⟩
end Go.Proofs.YtmafmebcgmegeaaGreatDoor

namespace Go.Proofs.YtmafmebcgmegeaaGreatDoor
open Go.RowKit Go.Sort
/-- Each operation behind the head waits for one that is behind the head, too. -/
def chainC (ops : Array Oper) (n : Nat) : Bool := (List.range ops.size).all fun t => decide (t ≤ n) || (List.range t).any fun u => decide (n ≤ u) && Region.waitsFor .any ops t u
/-- The first `n` are done. -/
def firstN (size n : Nat) : Array Bool := (Array.replicate n true) ++ (Array.replicate (size - n) false)
section
variable {P : Program} {ops : Array Oper} {Q : Exit → Act → World → Prop} {a : Act} {w : World}
/-- The one operation that may come up. -/
theorem any_next {fuel : Nat} {listed : Array Bool} {k : Nat} {o : Oper} (hr : Region.ready .any ops listed = [k]) (ho : ops[k]? = some o) (hg : o.guard = none) (h : Oper.wp P o a w (fun a' w' => wpAny P .any ops Q fuel (listed.setIfInBounds k true) a' w') Q) : wpAny P .any ops Q (fuel + 1) listed a w := by
  refine ⟨fun h0 => (by rw [h0] at hr; cases hr), fun i hi => ?_⟩
  rw [hr] at hi
  have hik : i = k := by simpa using hi
  subst hik
  unfold wpOp
  simp only [ho]
  rw [if_pos (by simp [Region.wanted, hg])]
  exact Or.inl h
/-- One that only reckons, taken first. -/
theorem any_take {fuel : Nat} {listed : Array Bool} {k : Nat} {o : Oper} {v : Value} (ho : ops[k]? = some o) (hs : Region.noSelect ops = true) (hf : Region.free .any ops listed k = true) (hr : (Region.ready .any ops listed).contains k = true)
    (hQ : ∀ c a w, Q (.panic c) (a.put o.dst v) w → Q (.panic c) a w) (hg : o.guard = none) (hy : ∀ w, (execOp a.eval o).run P w = .ok (.value v) w) (h : wpAny P .any ops Q fuel (listed.setIfInBounds k true) (a.put o.dst v) w) : wpAny P .any ops Q (fuel + 1) listed a w :=
  wpAny_first ho (Region.noSelect_spec hs) hQ fuel listed a w (Region.free_spec ho hf) (by simpa using hr) (Or.inl ⟨by simp [Region.wanted, hg], hy⟩) h
theorem any_done {fuel : Nat} {listed : Array Bool} (hr : Region.ready .any ops listed = []) (h : Q .normal a w) : wpAny P .any ops Q fuel listed a w := by
  cases fuel with
  | zero => exact ⟨hr, h⟩
  | succ f => exact ⟨fun _ => h, fun i hi => by rw [hr] at hi; cases hi⟩
end
end Go.Proofs.YtmafmebcgmegeaaGreatDoor
