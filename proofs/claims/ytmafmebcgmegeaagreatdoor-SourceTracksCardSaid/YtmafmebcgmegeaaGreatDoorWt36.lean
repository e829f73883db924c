/- Texts Xn of the proof. -/
import Derived.Test.YtmafmebcgmegeaaGreatDoorWt35
import Derived.Test.YtmafmebcgmegeaaGreatDoorWt34
import Derived.Test.YtmafmebcgmegeaaGreatDoorWt5
namespace Go.Proofs.YtmafmebcgmegeaaGreatDoor
open Go.RowKit Go.Sort
theorem sq_le {u B : Int} (h1 : -B ≤ u) (h2 : u ≤ B) : 0 ≤ u * u ∧ u * u ≤ B * B := by
  refine ⟨Bell.self_nonneg u, ?_⟩
  rcases Int.le_total 0 u with h | h
  · exact Int.mul_le_mul h2 h2 h (by omega)
  · have e : u * u = (-u) * (-u) := by grind
    rw [e]
    exact Int.mul_le_mul (by omega) (by omega) (by omega) (by omega)
set_option maxHeartbeats 1000000 in
set_option maxRecDepth 100000 in
theorem refSquare_any (a b : Bell.Fx) (w : World) (ga : Bell.GoodFx a) (gb : Bell.GoodFx b) :
    Calls Tryz.prog 124 #[.agg #[.int .i64 b.x, .int .i64 b.y, .int .i64 b.z], .agg #[.int .i64 a.x, .int .i64 a.y, .int .i64 a.z]] w fun e w' => e = .returned (.int .i64 (Bell.sqFx a b)) ∧ Below w.heap.size w w' := by
  have h1 := ga.x0; have h2 := ga.x1; have h3 := ga.y0; have h4 := ga.y1; have h5 := ga.z0; have h6 := ga.z1
  have k1 := gb.x0; have k2 := gb.x1; have k3 := gb.y0; have k4 := gb.y1; have k5 := gb.z0; have k6 := gb.z1
  obtain ⟨u, hu⟩ : ∃ u, u = b.x - a.x := ⟨_, rfl⟩
  obtain ⟨v, hv⟩ : ∃ u, u = b.y - a.y := ⟨_, rfl⟩
  obtain ⟨t, ht⟩ : ∃ u, u = b.z - a.z := ⟨_, rfl⟩
  have q1 := sq_le (u := u) (B := 200000) (by omega) (by omega)
  have q2 := sq_le (u := v) (B := 200000) (by omega) (by omega)
  have q3 := sq_le (u := t) (B := 200000) (by omega) (by omega)
  have v1 : IntKind.i64.wrap (b.x - a.x) = u := by rw [hu]; exact IntWalk.i64_in _ (by omega)
  have v2 : IntKind.i64.wrap (b.y - a.y) = v := by rw [hv]; exact IntWalk.i64_in _ (by omega)
  have v3 : IntKind.i64.wrap (b.z - a.z) = t := by rw [ht]; exact IntWalk.i64_in _ (by omega)
  have hs : Bell.sqFx a b = u * u + v * v + t * t := by unfold Bell.sqFx; rw [hu, hv, ht]
  obtain ⟨U, hU⟩ : ∃ U, U = u * u := ⟨_, rfl⟩
  obtain ⟨V, hV⟩ : ∃ U, U = v * v := ⟨_, rfl⟩
  obtain ⟨T, hT⟩ : ∃ U, U = t * t := ⟨_, rfl⟩
  rw [← hU] at q1 hs
  rw [← hV] at q2 hs
  rw [← hT] at q3 hs
  have m1 : IntKind.i64.wrap (u * u) = U := by rw [← hU]; exact IntWalk.i64_in _ (by omega)
  have m2 : IntKind.i64.wrap (v * v) = V := by rw [← hV]; exact IntWalk.i64_in _ (by omega)
  have m3 : IntKind.i64.wrap (t * t) = T := by rw [← hT]; exact IntWalk.i64_in _ (by omega)
  have s1 : IntKind.i64.wrap (U + V) = U + V := IntWalk.i64_in _ (by omega)
  have s2 : IntKind.i64.wrap (U + V + T) = U + V + T := IntWalk.i64_in _ (by omega)
  rw [hs]
  clear h1 h2 h3 h4 h5 h6 k1 k2 k3 k4 k5 k6 q1 q2 q3 hu hv ht hU hV hT hs ga gb
  go_enter Tryz.func124, Tryz.ntmps124
  go_upto_region 1 with fail
  obtain ⟨w1, hw1⟩ : ∃ W, W = ((w.alloc (.cells #[.int .i64 b.x, .int .i64 b.y, .int .i64 b.z] 28)).alloc (.cells #[.int .i64 a.x, .int .i64 a.y, .int .i64 a.z] 28)) := ⟨_, rfl⟩
  rw [← hw1]
  have BA : Hid (Blk w1 (w.heap.size) 28 #[.int .i64 b.x, .int .i64 b.y, .int .i64 b.z]) := by show Blk _ _ _ _; rw [hw1]; exact (Blk.new _ _ _).alloc _
  have BC : Hid (Blk w1 (w.heap.size + 1) 28 #[.int .i64 a.x, .int .i64 a.y, .int .i64 a.z]) := by show Blk _ _ _ _; rw [hw1]; exact Blk.at_size _ _ (by simp)
  have hb : Below w.heap.size w w1 := by rw [hw1]; exact (((Below.refl _ _).alloc (Nat.le_refl _) _).alloc (by simp) _)
  obtain ⟨g2, hg2⟩ : ∃ g, g = w.heap.size := ⟨_, rfl⟩
  obtain ⟨g3, hg3⟩ : ∃ g, g = w.heap.size + 1 := ⟨_, rfl⟩
  have HGw1 : Hid (g2 = w.heap.size ∧ g3 = w.heap.size + 1) := ⟨hg2, hg3⟩
  rw [← hg3] at BC
  try rw [← hg3]
  rw [← hg2] at BA
  try rw [← hg2]
  clear hw1 hg2 hg3
  have HB := Lib.hid hb
  have X2 := BA.out; have Y2 := BC.out
  have ac0 := X2.cell 0; have af0 := X2.frozen 0; have ac1 := X2.cell 1; have af1 := X2.frozen 1; have ac2 := X2.cell 2; have af2 := X2.frozen 2
  simp only [List.getElem?_toArray, List.getElem?_cons_zero, List.getElem?_cons_succ] at ac0 ac1 ac2
  clear X2
  have bc0 := Y2.cell 0; have bf0 := Y2.frozen 0; have bc1 := Y2.cell 1; have bf1 := Y2.frozen 1; have bc2 := Y2.cell 2; have bf2 := Y2.frozen 2
  simp only [List.getElem?_toArray, List.getElem?_cons_zero, List.getElem?_cons_succ] at bc0 bc1 bc2
  clear Y2
  clear hb HGw1 BA BC
  go_wp2
  go_ret
  exact ⟨rfl, HB.out⟩
theorem refCheckAt_any (b off n c : Nat) (l : List Bell.Fx) (k : Int) (w : World) (hl : FixesAt w b off n l) (hg : Bell.GoodTr l) :
    Calls Tryz.prog 41 #[.slice (some ⟨b, off, none⟩) n c, .int .i64 k] w fun e w' => e = .returned (.int .i64 (if k < (Bell.fxAt l 0).t ∨ (Bell.fxAt l (l.length - 1)).t ≤ k then 7 else 0)) ∧ w' = w := by
  have n1 := hg.lo
  have n2 := hg.hi
  rw [hl.1] at n1 n2
  obtain ⟨m, rfl⟩ : ∃ m, n = m + 1 := ⟨n - 1, by omega⟩
  have c0 := (hl.2 0 (by omega)).1
  have c1 := (hl.2 m (by omega)).1
  simp only [Nat.zero_mul, Nat.add_zero] at c0
  rw [hl.1, Nat.add_sub_cancel]
  obtain ⟨P, hP⟩ : ∃ P, P = (Bell.fxAt l 0).t := ⟨_, rfl⟩
  obtain ⟨Q, hQ⟩ : ∃ P, P = (Bell.fxAt l m).t := ⟨_, rfl⟩
  rw [← hP] at c0 ⊢
  rw [← hQ] at c1 ⊢
  have wn : IntKind.i64.wrap (((m + 1 : Nat) : Int) - 1) = (m : Int) := by rw [IntWalk.i64_in _ (by omega)]; omega
  have pm : (m : Int) < ((m + 1 : Nat) : Int) := by omega
  clear hl hg hP hQ n1
  by_cases h1 : k < P
  · rw [if_pos (.inl h1)]
    go_enter Tryz.func41, Tryz.ntmps41
    go_wp2_with fail
    refine (refWhen_as (b := true) (x := 7) (a := 7) w rfl).mono ?_
    rintro e w' ⟨rfl, rfl⟩
    go_wp2
    go_ret
    exact ⟨rfl, rfl⟩
  · by_cases h2 : Q ≤ k
    · rw [if_pos (.inr h2)]
      go_enter Tryz.func41, Tryz.ntmps41
      go_wp2_with fail
      refine (refWhen_as (b := true) (x := 7) (a := 7) w rfl).mono ?_
      rintro e w' ⟨rfl, rfl⟩
      go_wp2
      go_ret
      exact ⟨rfl, rfl⟩
    · rw [if_neg (by omega)]
      go_enter Tryz.func41, Tryz.ntmps41
      go_wp2_with fail
      refine (refWhen_as (b := false) (x := 7) (a := 0) w rfl).mono ?_
      rintro e w' ⟨rfl, rfl⟩
      go_wp2
      go_ret
      exact ⟨rfl, rfl⟩
theorem lawFirst2 (g c : Nat) (x y : Int) (w : World) (h0 : w.cell? ⟨g, 0, none⟩ = some (.int .i64 x)) (h1 : w.cell? ⟨g, 1, none⟩ = some (.int .i64 y)) :
    Calls Tryz.prog 21 #[.slice (some ⟨g, 0, none⟩) 2 c] w fun e w' => e = .returned (.int .i64 (firstE [x, y])) ∧ w = w' := by
  have H := Lib.hid (refFirst2 g c x y w h0 h1)
  clear h0 h1
  go_enter Tryz.func21, Tryz.ntmps21
  go_wp2_with fail
  refine H.out.mono ?_
  rintro e w' ⟨rfl, rfl⟩
  go_wp2
  go_ret
  exact ⟨rfl, rfl⟩
theorem repair_one (v : Int) {l : List Bell.Fx} (h : 0 < l.length) : Bell.repair v (l.take 1) = [Bell.fxAt l 0] := by
  cases l with
  | nil => simp at h
  | cons a l => rfl
theorem ownTR_shape {w : World} {base : Nat} {v : Value} {l : List Bell.Fx} (h : OwnTR w base v l) (hl : 0 < l.length) : ∃ g c, v = .slice (some ⟨g, 0, none⟩) l.length c ∧ FixesAt w g 0 l.length l := by
  obtain ⟨A, c, hv, ht, _⟩ := h.at_
  obtain ⟨g, o, rfl, hf⟩ := ht.2 hl
  rcases h.2 with ⟨h1, h2⟩ | ⟨g', cap, cur, h1, _⟩
  · omega
  · rw [hv] at h1
    injection h1 with e1 _ _
    injection e1 with e1
    injection e1 with e1 e2
    subst e2
    exact ⟨g, c, hv, hf⟩
set_option maxHeartbeats 4000000 in
set_option maxRecDepth 100000 in
theorem refRepaired_any (b off n c : Nat) (l : List Bell.Fx) (v : Int) (w : World) (hl : FixesAt w b off n l) (hg : Bell.GoodTr l) (hv0 : 1 ≤ v) (hv1 : v ≤ 1000) :
    Calls Tryz.prog 43 #[.slice (some ⟨b, off, none⟩) n c, .int .i64 v] w fun e w' => ∃ A m c', e = .returned (.tuple #[.slice A m c', .int .i64 (if (Bell.repair v l).length < 2 then 16 else 0)]) ∧ TrAt w' A m (if (Bell.repair v l).length < 2 then [] else Bell.repair v l) ∧ m ≤ 100000 ∧ Below w.heap.size w w' := by
  obtain ⟨i0, hi, hz0, hz1, hz2⟩ := info_parts infoFixR
  obtain ⟨EV, hEV⟩ : ∃ x : Int, x = if (Bell.repair v l).length < 2 then 16 else 0 := ⟨_, rfl⟩
  obtain ⟨LV, hLV⟩ : ∃ x : List Bell.Fx, x = if (Bell.repair v l).length < 2 then [] else Bell.repair v l := ⟨_, rfl⟩
  rw [← hEV, ← hLV]
  have HEV := Lib.hid hEV
  have HLV := Lib.hid hLV
  clear hEV hLV
  have hn := hl.1
  have n1 := hg.lo
  have n2 := hg.hi
  have HL := Lib.hid hl
  have HG := Lib.hid hg
  have HN := Lib.hid hn
  have HV : Hid (1 ≤ v ∧ v ≤ 1000) := ⟨hv0, hv1⟩
  have hn16 : n ≤ 16 := by omega
  have hn2 : 2 ≤ n := by omega
  obtain ⟨c0, c1, c2, c3, c4⟩ := hl.2 0 (by omega)
  simp only [Nat.zero_mul, Nat.add_zero] at c0 c1 c2 c3 c4
  obtain ⟨P, hP⟩ : ∃ P, P = Bell.fxAt l 0 := ⟨_, rfl⟩
  rw [← hP] at c0 c1 c2 c3 c4
  have HP := Lib.hid hP
  have p0 : 0 < n := by omega
  clear hl hg hn n1 n2 hP hv0 hv1
  go_enter Tryz.func43, Tryz.ntmps43
  go_upto_region 2 with fail
  obtain ⟨w1, hw1⟩ : ∃ W, W = (w.alloc (.cells #[.int .i64 P.t, .int .i64 P.x, .int .i64 P.y, .int .i64 P.z, .int .i64 P.p] 140)) := ⟨_, rfl⟩
  rw [← hw1]
  have B0 : Hid (Blk w1 (w.heap.size) 140 #[.int .i64 P.t, .int .i64 P.x, .int .i64 P.y, .int .i64 P.z, .int .i64 P.p]) := by show Blk _ _ _ _; rw [hw1]; exact Blk.new _ _ _
  have hb : Below w.heap.size w w1 := by rw [hw1]; exact ((Below.refl _ _).alloc (Nat.le_refl _) _)
  obtain ⟨g0, hg0⟩ : ∃ g, g = w.heap.size := ⟨_, rfl⟩
  have HGw1 : Hid (g0 = w.heap.size) := hg0
  rw [← hg0] at B0
  try rw [← hg0]
  clear hw1 hg0
  have hg0 : w.heap.size ≤ g0 := by rw [HGw1]; exact Nat.le_refl _
  have hbk := B0.out
  have ho : OwnTR w1 w.heap.size (.slice (some ⟨g0, 0, none⟩) 1 1) (Bell.repair v (l.take 1)) := by
    rw [repair_one v (by rw [HN.out]; omega), ← HP.out]
    unfold OwnTR
    exact ⟨rfl, .inr ⟨g0, 1, #[.int .i64 P.t, .int .i64 P.x, .int .i64 P.y, .int .i64 P.z, .int .i64 P.p], rfl, hg0, hbk, Nat.le_refl _, by unfold maxLen; omega, rfl, rfl⟩⟩
  clear HGw1 B0 hbk hg0 c0 c1 c2 c3 c4 HP
  go_wp2_with fail
  go_loopw [6, 7] (fun o i wr => ∃ k : Nat, 1 ≤ k ∧ k ≤ n ∧ i = .int .i64 k ∧ OwnTR wr w.heap.size o (Bell.repair v (l.take k)) ∧ Below w.heap.size w wr) (fun _ i _ => n - (intOf i).toNat)
  case atStart => exact ⟨1, Nat.le_refl _, by omega, rfl, ho, hb⟩
  case round =>
    clear ho hb
    obtain ⟨k, hk1, hk, rfl, hown, hb⟩ := hrel
    obtain ⟨R, hR⟩ : ∃ R, R = Bell.repair v (l.take k) := ⟨_, rfl⟩
    rw [← hR] at hown
    have hkl : k ≤ l.length := by rw [HN.out]; exact hk
    have hRl : R.length ≤ k := by rw [hR]; exact Nat.le_trans (repair_len v _) (by simp; omega)
    have hRp : 0 < R.length := by rw [hR]; exact repair_pos v (by simp; omega)
    obtain ⟨gR, cR, rfl, hfR⟩ := ownTR_shape hown hRp
    obtain ⟨q, hq⟩ : ∃ q, R.length = q + 1 := ⟨R.length - 1, by omega⟩
    rw [hq] at hfR hRl ⊢
    by_cases hlt : k < n
    · have HOW := Lib.hid hown
      have HBW := Lib.hid hb
      obtain ⟨x0, x1, x2, x3, x4⟩ := (HL.out.keep hb).2 k hlt
      obtain ⟨y0, y1, y2, y3, y4⟩ := hfR.2 q (by omega)
      simp only [Nat.zero_add] at y0 y1 y2 y3 y4
      have hYm : ∃ i, i < k ∧ Bell.fxAt R q = Bell.fxAt l i := by
        have h1 : Bell.fxAt R q ∈ R := fxAt_mem (by omega)
        rw [hR] at h1
        obtain ⟨i, h2, _, h3⟩ := mem_take_fxAt ((Bell.repair_sub v _).subset h1)
        exact ⟨i, h2, by rw [hR]; exact h3.symm⟩
      obtain ⟨i, hik, hYi⟩ := hYm
      have gX := HG.out.pts k (by rw [HN.out]; exact hlt)
      have gY := HG.out.pts i (by rw [HN.out]; omega)
      have hup := HG.out.up i k hik (by rw [HN.out]; exact hlt)
      have hsp : (Bell.fxAt l k).t - (Bell.fxAt l i).t ≤ 1000 := by
        have h5 := HG.out.last
        have h6 : (Bell.fxAt l 0).t ≤ (Bell.fxAt l i).t := by
          rcases Nat.eq_zero_or_pos i with e | e
          · rw [e]; exact Int.le_refl _
          · have := HG.out.up 0 i e (by rw [HN.out]; omega); omega
        have h7 : (Bell.fxAt l k).t ≤ (Bell.fxAt l (l.length - 1)).t := by
          rcases Nat.lt_or_ge k (l.length - 1) with e | e
          · have := HG.out.up k (l.length - 1) e (by omega); omega
          · rw [show k = l.length - 1 by rw [HN.out] at e ⊢; omega]; exact Int.le_refl _
        omega
      rw [← hYi] at gY hup hsp
      have hrs := repair_step (v := v) (l := l) (j := k - 1) (by rw [HN.out]; omega)
      rw [show k - 1 + 1 = k by omega, show k - 1 + 2 = k + 1 by omega, ← hR, hq, Nat.add_sub_cancel] at hrs
      obtain ⟨X, hX⟩ : ∃ X, X = Bell.fxAt l k := ⟨_, rfl⟩
      obtain ⟨Y, hY⟩ : ∃ Y, Y = Bell.fxAt R q := ⟨_, rfl⟩
      rw [← hX] at x0 x1 x2 x3 x4 gX hup hsp hrs
      rw [← hY] at y0 y1 y2 y3 y4 gY hup hsp hrs
      have HSTEP := Lib.hid hrs
      have GX := Lib.hid gX
      have GY := Lib.hid gY
      obtain ⟨D, hD⟩ : ∃ D, D = X.t - Y.t := ⟨_, rfl⟩
      obtain ⟨FAR, hFAR⟩ : ∃ F, F = v * D := ⟨_, rfl⟩
      have hD0 : 0 ≤ D ∧ D ≤ 1000 := by omega
      have hF0 : 0 ≤ FAR ∧ FAR ≤ 1000000 := by
        rw [hFAR]
        have h1 := HV.out
        exact ⟨Int.mul_nonneg (by omega) hD0.1, by have := Int.mul_le_mul h1.2 hD0.2 hD0.1 (by omega : (0 : Int) ≤ 1000); omega⟩
      have hF2 := sq_le (u := FAR) (B := 1000000) (by omega) (by omega)
      obtain ⟨F2, hF2e⟩ : ∃ F, F = FAR * FAR := ⟨_, rfl⟩
      rw [← hF2e] at hF2
      obtain ⟨SQ, hSQ⟩ : ∃ s, s = Bell.sqFx Y X := ⟨_, rfl⟩
      have HFL : Hid (Bell.flies v Y X ↔ SQ ≤ F2) := by
        show _ ↔ _
        unfold Bell.flies
        rw [hF2e, hFAR, hD, hSQ]
      have HSQ := Lib.hid hSQ
      have v1 : IntKind.i64.wrap (X.t - Y.t) = D := by rw [hD]; exact IntWalk.i64_in _ (by have := gX.t0; have := gX.t1; have := gY.t0; have := gY.t1; omega)
      have v2 : IntKind.i64.wrap (v * D) = FAR := by rw [← hFAR]; exact IntWalk.i64_in _ (by omega)
      have v3 : IntKind.i64.wrap (FAR * FAR) = F2 := by rw [← hF2e]; exact IntWalk.i64_in _ (by omega)
      have wq : IntKind.i64.wrap (((q + 1 : Nat) : Int) - 1) = (q : Int) := by rw [IntWalk.i64_in _ (by omega)]; omega
      have pq : (q : Int) < ((q + 1 : Nat) : Int) := by omega
      have pk : (k : Int) < (n : Int) := by omega
      have HX : Hid (X = Bell.fxAt l k) := hX
      have HQ := Lib.hid hq
      clear hown hb hfR hYi gX gY hup hsp hrs hX hY hD hFAR hD0 hF0 hF2 hF2e hSQ hkl hik hR hq
      go_upto_region 6 with fail
      obtain ⟨wa, hwa⟩ : ∃ W, W = (wr.alloc (.cells #[.int .i64 Y.t, .int .i64 Y.x, .int .i64 Y.y, .int .i64 Y.z, .int .i64 Y.p] 140)) := ⟨_, rfl⟩
      rw [← hwa]
      have BY : Hid (Blk wa (wr.heap.size) 140 #[.int .i64 Y.t, .int .i64 Y.x, .int .i64 Y.y, .int .i64 Y.z, .int .i64 Y.p]) := by show Blk _ _ _ _; rw [hwa]; exact Blk.new _ _ _
      have hb : Below wr.heap.size wr wa := by rw [hwa]; exact ((Below.refl _ _).alloc (Nat.le_refl _) _)
      obtain ⟨g8, hg8⟩ : ∃ g, g = wr.heap.size := ⟨_, rfl⟩
      have HGwa : Hid (g8 = wr.heap.size) := hg8
      rw [← hg8] at BY
      try rw [← hg8]
      clear hwa hg8
      clear HGwa y0 y1 y2 y3 y4
      have HB2 := Lib.hid hb
      clear hb x0 x1 x2 x3 x4
      have hx := (HL.out.keep (HBW.out.trans (HB2.out.mono HBW.out.size))).2 k hlt
      rw [← HX.out] at hx
      obtain ⟨x0, x1, x2, x3, x4⟩ := hx
      have k0 := BY.out.cell 0
      simp only [List.getElem?_toArray, List.getElem?_cons_zero] at k0
      go_big_quiet (fail)
      obtain ⟨wb, hwb⟩ : ∃ W, W = wa.drewN nq := ⟨_, rfl⟩
      rw [← hwb]
      have hb2 : Below wa.heap.size wa wb := by rw [hwb]; exact below_drewN' (Below.refl _ _) _
      clear hwb k0 v1 v2 x0 x1 x2 x3 x4
      replace BY := Lib.hid (BY.out.below hb2)
      replace HB2 := Lib.hid (HB2.out.trans (hb2.mono HB2.out.size))
      clear hb2
      have HXF : Hid (FixAt wb b (off + k * 5) X) := by show FixAt _ _ _ _; rw [HX.out]; exact (HL.out.keep (HBW.out.trans (HB2.out.mono HBW.out.size))).2 k hlt
      go_upto_region 7 with fail
      refine wp_region_allN 12 rfl (by kernel_rfl) (by kernel_rfl) [GR.eq (.slice (some ⟨b, off, none⟩) n c), GR.eq (.int .i64 k), GR.eq (.pointer (some ⟨b, off + k * 5, none⟩)), GR.eq (.pointer (some ⟨b, off + k * 5 + 1, none⟩)), GR.eq (.agg #[.int .i64 X.x, .int .i64 X.y, .int .i64 X.z]), GR.eq (.pointer (some ⟨g8, 1, none⟩)), GR.eq (.agg #[.int .i64 Y.x, .int .i64 Y.y, .int .i64 Y.z]), GR.eq (.int .i64 SQ), GR.eq (.int .i64 FAR), GR.eq (.int .i64 FAR), GR.eq (.int .i64 F2), GR.eq (.bool (decide (SQ ≤ F2)))] 59 rfl (by kernel_rfl) ?_ ?_
      · refine ⟨?_, ?_, ?_, ?_, ?_, ?_, ?_, ?_, ?_, ?_, ?_, ?_, trivial⟩
        · intro a W hE hd ho
          have e0 : a.tmps[0]?.getD undef = .slice (some ⟨b, off, none⟩) n c := ho 0 (by kernel_rfl)
          exact gs_same (v := .slice (some ⟨b, off, none⟩) n c) (by go_simp) rfl
        · intro a W hE hd ho
          have e7 : a.tmps[7]?.getD undef = .int .i64 k := ho 7 (by kernel_rfl)
          exact gs_same (v := .int .i64 k) (by go_simp) rfl
        · intro a W hE hd ho
          have e36 : a.tmps[36]?.getD undef = .slice (some ⟨b, off, none⟩) n c := hd 0 36 (by kernel_rfl) (by kernel_rfl)
          have e37 : a.tmps[37]?.getD undef = .int .i64 k := hd 1 37 (by kernel_rfl) (by kernel_rfl)
          exact gs_same (v := .pointer (some ⟨b, off + k * 5, none⟩)) (by go_simp) rfl
        · intro a W hE hd ho
          have e38 : a.tmps[38]?.getD undef = .pointer (some ⟨b, off + k * 5, none⟩) := hd 2 38 (by kernel_rfl) (by kernel_rfl)
          exact gs_same (v := .pointer (some ⟨b, off + k * 5 + 1, none⟩)) (by go_simp) rfl
        · intro a W hE hd ho
          have e39 : a.tmps[39]?.getD undef = .pointer (some ⟨b, off + k * 5 + 1, none⟩) := hd 3 39 (by kernel_rfl) (by kernel_rfl)
          obtain ⟨_, x1, x2, x3, _⟩ := HXF.out.keep hE.below
          exact gs_same (v := .agg #[.int .i64 X.x, .int .i64 X.y, .int .i64 X.z]) (by go_simp) rfl
        · intro a W hE hd ho
          have e8 : a.tmps[8]?.getD undef = .pointer (some ⟨g8, 0, none⟩) := ho 8 (by kernel_rfl)
          exact gs_same (v := .pointer (some ⟨g8, 1, none⟩)) (by go_simp) rfl
        · intro a W hE hd ho
          have e41 : a.tmps[41]?.getD undef = .pointer (some ⟨g8, 1, none⟩) := hd 5 41 (by kernel_rfl) (by kernel_rfl)
          have c1 := (BY.out.below hE).cell 1
          have c2 := (BY.out.below hE).cell 2
          have c3 := (BY.out.below hE).cell 3
          simp only [List.getElem?_toArray, List.getElem?_cons_zero, List.getElem?_cons_succ] at c1 c2 c3
          exact gs_same (v := .agg #[.int .i64 Y.x, .int .i64 Y.y, .int .i64 Y.z]) (by go_simp) rfl
        · intro a W hE hd ho
          have e40 : a.tmps[40]?.getD undef = .agg #[.int .i64 X.x, .int .i64 X.y, .int .i64 X.z] := hd 4 40 (by kernel_rfl) (by kernel_rfl)
          have e42 : a.tmps[42]?.getD undef = .agg #[.int .i64 Y.x, .int .i64 Y.y, .int .i64 Y.z] := hd 6 42 (by kernel_rfl) (by kernel_rfl)
          refine gs_call (f := 124) (args := #[.agg #[.int .i64 X.x, .int .i64 X.y, .int .i64 X.z], .agg #[.int .i64 Y.x, .int .i64 Y.y, .int .i64 Y.z]]) (by go_simp) ?_
          have h := refSquare_any Y X W GY.out GX.out
          rw [← HSQ.out] at h
          refine h.mono ?_
          rintro e w' ⟨rfl, hb⟩
          exact ⟨_, rfl, hb, rfl⟩
        · intro a W hE hd ho
          have e9 : a.tmps[9]?.getD undef = .int .i64 FAR := ho 9 (by kernel_rfl)
          exact gs_same (v := .int .i64 FAR) (by go_simp) rfl
        · intro a W hE hd ho
          have e9 : a.tmps[9]?.getD undef = .int .i64 FAR := ho 9 (by kernel_rfl)
          exact gs_same (v := .int .i64 FAR) (by go_simp) rfl
        · intro a W hE hd ho
          have e44 : a.tmps[44]?.getD undef = .int .i64 FAR := hd 8 44 (by kernel_rfl) (by kernel_rfl)
          have e45 : a.tmps[45]?.getD undef = .int .i64 FAR := hd 9 45 (by kernel_rfl) (by kernel_rfl)
          exact gs_same (v := .int .i64 F2) (by go_simp) rfl
        · intro a W hE hd ho
          have e43 : a.tmps[43]?.getD undef = .int .i64 SQ := hd 7 43 (by kernel_rfl) (by kernel_rfl)
          have e46 : a.tmps[46]?.getD undef = .int .i64 F2 := hd 10 46 (by kernel_rfl) (by kernel_rfl)
          exact gs_same (v := .bool (decide (SQ ≤ F2))) (by go_simp) rfl
      intro v7 wc hE hR
      have y0 : v7 0 = .slice (some ⟨b, off, none⟩) n c := hR 0 (by omega)
      have y1 : v7 1 = .int .i64 k := hR 1 (by omega)
      have y2 : v7 2 = .pointer (some ⟨b, off + k * 5, none⟩) := hR 2 (by omega)
      have y3 : v7 3 = .pointer (some ⟨b, off + k * 5 + 1, none⟩) := hR 3 (by omega)
      have y4 : v7 4 = .agg #[.int .i64 X.x, .int .i64 X.y, .int .i64 X.z] := hR 4 (by omega)
      have y5 : v7 5 = .pointer (some ⟨g8, 1, none⟩) := hR 5 (by omega)
      have y6 : v7 6 = .agg #[.int .i64 Y.x, .int .i64 Y.y, .int .i64 Y.z] := hR 6 (by omega)
      have y7 : v7 7 = .int .i64 SQ := hR 7 (by omega)
      have y8 : v7 8 = .int .i64 FAR := hR 8 (by omega)
      have y9 : v7 9 = .int .i64 FAR := hR 9 (by omega)
      have y10 : v7 10 = .int .i64 F2 := hR 10 (by omega)
      have y11 : v7 11 = .bool (decide (SQ ≤ F2)) := hR 11 (by omega)
      simp only [List.range, List.range.loop, List.foldl_cons, List.foldl_nil, y0, y1, y2, y3, y4, y5, y6, y7, y8, y9, y10, y11, List.drop_succ_cons, List.drop_zero]
      simp only [dstAt, List.getElem?_toArray, List.getElem?_cons_zero, List.getElem?_cons_succ, Option.bind_some, Act.put, List.setIfInBounds_toArray, List.set_cons_zero, List.set_cons_succ]
      clear y0 y1 y2 y3 y4 y5 y6 y7 y8 y9 y10 y11 hR
      have HB3 : Hid (Below wr.heap.size wr wc) := HB2.out.trans (hE.below.mono HB2.out.size)
      clear hE BY HB2 HXF v3
      have HOC : Hid (OwnTR wc w.heap.size (.slice (some ⟨gR, 0, none⟩) R.length cR) R) := row_ext HOW.out HB3.out
      have HBC : Hid (Below w.heap.size w wc) := HBW.out.trans (HB3.out.mono HBW.out.size)
      clear HOW HBW HB3
      by_cases hfl : SQ ≤ F2
      · have HRN : Hid (Bell.repair v (l.take (k + 1)) = R ++ [X]) := by show _ = _; rw [HSTEP.out, if_pos (HFL.out.2 hfl)]
        have hx := (HL.out.keep HBC.out).2 k hlt
        rw [← HX.out] at hx
        obtain ⟨x0, x1, x2, x3, x4⟩ := hx
        have hown0 : wc.ownsRow w.heap.size 140 5 (.slice (some ⟨gR, 0, none⟩) (q + 1) cR) (q + 1) (fxCells R) := by have := HOC.out; unfold OwnTR at this; rwa [HQ.out] at this
        have hsz := HBC.out.size
        go_wp2_with (at_builtin; refine wpList_append_own _ rfl _ _ 62 rfl w.heap.size 140 i0 (.agg #[.int .i64 0, .int .i64 0, .int .i64 0, .int .i64 0, .int .i64 0]) 5 40 Tryz.underlying62 hi hz0 hz1 hz2 rfl (by decide) _ _ _ rfl (World.ownsRow.alloc hown0 _) ⟨wc.heap.size, 0, none⟩ 1 1 [.int .i64 X.t, .int .i64 X.x, .int .i64 X.y, .int .i64 X.z, .int .i64 X.p] rfl rfl (cells_five_at wc 140 (.int .i64 X.t) (.int .i64 X.x) (.int .i64 X.y) (.int .i64 X.z) (.int .i64 X.p)) (by simp [Value.oneCell']) (by unfold maxLen; omega) (by omega) (by simp; omega) ?_; intro v' wd hown' hgrow _)
        have RR : Hid (OwnTR wd w.heap.size v' (Bell.repair v (l.take (k + 1)))) := by
          show OwnTR _ _ _ _
          unfold OwnTR
          rw [HRN.out, fxCells_snoc, List.length_append, HQ.out]
          exact hown'
        have B1 : Hid (Below w.heap.size w wd) := Below.grown (HBC.out.alloc HBC.out.size _) hgrow (by simp; omega) (fun j hj => (hown0.lt j hj).1)
        clear hown' hgrow hown0 x0 x1 x2 x3 x4
        go_wp2
        go_roundw
        case rel => exact ⟨k + 1, by omega, by omega, by go_num, RR.out, B1.out⟩
        case measure => simp [intOf]; omega
      · have HRN : Hid (Bell.repair v (l.take (k + 1)) = R) := by show _ = _; rw [HSTEP.out, if_neg (fun h => hfl (HFL.out.1 h))]
        have RR : Hid (OwnTR wc w.heap.size (.slice (some ⟨gR, 0, none⟩) (q + 1) cR) (Bell.repair v (l.take (k + 1)))) := by
          show OwnTR _ _ _ _
          rw [HRN.out, ← HQ.out]
          exact HOC.out
        go_wp2
        go_roundw
        case rel => exact ⟨k + 1, by omega, by omega, by go_num, RR.out, HBC.out⟩
        case measure => simp [intOf]; omega
    · obtain rfl : n = k := by omega
      have hRR : R = Bell.repair v l := by rw [hR, List.take_of_length_le (by rw [HN.out]; exact Nat.le_refl _)]
      have HRR := Lib.hid hRR
      have HB := Lib.hid hb
      have HF := Lib.hid hfR
      have HQ := Lib.hid hq
      clear hb hfR hown hR hRR hkl hRp hlt hk
      by_cases h2 : q + 1 < 2
      · have h3 : ((q + 1 : Nat) : Int) < 2 := by omega
        go_wp2
        (try simp only [Exit.inBlock, Exit.then])
        refine bodyPost_ret (v := .tuple #[.slice none 0 0, .int .i64 16]) (by simp [results, Tryz.results43, go_sem, asAddr]) rfl ?_
        exact ⟨none, 0, 0, by rw [HEV.out, ← HRR.out, HQ.out, if_pos h2], by rw [HLV.out, ← HRR.out, HQ.out, if_pos h2]; exact tr_nil _, by omega, HB.out⟩
      · have h3 : ¬ ((q + 1 : Nat) : Int) < 2 := by omega
        go_wp2
        (try simp only [Exit.inBlock, Exit.then])
        refine bodyPost_ret (v := .tuple #[.slice (some ⟨gR, 0, none⟩) (q + 1) cR, .int .i64 0]) (by simp [results, Tryz.results43, go_sem, asAddr]) rfl ?_
        have e1 : Value.int .i64 0 = .int .i64 EV := by rw [HEV.out, ← HRR.out, HQ.out, if_neg h2]
        have e2 : TrAt wr (some ⟨gR, 0, none⟩) (q + 1) LV := by rw [HLV.out, ← HRR.out, HQ.out, if_neg h2]; exact ⟨HQ.out, fun _ => ⟨gR, 0, rfl, HF.out⟩⟩
        first
          | exact ⟨some ⟨gR, 0, none⟩, q + 1, cR, by rw [e1], e2, by omega, HB.out⟩
          | exact ⟨some ⟨gR, 0, none⟩, q + 1, ⟨cR, by rw [e1]⟩, e2, by omega, HB.out⟩
end Go.Proofs.YtmafmebcgmegeaaGreatDoor
