/- Texts Xq of the proof. -/
import Derived.Test.YtmafmebcgmegeaaGreatDoorWt33
import Derived.Test.YtmafmebcgmegeaaGreatDoorWt37
import Derived.Test.YtmafmebcgmegeaaGreatDoorWt38
import Derived.Test.YtmafmebcgmegeaaGreatDoorWt30
namespace Go.Proofs.YtmafmebcgmegeaaGreatDoor
open Go.RowKit Go.Sort
theorem tracks_at {l : List Bell.Fx} (x : Int) (h : trackE l = 0) (b off n c : Nat) (W : World) (hf : FixesAt W b off n l) :
    Calls Tryz.prog 41 #[.slice (some ⟨b, off, none⟩) n c, .int .i64 x] W fun e w' => e = .returned (.int .i64 (atE l x)) ∧ w' = W := by
  have e : atE l x = if x < (Bell.fxAt l 0).t ∨ (Bell.fxAt l (l.length - 1)).t ≤ x then 7 else 0 := by unfold atE; rw [if_pos h]
  rw [e]
  exact refCheckAt_any b off n c l x W hf (goodTr_of h)
theorem atE_off {l : List Bell.Fx} (x : Int) (h : trackE l ≠ 0) : atE l x = trackE l := by unfold atE; rw [if_neg h]
theorem atE_in {l : List Bell.Fx} {x : Int} (h : atE l x = 0) : trackE l = 0 ∧ (Bell.fxAt l 0).t ≤ x ∧ x < (Bell.fxAt l (l.length - 1)).t := by
  unfold atE at h
  split at h
  · rename_i h0
    refine ⟨h0, ?_⟩
    split at h
    · exact absurd h (by decide)
    · omega
  · rename_i h0; exact absurd h h0
theorem tracks_state {l : List Bell.Fx} (x : Int) (h : atE l x = 0) (b off n c : Nat) (W : World) (hf : FixesAt W b off n l) :
    Calls Tryz.prog 42 #[.slice (some ⟨b, off, none⟩) n c, .int .i64 x] W fun e w' => e = .returned (.agg (stV (atS l x))) ∧ Below W.heap.size W w' := by
  rw [atS_on h]
  obtain ⟨h0, h1, h2⟩ := atE_in h
  exact refAt_any b off n c l x W hf (goodTr_of h0) h1 h2
theorem two_zero {x y : Int} (h : firstE [x, y] = 0) : x = 0 ∧ y = 0 := ⟨firstE_zero h x (by simp), firstE_zero h y (by simp)⟩
theorem repE_off {l : List Bell.Fx} {y : Int} (h : firstE [trackE l, withinE y 1 1000] ≠ 0) : repE l y = firstE [trackE l, withinE y 1 1000] ∧ repL l y = [] := by
  have e : repE l y = firstE [trackE l, withinE y 1 1000] := by
    unfold repE
    by_cases h0 : trackE l = 0
    · have h1 : withinE y 1 1000 ≠ 0 := by rw [h0, firstE_0] at h; exact h
      rw [if_pos h0, if_neg h1, h0, firstE_0]
    · rw [if_neg h0, firstE_n1 h0]
  refine ⟨e, ?_⟩
  unfold repL
  rw [e, if_neg h]
theorem tracks_rep {l : List Bell.Fx} (y : Int) (h : firstE [trackE l, withinE y 1 1000] = 0) (b off n c : Nat) (W : World) (hf : FixesAt W b off n l) :
    Calls Tryz.prog 43 #[.slice (some ⟨b, off, none⟩) n c, .int .i64 y] W fun e w' => ∃ A m c', e = .returned (.tuple #[.slice A m c', .int .i64 (repE l y)]) ∧ TrAt w' A m (repL l y) ∧ Below W.heap.size W w' := by
  obtain ⟨h0, h1⟩ := two_zero h
  obtain ⟨v0, v1⟩ := withinE_zero h1
  have e1 : repE l y = if (Bell.repair y l).length < 2 then 16 else 0 := by unfold repE; rw [if_pos h0, if_pos h1]
  have e2 : repL l y = if (Bell.repair y l).length < 2 then [] else Bell.repair y l := by
    unfold repL
    rw [e1]
    by_cases h2 : (Bell.repair y l).length < 2
    · rw [if_pos h2, if_pos h2]; rfl
    · rw [if_neg h2, if_neg h2]; rfl
  rw [e1, e2]
  refine (refRepaired_any b off n c l y W hf (goodTr_of h0) v0 v1).mono ?_
  rintro e w' ⟨A, m, c', he, ht, _, hb⟩
  exact ⟨A, m, c', he, ht, hb⟩
theorem joE_off {l k : List Bell.Fx} (h : firstE [trackE l, trackE k] ≠ 0) : joE l k = firstE [trackE l, trackE k] ∧ joL l k = [] := by
  have e : joE l k = firstE [trackE l, trackE k] := by unfold joE; rw [if_neg h]
  refine ⟨e, ?_⟩
  unfold joL
  rw [e, if_neg h]
theorem tracks_join {l k : List Bell.Fx} (h : firstE [trackE l, trackE k] = 0) (b0 o0 b1 o1 n m c d : Nat) (W : World) (hl : FixesAt W b0 o0 n l) (hk : FixesAt W b1 o1 m k) :
    Calls Tryz.prog 44 #[.slice (some ⟨b0, o0, none⟩) n c, .slice (some ⟨b1, o1, none⟩) m d] W fun e w' => ∃ A q c', e = .returned (.tuple #[.slice A q c', .int .i64 (joE l k)]) ∧ TrAt w' A q (joL l k) ∧ Below W.heap.size W w' := by
  obtain ⟨h0, h1⟩ := two_zero h
  have e2 : joL l k = if rjE l k = 0 then l ++ k else [] := by unfold joL; rw [joE_rj h0 h1]
  rw [joE_rj h0 h1, e2]
  refine (refJoined_any b0 o0 b1 o1 n m c d l k W hl hk (goodTr_of h0) (goodTr_of h1)).mono ?_
  rintro e w' ⟨A, q, c', he, ht, _, hb⟩
  exact ⟨A, q, c', he, ht, hb⟩
theorem rep_len (l : List Bell.Fx) (y : Int) : (repL l y).length ≤ l.length := by
  unfold repL
  split
  · exact repair_len y l
  · simp
theorem jo_len (l k : List Bell.Fx) : (joL l k).length ≤ l.length + k.length := by
  unfold joL
  split
  · rw [List.length_append]; exact Nat.le_refl _
  · simp
set_option maxRecDepth 100000 in
theorem eq_stR (a b c d e f : Int) (W : World) : (Op.equalIn 10000 32 (.agg #[.int .i64 a, .int .i64 b, .int .i64 c, .int .i64 d, .int .i64 e, .int .i64 f]) (.agg #[.int .i64 a, .int .i64 b, .int .i64 c, .int .i64 d, .int .i64 e, .int .i64 f])).run Tryz.prog W = .ok true W := by go_simp
/-- A track of the program, made by the call. -/
def GR.trkA (n : Nat) (l : List Bell.Fx) : GR := ⟨fun v W => ∃ A c, v = .slice A n c ∧ TrAt W A n l ∧ n ≤ c ∧ c ≤ 9223372036854775807, fun ⟨A, c, e, h1, h2⟩ hE => ⟨A, c, e, h1.keep hE, h2⟩⟩
def GR.boxZ (B : Nat) (t : TypeId) (cs : Array Value) : GR := ⟨fun v W => ∃ g, v = .pointer (some ⟨g, 0, none⟩) ∧ Blk W g t cs ∧ B ≤ g, fun ⟨g, e, h1, h2⟩ hE => ⟨g, e, h1.below hE, h2⟩⟩
attribute [local go_sem] growsTo growUpon
set_option maxHeartbeats 8000000 in
set_option maxRecDepth 100000 in
theorem tracks_walk (A B : Option Addr) (n m c d : Nat) (l k : List Bell.Fx) (x y : Int) (w : World) (hl : TrAt w A n l) (hk : TrAt w B m k) (hu : Turned w) (hf : FirstWords w) (ht : Tab w) :
    Calls Tryz.prog 4 #[.slice A n c, .slice B m d, .agg #[.int .i64 x, .int .i64 y]] w fun e w' => e = .returned (.bool true) ∧ Below w.heap.size w w' := by
  have U := Lib.hid hu
  have F := Lib.hid hf
  have TB := Lib.hid ht
  have HL := Lib.hid hl
  have HK := Lib.hid hk
  clear hu hf ht hl hk
  go_enter Tryz.func4, Tryz.ntmps4
  go_upto_region 1 with fail
  obtain ⟨w1, hw1⟩ : ∃ W, W = (w.alloc (.cells #[.int .i64 x, .int .i64 y] 63)) := ⟨_, rfl⟩
  rw [← hw1]
  have NN : Hid (Blk w1 (w.heap.size) 63 #[.int .i64 x, .int .i64 y]) := by show Blk _ _ _ _; rw [hw1]; exact Blk.new _ _ _
  have hb : Below w.heap.size w w1 := by rw [hw1]; exact ((Below.refl _ _).alloc (Nat.le_refl _) _)
  obtain ⟨g5, hg5⟩ : ∃ g, g = w.heap.size := ⟨_, rfl⟩
  have HGw1 : Hid (g5 = w.heap.size) := hg5
  rw [← hg5] at NN
  try rw [← hg5]
  clear hw1 hg5
  have HB := Lib.hid hb
  replace U := Lib.hid (U.out.keep hb)
  replace F := Lib.hid (F.out.keep hb)
  replace TB := Lib.hid (TB.out.keep hb)
  replace HL := Lib.hid (HL.out.keep hb)
  replace HK := Lib.hid (HK.out.keep hb)
  clear hb HGw1
  go_wp2_with fail
  refine (refShortTrack_st A n c w1).mono ?_
  rintro e w2 ⟨rfl, hb⟩
  replace HB := Lib.hid (HB.out.trans (hb.mono HB.out.size))
  replace U := Lib.hid (U.out.keep hb)
  replace F := Lib.hid (F.out.keep hb)
  replace TB := Lib.hid (TB.out.keep hb)
  replace HL := Lib.hid (HL.out.keep hb)
  replace HK := Lib.hid (HK.out.keep hb)
  replace NN := Lib.hid (NN.out.below hb)
  clear hb
  by_cases hn : 17 < n
  · have e1 : decide ((n : Int) ≤ 17) = false := decide_eq_false (by omega)
    go_wp2_with fail
    refine (awake2_any w2 U.out F.out TB.out).mono ?_
    rintro e wZ ⟨rfl, hb⟩
    replace HB := Lib.hid (HB.out.trans (hb.mono HB.out.size))
    clear hb
    go_wp2
    go_ret
    exact ⟨rfl, HB.out⟩
  have e1 : decide ((n : Int) ≤ 17) = true := decide_eq_true (by omega)
  go_wp2_with fail
  refine (refShortTrack_st B m d w2).mono ?_
  rintro e w3 ⟨rfl, hb⟩
  replace HB := Lib.hid (HB.out.trans (hb.mono HB.out.size))
  replace U := Lib.hid (U.out.keep hb)
  replace F := Lib.hid (F.out.keep hb)
  replace TB := Lib.hid (TB.out.keep hb)
  replace HL := Lib.hid (HL.out.keep hb)
  replace HK := Lib.hid (HK.out.keep hb)
  replace NN := Lib.hid (NN.out.below hb)
  clear hb
  clear e1
  by_cases hm : 17 < m
  · have e1 : decide ((m : Int) ≤ 17) = false := decide_eq_false (by omega)
    go_wp2_with fail
    refine (awake2_any w3 U.out F.out TB.out).mono ?_
    rintro e wZ ⟨rfl, hb⟩
    replace HB := Lib.hid (HB.out.trans (hb.mono HB.out.size))
    clear hb
    go_wp2
    go_ret
    exact ⟨rfl, HB.out⟩
  have e1 : decide ((m : Int) ≤ 17) = true := decide_eq_true (by omega)
  obtain ⟨E1, hE1⟩ : ∃ z, z = atE l x := ⟨_, rfl⟩
  obtain ⟨S, hS⟩ : ∃ z, z = atS l x := ⟨_, rfl⟩
  obtain ⟨E2, hE2⟩ : ∃ z, z = repE l y := ⟨_, rfl⟩
  obtain ⟨RL, hRL⟩ : ∃ z, z = repL l y := ⟨_, rfl⟩
  obtain ⟨E3, hE3⟩ : ∃ z, z = joE l k := ⟨_, rfl⟩
  obtain ⟨JL, hJL⟩ : ∃ z, z = joL l k := ⟨_, rfl⟩
  obtain ⟨V, hV⟩ : ∃ z, z = trackE l := ⟨_, rfl⟩
  obtain ⟨VK, hVK⟩ : ∃ z, z = trackE k := ⟨_, rfl⟩
  have HE1 := Lib.hid hE1; have HS := Lib.hid hS; have HE2 := Lib.hid hE2; have HRL := Lib.hid hRL; have HE3 := Lib.hid hE3; have HJL := Lib.hid hJL; have HV := Lib.hid hV; have HVK := Lib.hid hVK
  have HRN : Hid (RL.length ≤ 17) := by show _ ≤ _; rw [hRL]; have h1 := rep_len l y; have h2 := HL.out.1; omega
  have HJN : Hid (JL.length ≤ 34) := by show _ ≤ _; rw [hJL]; have h1 := jo_len l k; have h2 := HL.out.1; have h3 := HK.out.1; omega
  clear hE1 hS hE2 hRL hE3 hJL hV hVK
  go_upto_region 3 with fail
  clear e1
  refine wp_region_growQ 9 7 (by kernel_rfl) (by kernel_rfl) [GR.eq (.slice A n c), GR.trkA n l, GR.eq (.pointer (some ⟨g5, 0, none⟩)), GR.eq (.int .i64 x), GR.eq (.tuple #[.agg (stV S), .int .i64 E1]), GR.eq (.tuple #[.agg (stV S), .int .i64 E1]), GR.eq (.agg (stV S)), GR.eq (.int .i64 E1), GR.boxZ w3.heap.size 46 #[.int .i64 0, .int .i64 0, .int .i64 0, .int .i64 0, .int .i64 0, .int .i64 0]] 136 rfl (by kernel_rfl) (fun c a d v w h => by cases d <;> exact h) ?_ ?_ ?_
  · intro oq a W hoq hE hd
    obtain rfl := Option.some.inj hoq.symm
    have e29 : a.tmps[29]?.getD undef = .tuple #[.agg (stV S), .int .i64 E1] := hd 5 29 (by kernel_rfl) (by kernel_rfl)
    exact ⟨.int .i64 E1, fun w' => by go_simp, rfl⟩
  · refine ⟨?_, ?_, ?_, ?_, ?_, ?_, ?_, ?_, ?_, trivial⟩
    · intro a W hE hd ho
      have e0 : a.tmps[0]?.getD undef = .slice A n c := ho 0 (by kernel_rfl)
      exact gs_same (v := .slice A n c) (by go_simp) rfl
    · intro a W hE hd ho
      have e30 : a.tmps[30]?.getD undef = .slice A n c := hd 0 30 (by kernel_rfl) (by kernel_rfl)
      refine gs_call (f := 36) (args := #[.slice A n c]) (by go_simp) ?_
      refine (fixes_any A n c l W (HL.out.keep hE) (by omega)).mono ?_
      rintro e w9 ⟨A', c', rfl, h1, h2, h3⟩
      exact ⟨_, rfl, h3, A', c', rfl, h1, h2⟩
    · intro a W hE hd ho
      have e5 : a.tmps[5]?.getD undef = .pointer (some ⟨g5, 0, none⟩) := ho 5 (by kernel_rfl)
      exact gs_same (v := .pointer (some ⟨g5, 0, none⟩)) (by go_simp) rfl
    · intro a W hE hd ho
      have e32 : a.tmps[32]?.getD undef = .pointer (some ⟨g5, 0, none⟩) := hd 2 32 (by kernel_rfl) (by kernel_rfl)
      have c0 := (NN.out.below hE).cell 0
      simp only [List.getElem?_toArray, List.getElem?_cons_zero, List.getElem?_cons_succ] at c0
      exact gs_same (v := .int .i64 x) (by go_simp) rfl
    · intro a W hE hd ho
      have e33 : a.tmps[33]?.getD undef = .int .i64 x := hd 3 33 (by kernel_rfl) (by kernel_rfl)
      obtain ⟨A', c', e31, hf, hc1, hc2⟩ : ∃ A c, a.tmps[31]?.getD undef = .slice A n c ∧ TrAt W A n l ∧ n ≤ c ∧ c ≤ 9223372036854775807 := hd 1 31 (by kernel_rfl) (by kernel_rfl)
      refine gs_call (f := 35) (args := #[.slice A' n c', .int .i64 x]) (by go_simp) ?_
      have h := At_any A' n c' l x W hf (by omega)
      rw [← HE1.out, ← HS.out] at h
      refine h.mono ?_
      rintro e w' ⟨rfl, hb⟩
      exact ⟨_, rfl, hb, rfl⟩
    · intro a W hE hd ho
      have e34 : a.tmps[34]?.getD undef = .tuple #[.agg (stV S), .int .i64 E1] := hd 4 34 (by kernel_rfl) (by kernel_rfl)
      exact gs_same (v := .tuple #[.agg (stV S), .int .i64 E1]) (by go_simp) rfl
    · intro a W hE hd ho
      have e29 : a.tmps[29]?.getD undef = .tuple #[.agg (stV S), .int .i64 E1] := hd 5 29 (by kernel_rfl) (by kernel_rfl)
      exact gs_same (v := .agg (stV S)) (by go_simp) rfl
    · intro a W hE hd ho
      have e29 : a.tmps[29]?.getD undef = .tuple #[.agg (stV S), .int .i64 E1] := hd 5 29 (by kernel_rfl) (by kernel_rfl)
      exact gs_same (v := .int .i64 E1) (by go_simp) rfl
    · intro a W hE hd ho
      exact gs_val (v := .pointer (some ⟨W.heap.size, 0, none⟩)) (W' := W.alloc (.cells #[.int .i64 0, .int .i64 0, .int .i64 0, .int .i64 0, .int .i64 0, .int .i64 0] 46)) (by go_simp) ((Below.refl _ _).alloc (Nat.le_refl _) _) ⟨_, rfl, Blk.new _ _ _, hE.below.size⟩
  intro v1 w4 hE hR
  have y0 : v1 0 = .slice A n c := hR 0 (by omega)
  obtain ⟨vf1, y1⟩ : ∃ v, v1 1 = v := ⟨_, rfl⟩
  have y2 : v1 2 = .pointer (some ⟨g5, 0, none⟩) := hR 2 (by omega)
  have y3 : v1 3 = .int .i64 x := hR 3 (by omega)
  have y4 : v1 4 = .tuple #[.agg (stV S), .int .i64 E1] := hR 4 (by omega)
  have y5 : v1 5 = .tuple #[.agg (stV S), .int .i64 E1] := hR 5 (by omega)
  have y6 : v1 6 = .agg (stV S) := hR 6 (by omega)
  have y7 : v1 7 = .int .i64 E1 := hR 7 (by omega)
  obtain ⟨g7, y8, hb7, hg7⟩ : ∃ g, v1 8 = .pointer (some ⟨g, 0, none⟩) ∧ Blk w4 g 46 #[.int .i64 0, .int .i64 0, .int .i64 0, .int .i64 0, .int .i64 0, .int .i64 0] ∧ w3.heap.size ≤ g := hR 8 (by omega)
  simp only [List.range, List.range.loop, List.foldl_cons, List.foldl_nil, y0, y1, y2, y3, y4, y5, y6, y7, y8, List.drop_succ_cons, List.drop_zero]
  simp only [dstAt, List.getElem?_toArray, List.getElem?_cons_zero, List.getElem?_cons_succ, Option.bind_some, Act.put, List.setIfInBounds_toArray, List.set_cons_zero, List.set_cons_succ]
  clear y0 y1 y2 y3 y4 y5 y6 y7 y8 hR
  refine any_next (fuel := 1) (k := 9) (by kernel_rfl) rfl rfl ?_
  refine wp_store_row 46 (.tmp 7) (.tmp 35) rfl g7 (stV S) rfl rfl 46 _ hb7 (by kernel_rfl) rfl (by simp [Value.oneCell', stV]) ?_
  obtain ⟨w5, hw5⟩ : ∃ W, W = w4.setRow g7 (stV S) := ⟨_, rfl⟩
  rw [← hw5]
  have hb : Below w3.heap.size w3 w5 := by rw [hw5]; exact hE.below.setRow' hg7 _
  have B7 : Hid (Blk w5 g7 46 (stV S)) := by show Blk _ _ _ _; rw [hw5]; exact hb7.setRow _
  clear hw5 hE hb7 hg7
  replace HB := Lib.hid (HB.out.trans (hb.mono HB.out.size))
  replace U := Lib.hid (U.out.keep hb)
  replace F := Lib.hid (F.out.keep hb)
  replace TB := Lib.hid (TB.out.keep hb)
  replace HL := Lib.hid (HL.out.keep hb)
  replace HK := Lib.hid (HK.out.keep hb)
  replace NN := Lib.hid (NN.out.below hb)
  clear hb
  try simp only [Act.put, List.setIfInBounds_toArray, List.set_cons_zero, List.set_cons_succ]
  refine any_take (fuel := 0) (k := 10) (v := .int .i64 E1) rfl (by kernel_rfl) (by kernel_rfl) (by kernel_rfl) (fun _ _ _ h => h) rfl (fun w => by go_simp) ?_
  simp only [Act.put, List.setIfInBounds_toArray, List.set_cons_zero, List.set_cons_succ]
  refine any_done (by kernel_rfl) ?_
  go_upto_region 4 with fail
  refine wp_region_allN 10 rfl (by kernel_rfl) (by kernel_rfl) [GR.eq (.slice A n c), GR.trkA n l, GR.eq (.pointer (some ⟨g5, 1, none⟩)), GR.eq (.int .i64 y), GR.fl E2 RL, GR.fl E2 RL, GR.fls RL, GR.eq (.int .i64 E2), GR.fls RL, GR.eq (.int .i64 E2)] 136 rfl (by kernel_rfl) ?_ ?_
  · refine ⟨?_, ?_, ?_, ?_, ?_, ?_, ?_, ?_, ?_, ?_, trivial⟩
    · intro a W hE hd ho
      have e0 : a.tmps[0]?.getD undef = .slice A n c := ho 0 (by kernel_rfl)
      exact gs_same (v := .slice A n c) (by go_simp) rfl
    · intro a W hE hd ho
      have e38 : a.tmps[38]?.getD undef = .slice A n c := hd 0 38 (by kernel_rfl) (by kernel_rfl)
      refine gs_call (f := 36) (args := #[.slice A n c]) (by go_simp) ?_
      refine (fixes_any A n c l W (HL.out.keep hE) (by omega)).mono ?_
      rintro e w9 ⟨A', c', rfl, h1, h2, h3⟩
      exact ⟨_, rfl, h3, A', c', rfl, h1, h2⟩
    · intro a W hE hd ho
      have e5 : a.tmps[5]?.getD undef = .pointer (some ⟨g5, 0, none⟩) := ho 5 (by kernel_rfl)
      exact gs_same (v := .pointer (some ⟨g5, 1, none⟩)) (by go_simp) rfl
    · intro a W hE hd ho
      have e40 : a.tmps[40]?.getD undef = .pointer (some ⟨g5, 1, none⟩) := hd 2 40 (by kernel_rfl) (by kernel_rfl)
      have c0 := (NN.out.below hE).cell 1
      simp only [List.getElem?_toArray, List.getElem?_cons_zero, List.getElem?_cons_succ] at c0
      exact gs_same (v := .int .i64 y) (by go_simp) rfl
    · intro a W hE hd ho
      have e41 : a.tmps[41]?.getD undef = .int .i64 y := hd 3 41 (by kernel_rfl) (by kernel_rfl)
      obtain ⟨A', c', e39, hf, hc1, hc2⟩ : ∃ A c, a.tmps[39]?.getD undef = .slice A n c ∧ TrAt W A n l ∧ n ≤ c ∧ c ≤ 9223372036854775807 := hd 1 39 (by kernel_rfl) (by kernel_rfl)
      refine gs_call (f := 37) (args := #[.slice A' n c', .int .i64 y]) (by go_simp) ?_
      have h := Repaired_gen A' n c' l y W hf (by omega) hc1 hc2
      rw [← HE2.out, ← HRL.out] at h
      refine h.mono ?_
      rintro e w' ⟨A1, m1, c1, rfl, h1, _, hb⟩
      exact ⟨_, rfl, hb, A1, m1, c1, rfl, h1⟩
    · intro a W hE hd ho
      obtain ⟨A1, m1, c1, e42, h1⟩ : ∃ A m c, a.tmps[42]?.getD undef = .tuple #[.slice A m c, .int .i64 E2] ∧ TrAt W A m RL := hd 4 42 (by kernel_rfl) (by kernel_rfl)
      exact gs_same (v := .tuple #[.slice A1 m1 c1, .int .i64 E2]) (by go_simp) ⟨A1, m1, c1, rfl, h1⟩
    · intro a W hE hd ho
      obtain ⟨A1, m1, c1, e37, h1⟩ : ∃ A m c, a.tmps[37]?.getD undef = .tuple #[.slice A m c, .int .i64 E2] ∧ TrAt W A m RL := hd 5 37 (by kernel_rfl) (by kernel_rfl)
      exact gs_same (v := .slice A1 m1 c1) (by go_simp) ⟨A1, m1, c1, rfl, h1⟩
    · intro a W hE hd ho
      obtain ⟨A1, m1, c1, e37, h1⟩ : ∃ A m c, a.tmps[37]?.getD undef = .tuple #[.slice A m c, .int .i64 E2] ∧ TrAt W A m RL := hd 5 37 (by kernel_rfl) (by kernel_rfl)
      exact gs_same (v := .int .i64 E2) (by go_simp) rfl
    · intro a W hE hd ho
      obtain ⟨A1, m1, c1, e43, h1⟩ : ∃ A m c, a.tmps[43]?.getD undef = .slice A m c ∧ TrAt W A m RL := hd 6 43 (by kernel_rfl) (by kernel_rfl)
      exact gs_same (v := .slice A1 m1 c1) (by go_simp) ⟨A1, m1, c1, rfl, h1⟩
    · intro a W hE hd ho
      have e44 : a.tmps[44]?.getD undef = .int .i64 E2 := hd 7 44 (by kernel_rfl) (by kernel_rfl)
      exact gs_same (v := .int .i64 E2) (by go_simp) rfl
  intro v2 w6 hE hR
  have y0 : v2 0 = .slice A n c := hR 0 (by omega)
  obtain ⟨vf1, y1⟩ : ∃ v, v2 1 = v := ⟨_, rfl⟩
  have y2 : v2 2 = .pointer (some ⟨g5, 1, none⟩) := hR 2 (by omega)
  have y3 : v2 3 = .int .i64 y := hR 3 (by omega)
  obtain ⟨vx4, y4⟩ : ∃ v, v2 4 = v := ⟨_, rfl⟩
  obtain ⟨vx5, y5⟩ : ∃ v, v2 5 = v := ⟨_, rfl⟩
  obtain ⟨vx6, y6⟩ : ∃ v, v2 6 = v := ⟨_, rfl⟩
  have y7 : v2 7 = .int .i64 E2 := hR 7 (by omega)
  obtain ⟨A9, q9, c9, y8, ht9⟩ : ∃ A m c, v2 8 = .slice A m c ∧ TrAt w6 A m RL := hR 8 (by omega)
  have y9 : v2 9 = .int .i64 E2 := hR 9 (by omega)
  simp only [List.range, List.range.loop, List.foldl_cons, List.foldl_nil, y0, y1, y2, y3, y4, y5, y6, y7, y8, y9, List.drop_succ_cons, List.drop_zero]
  simp only [dstAt, List.getElem?_toArray, List.getElem?_cons_zero, List.getElem?_cons_succ, Option.bind_some, Act.put, List.setIfInBounds_toArray, List.set_cons_zero, List.set_cons_succ]
  clear y0 y1 y2 y3 y4 y5 y6 y7 y8 y9 hR
  have hb := hE.below
  have T9 := Lib.hid ht9
  clear hE ht9
  replace HB := Lib.hid (HB.out.trans (hb.mono HB.out.size))
  replace U := Lib.hid (U.out.keep hb)
  replace F := Lib.hid (F.out.keep hb)
  replace TB := Lib.hid (TB.out.keep hb)
  replace HL := Lib.hid (HL.out.keep hb)
  replace HK := Lib.hid (HK.out.keep hb)
  replace NN := Lib.hid (NN.out.below hb)
  replace B7 := Lib.hid (B7.out.below hb)
  clear hb
  go_wp2_with fail
  refine (fixes_any A n c l w6 HL.out (by omega)).mono ?_
  rintro e w7 ⟨Aa, ca, rfl, hta, _, hb⟩
  have TA := Lib.hid hta
  clear hta
  replace HB := Lib.hid (HB.out.trans (hb.mono HB.out.size))
  replace U := Lib.hid (U.out.keep hb)
  replace F := Lib.hid (F.out.keep hb)
  replace TB := Lib.hid (TB.out.keep hb)
  replace HL := Lib.hid (HL.out.keep hb)
  replace HK := Lib.hid (HK.out.keep hb)
  replace NN := Lib.hid (NN.out.below hb)
  replace B7 := Lib.hid (B7.out.below hb)
  replace T9 := Lib.hid (T9.out.keep hb)
  clear hb
  go_wp2_with fail
  refine (fixes_any B m d k w7 HK.out (by omega)).mono ?_
  rintro e w8 ⟨Ab, cb, rfl, htb, _, hb⟩
  have TBB := Lib.hid htb
  clear htb
  replace HB := Lib.hid (HB.out.trans (hb.mono HB.out.size))
  replace U := Lib.hid (U.out.keep hb)
  replace F := Lib.hid (F.out.keep hb)
  replace TB := Lib.hid (TB.out.keep hb)
  replace HL := Lib.hid (HL.out.keep hb)
  replace HK := Lib.hid (HK.out.keep hb)
  replace NN := Lib.hid (NN.out.below hb)
  replace B7 := Lib.hid (B7.out.below hb)
  replace T9 := Lib.hid (T9.out.keep hb)
  replace TA := Lib.hid (TA.out.keep hb)
  clear hb
  go_wp2_with fail
  have hj := Joined_any Aa Ab n m ca cb l k w8 TA.out TBB.out (by omega) (by omega)
  rw [← HE3.out, ← HJL.out] at hj
  refine hj.mono ?_
  rintro e w9 ⟨A11, q11, c11, rfl, ht11, _, hb⟩
  have T11 := Lib.hid ht11
  clear ht11 hj TA TBB
  replace HB := Lib.hid (HB.out.trans (hb.mono HB.out.size))
  replace U := Lib.hid (U.out.keep hb)
  replace F := Lib.hid (F.out.keep hb)
  replace TB := Lib.hid (TB.out.keep hb)
  replace HL := Lib.hid (HL.out.keep hb)
  replace HK := Lib.hid (HK.out.keep hb)
  replace NN := Lib.hid (NN.out.below hb)
  replace B7 := Lib.hid (B7.out.below hb)
  replace T9 := Lib.hid (T9.out.keep hb)
  clear hb
  go_wp2_with fail
  refine (refTrack_full A n c l w9 HL.out (by omega)).mono ?_
  rw [← HV.out]
  rintro e w10 ⟨rfl, hb⟩
  replace HB := Lib.hid (HB.out.trans (hb.mono HB.out.size))
  replace U := Lib.hid (U.out.keep hb)
  replace F := Lib.hid (F.out.keep hb)
  replace TB := Lib.hid (TB.out.keep hb)
  replace HL := Lib.hid (HL.out.keep hb)
  replace HK := Lib.hid (HK.out.keep hb)
  replace NN := Lib.hid (NN.out.below hb)
  replace B7 := Lib.hid (B7.out.below hb)
  replace T9 := Lib.hid (T9.out.keep hb)
  replace T11 := Lib.hid (T11.out.keep hb)
  clear hb
  have n1 := NN.out.cell 1
  have n0 := NN.out.cell 0
  simp only [List.getElem?_toArray, List.getElem?_cons_zero, List.getElem?_cons_succ] at n0 n1
  go_wp2_with fail
  refine (refSpeed_st y w10).mono ?_
  obtain ⟨YE, hYE⟩ : ∃ z, z = withinE y 1 1000 := ⟨_, rfl⟩
  rw [← hYE]
  have HYE := Lib.hid hYE
  clear hYE
  rintro e w11 ⟨rfl, hw⟩
  subst hw
  go_wp2_with fail
  obtain ⟨w12, hw12⟩ : ∃ W, W = (w11.alloc (.cells #[.int .i64 V, .int .i64 YE] 3)) := ⟨_, rfl⟩
  rw [← hw12]
  have EA : Hid (Blk w12 (w11.heap.size) 3 #[.int .i64 V, .int .i64 YE]) := by show Blk _ _ _ _; rw [hw12]; exact Blk.new _ _ _
  have hb : Below w11.heap.size w11 w12 := by rw [hw12]; exact ((Below.refl _ _).alloc (Nat.le_refl _) _)
  obtain ⟨ga, hga⟩ : ∃ g, g = w11.heap.size := ⟨_, rfl⟩
  have HGw12 : Hid (ga = w11.heap.size) := hga
  rw [← hga] at EA
  try rw [← hga]
  clear hw12 hga
  clear HGw12 n0 n1
  replace HB := Lib.hid (HB.out.trans (hb.mono HB.out.size))
  replace U := Lib.hid (U.out.keep hb)
  replace F := Lib.hid (F.out.keep hb)
  replace TB := Lib.hid (TB.out.keep hb)
  replace HL := Lib.hid (HL.out.keep hb)
  replace HK := Lib.hid (HK.out.keep hb)
  replace NN := Lib.hid (NN.out.below hb)
  replace B7 := Lib.hid (B7.out.below hb)
  replace T9 := Lib.hid (T9.out.keep hb)
  replace T11 := Lib.hid (T11.out.keep hb)
  clear hb
  obtain ⟨Z2, hZ2⟩ : ∃ z, z = firstE [V, YE] := ⟨_, rfl⟩
  have HZ2 := Lib.hid hZ2
  clear hZ2
  refine (lawFirst2 ga 2 V YE w12 (EA.out.cell 0) (EA.out.cell 1)).mono ?_
  rw [← HZ2.out]
  rintro e w13 ⟨rfl, rfl⟩
  clear EA
  go_wp2_with fail
  refine (refTrack_full B m d k w12 HK.out (by omega)).mono ?_
  rw [← HVK.out]
  rintro e w14 ⟨rfl, hb⟩
  replace HB := Lib.hid (HB.out.trans (hb.mono HB.out.size))
  replace U := Lib.hid (U.out.keep hb)
  replace F := Lib.hid (F.out.keep hb)
  replace TB := Lib.hid (TB.out.keep hb)
  replace HL := Lib.hid (HL.out.keep hb)
  replace HK := Lib.hid (HK.out.keep hb)
  replace NN := Lib.hid (NN.out.below hb)
  replace B7 := Lib.hid (B7.out.below hb)
  replace T9 := Lib.hid (T9.out.keep hb)
  replace T11 := Lib.hid (T11.out.keep hb)
  clear hb
  go_wp2_with fail
  obtain ⟨w15, hw15⟩ : ∃ W, W = (w14.alloc (.cells #[.int .i64 V, .int .i64 VK] 3)) := ⟨_, rfl⟩
  rw [← hw15]
  have EB : Hid (Blk w15 (w14.heap.size) 3 #[.int .i64 V, .int .i64 VK]) := by show Blk _ _ _ _; rw [hw15]; exact Blk.new _ _ _
  have hb : Below w14.heap.size w14 w15 := by rw [hw15]; exact ((Below.refl _ _).alloc (Nat.le_refl _) _)
  obtain ⟨gb, hgb⟩ : ∃ g, g = w14.heap.size := ⟨_, rfl⟩
  have HGw15 : Hid (gb = w14.heap.size) := hgb
  rw [← hgb] at EB
  try rw [← hgb]
  clear hw15 hgb
  clear HGw15
  replace HB := Lib.hid (HB.out.trans (hb.mono HB.out.size))
  replace U := Lib.hid (U.out.keep hb)
  replace F := Lib.hid (F.out.keep hb)
  replace TB := Lib.hid (TB.out.keep hb)
  replace HL := Lib.hid (HL.out.keep hb)
  replace HK := Lib.hid (HK.out.keep hb)
  replace NN := Lib.hid (NN.out.below hb)
  replace B7 := Lib.hid (B7.out.below hb)
  replace T9 := Lib.hid (T9.out.keep hb)
  replace T11 := Lib.hid (T11.out.keep hb)
  clear hb
  obtain ⟨Z3, hZ3⟩ : ∃ z, z = firstE [V, VK] := ⟨_, rfl⟩
  have HZ3 := Lib.hid hZ3
  clear hZ3
  refine (lawFirst2 gb 2 V VK w15 (EB.out.cell 0) (EB.out.cell 1)).mono ?_
  rw [← HZ3.out]
  rintro e w16 ⟨rfl, rfl⟩
  clear EB
  go_upto_region 9 with fail
  obtain ⟨w17, hw17⟩ : ∃ W, W = (w15.alloc (.cells #[.int .i64 0, .int .i64 0, .int .i64 0, .int .i64 0, .int .i64 0, .int .i64 0] 32)) := ⟨_, rfl⟩
  rw [← hw17]
  have B17 : Hid (Blk w17 (w15.heap.size) 32 #[.int .i64 0, .int .i64 0, .int .i64 0, .int .i64 0, .int .i64 0, .int .i64 0]) := by show Blk _ _ _ _; rw [hw17]; exact Blk.new _ _ _
  have hb : Below w15.heap.size w15 w17 := by rw [hw17]; exact ((Below.refl _ _).alloc (Nat.le_refl _) _)
  obtain ⟨g17, hg17⟩ : ∃ g, g = w15.heap.size := ⟨_, rfl⟩
  have HGw17 : Hid (g17 = w15.heap.size) := hg17
  rw [← hg17] at B17
  try rw [← hg17]
  clear hw17 hg17
  have HFA : Hid (∀ W, Below w15.heap.size w15 W → Below w.heap.size w W ∧ Turned W ∧ FirstWords W ∧ Tab W ∧ TrAt W A n l ∧ TrAt W B m k ∧ Blk W g5 63 #[.int .i64 x, .int .i64 y] ∧ Blk W g7 46 (stV S) ∧ TrAt W A9 q9 RL ∧ TrAt W A11 q11 JL) := fun W hW => ⟨HB.out.trans (hW.mono HB.out.size), U.out.keep hW, F.out.keep hW, TB.out.keep hW, HL.out.keep hW, HK.out.keep hW, NN.out.below hW, B7.out.below hW, T9.out.keep hW, T11.out.keep hW⟩
  have HX := Lib.hid hb
  have HG17 : Hid (w15.heap.size ≤ g17) := by show _ ≤ _; rw [HGw17]; exact Nat.le_refl _
  clear HGw17
  replace HB := Lib.hid (HB.out.trans (hb.mono HB.out.size))
  replace U := Lib.hid (U.out.keep hb)
  replace F := Lib.hid (F.out.keep hb)
  replace TB := Lib.hid (TB.out.keep hb)
  replace HL := Lib.hid (HL.out.keep hb)
  replace HK := Lib.hid (HK.out.keep hb)
  replace NN := Lib.hid (NN.out.below hb)
  replace B7 := Lib.hid (B7.out.below hb)
  replace T9 := Lib.hid (T9.out.keep hb)
  replace T11 := Lib.hid (T11.out.keep hb)
  clear hb
  have M1 : Hid (V ≠ 0 → E1 = V ∧ Z2 ≠ 0 ∧ Z3 ≠ 0) := fun h => ⟨by rw [HE1.out, HV.out]; exact atE_off x (by rw [← HV.out]; exact h), by rw [HZ2.out, firstE_n1 h]; exact h, by rw [HZ3.out, firstE_n1 h]; exact h⟩
  have M2 : Hid (E1 ≠ 0 → stV S = #[.int .i64 0, .int .i64 0, .int .i64 0, .int .i64 0, .int .i64 0, .int .i64 0]) := fun h => by rw [HS.out, atS_off (by rw [← HE1.out]; exact h)]; rfl
  have M3 : Hid (Z2 ≠ 0 → E2 = Z2 ∧ RL = []) := fun h => by
    have h1 := repE_off (l := l) (y := y) (by rw [← HV.out, ← HYE.out, ← HZ2.out]; exact h)
    rw [← HV.out, ← HYE.out, ← HZ2.out, ← HE2.out, ← HRL.out] at h1
    exact h1
  have M4 : Hid (Z3 ≠ 0 → E3 = Z3 ∧ JL = []) := fun h => by
    have h1 := joE_off (l := l) (k := k) (by rw [← HV.out, ← HVK.out, ← HZ3.out]; exact h)
    rw [← HV.out, ← HVK.out, ← HZ3.out, ← HE3.out, ← HJL.out] at h1
    exact h1
  have HLK : Hid (V = 0 → ∃ b off, A = some ⟨b, off, none⟩) := fun h => by
    have g := goodTr_of (HV.out.symm.trans h)
    have g2 := g.lo
    rw [HL.out.1] at g2
    obtain ⟨b, off, e, _⟩ := HL.out.2 (by omega)
    exact ⟨b, off, e⟩
  have HKK : Hid (Z3 = 0 → ∃ b off, B = some ⟨b, off, none⟩) := fun h => by
    have h1 : VK = 0 := (two_zero (HZ3.out.symm.trans h)).2
    have g := goodTr_of (HVK.out.symm.trans h1)
    have g2 := g.lo
    rw [HK.out.1] at g2
    obtain ⟨b, off, e, _⟩ := HK.out.2 (by omega)
    exact ⟨b, off, e⟩
  by_cases hv0 : V = 0
  case neg =>
    obtain ⟨he1, hz2, hz3⟩ := M1.out hv0
    subst he1
    have hst := M2.out hv0
    replace B17 : Hid (Blk w17 g17 32 (stV S)) := by show Blk _ _ _ _; rw [hst]; exact B17.out
    clear hst
    have h14 := hz2
    obtain ⟨rfl, rfl⟩ := M3.out h14
    have T18 : Hid (TrAt w17 none 0 []) := tr_nil _
    have h16 := hz3
    obtain ⟨rfl, rfl⟩ := M4.out h16
    have T19 : Hid (TrAt w17 none 0 []) := tr_nil _
    go_wp2_with fail
    refine (fixes_any _ n c l w17 HL.out (by omega)).mono ?_
    rintro e w18 ⟨Ac, cc, rfl, htc, _, hb⟩
    have TC := Lib.hid htc
    clear htc
    replace HB := Lib.hid (HB.out.trans (hb.mono HB.out.size))
    replace U := Lib.hid (U.out.keep hb)
    replace F := Lib.hid (F.out.keep hb)
    replace TB := Lib.hid (TB.out.keep hb)
    replace HL := Lib.hid (HL.out.keep hb)
    replace HK := Lib.hid (HK.out.keep hb)
    replace NN := Lib.hid (NN.out.below hb)
    replace B7 := Lib.hid (B7.out.below hb)
    replace T9 := Lib.hid (T9.out.keep hb)
    replace T11 := Lib.hid (T11.out.keep hb)
    replace B17 := Lib.hid (B17.out.below hb)
    replace T18 := Lib.hid (T18.out.keep hb)
    replace T19 := Lib.hid (T19.out.keep hb)
    clear hb
    go_wp2_with fail
    refine (CheckTrack_any Ac n cc l w18 TC.out (by omega)).mono ?_
    rw [← HV.out]
    rintro e w19 ⟨rfl, hb⟩
    clear TC
    replace HB := Lib.hid (HB.out.trans (hb.mono HB.out.size))
    replace U := Lib.hid (U.out.keep hb)
    replace F := Lib.hid (F.out.keep hb)
    replace TB := Lib.hid (TB.out.keep hb)
    replace HL := Lib.hid (HL.out.keep hb)
    replace HK := Lib.hid (HK.out.keep hb)
    replace NN := Lib.hid (NN.out.below hb)
    replace B7 := Lib.hid (B7.out.below hb)
    replace T9 := Lib.hid (T9.out.keep hb)
    replace T11 := Lib.hid (T11.out.keep hb)
    replace B17 := Lib.hid (B17.out.below hb)
    replace T18 := Lib.hid (T18.out.keep hb)
    replace T19 := Lib.hid (T19.out.keep hb)
    clear hb
    have X7 : Blk w19 g7 46 #[.int .i64 S.x, .int .i64 S.y, .int .i64 S.z, .int .i64 S.hx, .int .i64 S.hy, .int .i64 S.p] := B7.out
    have X8 : Blk w19 g17 32 #[.int .i64 S.x, .int .i64 S.y, .int .i64 S.z, .int .i64 S.hx, .int .i64 S.hy, .int .i64 S.p] := B17.out
    have ac0 := X7.cell 0; have af0 := X7.frozen 0; have ac1 := X7.cell 1; have af1 := X7.frozen 1; have ac2 := X7.cell 2; have af2 := X7.frozen 2; have ac3 := X7.cell 3; have af3 := X7.frozen 3; have ac4 := X7.cell 4; have af4 := X7.frozen 4; have ac5 := X7.cell 5; have af5 := X7.frozen 5
    simp only [List.getElem?_toArray, List.getElem?_cons_zero, List.getElem?_cons_succ] at ac0 ac1 ac2 ac3 ac4 ac5
    clear X7
    have bc0 := X8.cell 0; have bf0 := X8.frozen 0; have bc1 := X8.cell 1; have bf1 := X8.frozen 1; have bc2 := X8.cell 2; have bf2 := X8.frozen 2; have bc3 := X8.cell 3; have bf3 := X8.frozen 3; have bc4 := X8.cell 4; have bf4 := X8.frozen 4; have bc5 := X8.cell 5; have bf5 := X8.frozen 5
    simp only [List.getElem?_toArray, List.getElem?_cons_zero, List.getElem?_cons_succ] at bc0 bc1 bc2 bc3 bc4 bc5
    clear X8
    have es := fun W => eq_stR S.x S.y S.z S.hx S.hy S.p W
    go_wp2_with fail
    refine (back_any A9 q9 c9 _ w19 T9.out (by rw [← T9.out.1]; have := HRN.out; omega)).mono ?_
    rintro e w20 ⟨Ad, cd, rfl, htd, _, hb⟩
    have TD := Lib.hid htd
    clear htd es ac0 ac1 ac2 ac3 ac4 ac5 bc0 bc1 bc2 bc3 bc4 bc5
    replace HB := Lib.hid (HB.out.trans (hb.mono HB.out.size))
    replace U := Lib.hid (U.out.keep hb)
    replace F := Lib.hid (F.out.keep hb)
    replace TB := Lib.hid (TB.out.keep hb)
    replace HL := Lib.hid (HL.out.keep hb)
    replace HK := Lib.hid (HK.out.keep hb)
    replace NN := Lib.hid (NN.out.below hb)
    replace B7 := Lib.hid (B7.out.below hb)
    replace T9 := Lib.hid (T9.out.keep hb)
    replace T11 := Lib.hid (T11.out.keep hb)
    replace B17 := Lib.hid (B17.out.below hb)
    replace T18 := Lib.hid (T18.out.keep hb)
    replace T19 := Lib.hid (T19.out.keep hb)
    clear hb
    go_wp2_with fail
    refine (refSameTrack_any Ad _ q9 _ cd _ _ _ w20 TD.out T18.out (by rw [← TD.out.1]; have := HRN.out; omega)).mono ?_
    rintro e w21 ⟨⟨b, rfl, hbb⟩, hb⟩
    have hbt : b = true := hbb.2 rfl
    subst hbt
    clear hbb TD
    replace HB := Lib.hid (HB.out.trans (hb.mono HB.out.size))
    replace U := Lib.hid (U.out.keep hb)
    replace F := Lib.hid (F.out.keep hb)
    replace TB := Lib.hid (TB.out.keep hb)
    replace HL := Lib.hid (HL.out.keep hb)
    replace HK := Lib.hid (HK.out.keep hb)
    replace NN := Lib.hid (NN.out.below hb)
    replace B7 := Lib.hid (B7.out.below hb)
    replace T9 := Lib.hid (T9.out.keep hb)
    replace T11 := Lib.hid (T11.out.keep hb)
    replace B17 := Lib.hid (B17.out.below hb)
    replace T18 := Lib.hid (T18.out.keep hb)
    replace T19 := Lib.hid (T19.out.keep hb)
    clear hb
    go_wp2_with fail
    refine (back_any A11 q11 c11 _ w21 T11.out (by rw [← T11.out.1]; have := HJN.out; omega)).mono ?_
    rintro e w22 ⟨Ad, cd, rfl, htd, _, hb⟩
    have TD := Lib.hid htd
    clear htd
    replace HB := Lib.hid (HB.out.trans (hb.mono HB.out.size))
    replace U := Lib.hid (U.out.keep hb)
    replace F := Lib.hid (F.out.keep hb)
    replace TB := Lib.hid (TB.out.keep hb)
    replace HL := Lib.hid (HL.out.keep hb)
    replace HK := Lib.hid (HK.out.keep hb)
    replace NN := Lib.hid (NN.out.below hb)
    replace B7 := Lib.hid (B7.out.below hb)
    replace T9 := Lib.hid (T9.out.keep hb)
    replace T11 := Lib.hid (T11.out.keep hb)
    replace B17 := Lib.hid (B17.out.below hb)
    replace T18 := Lib.hid (T18.out.keep hb)
    replace T19 := Lib.hid (T19.out.keep hb)
    clear hb
    go_wp2_with fail
    refine (refSameTrack_any Ad _ q11 _ cd _ _ _ w22 TD.out T19.out (by rw [← TD.out.1]; have := HJN.out; omega)).mono ?_
    rintro e w23 ⟨⟨b, rfl, hbb⟩, hb⟩
    have hbt : b = true := hbb.2 rfl
    subst hbt
    clear hbb TD
    replace HB := Lib.hid (HB.out.trans (hb.mono HB.out.size))
    replace U := Lib.hid (U.out.keep hb)
    replace F := Lib.hid (F.out.keep hb)
    replace TB := Lib.hid (TB.out.keep hb)
    clear hb
    go_wp2_with fail
    refine (awake2_any w23 U.out F.out TB.out).mono ?_
    rintro e wZ ⟨rfl, hb⟩
    replace HB := Lib.hid (HB.out.trans (hb.mono HB.out.size))
    clear hb
    go_wp2
    go_ret
    exact ⟨rfl, HB.out⟩
  obtain ⟨b0, o0, hA⟩ := HLK.out hv0
  subst hA
  have hn2 : 0 < n := by
    have g1 := (goodTr_of (HV.out.symm.trans hv0)).lo
    rw [HL.out.1] at g1
    omega
  obtain ⟨_, _, hea, hfa⟩ := HL.out.2 hn2
  cases hea
  have n0 := NN.out.cell 0
  have n1 := NN.out.cell 1
  simp only [List.getElem?_toArray, List.getElem?_cons_zero, List.getElem?_cons_succ] at n0 n1
  have hj := tracks_at x (HV.out.symm.trans hv0) b0 o0 n c w17 hfa
  rw [← HE1.out] at hj
  have HV0 := Lib.hid (HV.out.symm.trans hv0)
  go_wp2_with fail
  refine hj.mono ?_
  rintro e w24 ⟨rfl, hw⟩
  subst hw
  clear hj hfa
  by_cases h12 : E1 = 0
  case neg =>
    clear n0 n1
    have hst := M2.out h12
    replace B17 : Hid (Blk w24 g17 32 (stV S)) := by show Blk _ _ _ _; rw [hst]; exact B17.out
    clear hst
    by_cases h14 : Z2 = 0
    case neg =>
      obtain ⟨rfl, rfl⟩ := M3.out h14
      have T18 : Hid (TrAt w24 none 0 []) := tr_nil _
      by_cases h16 : Z3 = 0
      case neg =>
        obtain ⟨rfl, rfl⟩ := M4.out h16
        have T19 : Hid (TrAt w24 none 0 []) := tr_nil _
        go_wp2_with fail
        refine (fixes_any _ n c l w24 HL.out (by omega)).mono ?_
        rintro e w26 ⟨Ac, cc, rfl, htc, _, hb⟩
        have TC := Lib.hid htc
        clear htc
        replace HB := Lib.hid (HB.out.trans (hb.mono HB.out.size))
        replace U := Lib.hid (U.out.keep hb)
        replace F := Lib.hid (F.out.keep hb)
        replace TB := Lib.hid (TB.out.keep hb)
        replace HL := Lib.hid (HL.out.keep hb)
        replace HK := Lib.hid (HK.out.keep hb)
        replace NN := Lib.hid (NN.out.below hb)
        replace B7 := Lib.hid (B7.out.below hb)
        replace T9 := Lib.hid (T9.out.keep hb)
        replace T11 := Lib.hid (T11.out.keep hb)
        replace B17 := Lib.hid (B17.out.below hb)
        replace T18 := Lib.hid (T18.out.keep hb)
        replace T19 := Lib.hid (T19.out.keep hb)
        clear hb
        go_wp2_with fail
        refine (CheckTrack_any Ac n cc l w26 TC.out (by omega)).mono ?_
        rw [← HV.out]
        rintro e w27 ⟨rfl, hb⟩
        clear TC
        replace HB := Lib.hid (HB.out.trans (hb.mono HB.out.size))
        replace U := Lib.hid (U.out.keep hb)
        replace F := Lib.hid (F.out.keep hb)
        replace TB := Lib.hid (TB.out.keep hb)
        replace HL := Lib.hid (HL.out.keep hb)
        replace HK := Lib.hid (HK.out.keep hb)
        replace NN := Lib.hid (NN.out.below hb)
        replace B7 := Lib.hid (B7.out.below hb)
        replace T9 := Lib.hid (T9.out.keep hb)
        replace T11 := Lib.hid (T11.out.keep hb)
        replace B17 := Lib.hid (B17.out.below hb)
        replace T18 := Lib.hid (T18.out.keep hb)
        replace T19 := Lib.hid (T19.out.keep hb)
        clear hb
        have X7 : Blk w27 g7 46 #[.int .i64 S.x, .int .i64 S.y, .int .i64 S.z, .int .i64 S.hx, .int .i64 S.hy, .int .i64 S.p] := B7.out
        have X8 : Blk w27 g17 32 #[.int .i64 S.x, .int .i64 S.y, .int .i64 S.z, .int .i64 S.hx, .int .i64 S.hy, .int .i64 S.p] := B17.out
        have ac0 := X7.cell 0; have af0 := X7.frozen 0; have ac1 := X7.cell 1; have af1 := X7.frozen 1; have ac2 := X7.cell 2; have af2 := X7.frozen 2; have ac3 := X7.cell 3; have af3 := X7.frozen 3; have ac4 := X7.cell 4; have af4 := X7.frozen 4; have ac5 := X7.cell 5; have af5 := X7.frozen 5
        simp only [List.getElem?_toArray, List.getElem?_cons_zero, List.getElem?_cons_succ] at ac0 ac1 ac2 ac3 ac4 ac5
        clear X7
        have bc0 := X8.cell 0; have bf0 := X8.frozen 0; have bc1 := X8.cell 1; have bf1 := X8.frozen 1; have bc2 := X8.cell 2; have bf2 := X8.frozen 2; have bc3 := X8.cell 3; have bf3 := X8.frozen 3; have bc4 := X8.cell 4; have bf4 := X8.frozen 4; have bc5 := X8.cell 5; have bf5 := X8.frozen 5
        simp only [List.getElem?_toArray, List.getElem?_cons_zero, List.getElem?_cons_succ] at bc0 bc1 bc2 bc3 bc4 bc5
        clear X8
        have es := fun W => eq_stR S.x S.y S.z S.hx S.hy S.p W
        go_wp2_with fail
        refine (back_any A9 q9 c9 _ w27 T9.out (by rw [← T9.out.1]; have := HRN.out; omega)).mono ?_
        rintro e w28 ⟨Ad, cd, rfl, htd, _, hb⟩
        have TD := Lib.hid htd
        clear htd es ac0 ac1 ac2 ac3 ac4 ac5 bc0 bc1 bc2 bc3 bc4 bc5
        replace HB := Lib.hid (HB.out.trans (hb.mono HB.out.size))
        replace U := Lib.hid (U.out.keep hb)
        replace F := Lib.hid (F.out.keep hb)
        replace TB := Lib.hid (TB.out.keep hb)
        replace HL := Lib.hid (HL.out.keep hb)
        replace HK := Lib.hid (HK.out.keep hb)
        replace NN := Lib.hid (NN.out.below hb)
        replace B7 := Lib.hid (B7.out.below hb)
        replace T9 := Lib.hid (T9.out.keep hb)
        replace T11 := Lib.hid (T11.out.keep hb)
        replace B17 := Lib.hid (B17.out.below hb)
        replace T18 := Lib.hid (T18.out.keep hb)
        replace T19 := Lib.hid (T19.out.keep hb)
        clear hb
        go_wp2_with fail
        refine (refSameTrack_any Ad _ q9 _ cd _ _ _ w28 TD.out T18.out (by rw [← TD.out.1]; have := HRN.out; omega)).mono ?_
        rintro e w29 ⟨⟨b, rfl, hbb⟩, hb⟩
        have hbt : b = true := hbb.2 rfl
        subst hbt
        clear hbb TD
        replace HB := Lib.hid (HB.out.trans (hb.mono HB.out.size))
        replace U := Lib.hid (U.out.keep hb)
        replace F := Lib.hid (F.out.keep hb)
        replace TB := Lib.hid (TB.out.keep hb)
        replace HL := Lib.hid (HL.out.keep hb)
        replace HK := Lib.hid (HK.out.keep hb)
        replace NN := Lib.hid (NN.out.below hb)
        replace B7 := Lib.hid (B7.out.below hb)
        replace T9 := Lib.hid (T9.out.keep hb)
        replace T11 := Lib.hid (T11.out.keep hb)
        replace B17 := Lib.hid (B17.out.below hb)
        replace T18 := Lib.hid (T18.out.keep hb)
        replace T19 := Lib.hid (T19.out.keep hb)
        clear hb
        go_wp2_with fail
        refine (back_any A11 q11 c11 _ w29 T11.out (by rw [← T11.out.1]; have := HJN.out; omega)).mono ?_
        rintro e w30 ⟨Ad, cd, rfl, htd, _, hb⟩
        have TD := Lib.hid htd
        clear htd
        replace HB := Lib.hid (HB.out.trans (hb.mono HB.out.size))
        replace U := Lib.hid (U.out.keep hb)
        replace F := Lib.hid (F.out.keep hb)
        replace TB := Lib.hid (TB.out.keep hb)
        replace HL := Lib.hid (HL.out.keep hb)
        replace HK := Lib.hid (HK.out.keep hb)
        replace NN := Lib.hid (NN.out.below hb)
        replace B7 := Lib.hid (B7.out.below hb)
        replace T9 := Lib.hid (T9.out.keep hb)
        replace T11 := Lib.hid (T11.out.keep hb)
        replace B17 := Lib.hid (B17.out.below hb)
        replace T18 := Lib.hid (T18.out.keep hb)
        replace T19 := Lib.hid (T19.out.keep hb)
        clear hb
        go_wp2_with fail
        refine (refSameTrack_any Ad _ q11 _ cd _ _ _ w30 TD.out T19.out (by rw [← TD.out.1]; have := HJN.out; omega)).mono ?_
        rintro e w31 ⟨⟨b, rfl, hbb⟩, hb⟩
        have hbt : b = true := hbb.2 rfl
        subst hbt
        clear hbb TD
        replace HB := Lib.hid (HB.out.trans (hb.mono HB.out.size))
        replace U := Lib.hid (U.out.keep hb)
        replace F := Lib.hid (F.out.keep hb)
        replace TB := Lib.hid (TB.out.keep hb)
        clear hb
        go_wp2_with fail
        refine (awake2_any w31 U.out F.out TB.out).mono ?_
        rintro e wZ ⟨rfl, hb⟩
        replace HB := Lib.hid (HB.out.trans (hb.mono HB.out.size))
        clear hb
        go_wp2
        go_ret
        exact ⟨rfl, HB.out⟩
      obtain ⟨b1, o1, rfl⟩ := HKK.out h16
      have p3 : firstE [trackE l, trackE k] = 0 := by rw [← HV.out, ← HVK.out, ← HZ3.out]; exact h16
      have hn2 : 0 < n ∧ 0 < m := by
        obtain ⟨p4, p5⟩ := two_zero p3
        have g1 := (goodTr_of p4).lo
        have g2 := (goodTr_of p5).lo
        rw [HL.out.1] at g1
        rw [HK.out.1] at g2
        omega
      obtain ⟨_, _, hea, hfa⟩ := HL.out.2 hn2.1
      cases hea
      obtain ⟨_, _, heb, hfb⟩ := HK.out.2 hn2.2
      cases heb
      go_wp2_with fail
      have hj := tracks_join p3 b0 o0 b1 o1 n m c d w24 hfa hfb
      rw [← HE3.out, ← HJL.out] at hj
      refine hj.mono ?_
      rintro e w32 ⟨A19, q19, c19, rfl, ht19, hb⟩
      have T19 := Lib.hid ht19
      clear ht19 hj hfa hfb hn2 p3
      replace HB := Lib.hid (HB.out.trans (hb.mono HB.out.size))
      replace U := Lib.hid (U.out.keep hb)
      replace F := Lib.hid (F.out.keep hb)
      replace TB := Lib.hid (TB.out.keep hb)
      replace HL := Lib.hid (HL.out.keep hb)
      replace HK := Lib.hid (HK.out.keep hb)
      replace NN := Lib.hid (NN.out.below hb)
      replace B7 := Lib.hid (B7.out.below hb)
      replace T9 := Lib.hid (T9.out.keep hb)
      replace T11 := Lib.hid (T11.out.keep hb)
      replace B17 := Lib.hid (B17.out.below hb)
      replace T18 := Lib.hid (T18.out.keep hb)
      clear hb
      go_wp2_with fail
      refine (fixes_any _ n c l w32 HL.out (by omega)).mono ?_
      rintro e w33 ⟨Ac, cc, rfl, htc, _, hb⟩
      have TC := Lib.hid htc
      clear htc
      replace HB := Lib.hid (HB.out.trans (hb.mono HB.out.size))
      replace U := Lib.hid (U.out.keep hb)
      replace F := Lib.hid (F.out.keep hb)
      replace TB := Lib.hid (TB.out.keep hb)
      replace HL := Lib.hid (HL.out.keep hb)
      replace HK := Lib.hid (HK.out.keep hb)
      replace NN := Lib.hid (NN.out.below hb)
      replace B7 := Lib.hid (B7.out.below hb)
      replace T9 := Lib.hid (T9.out.keep hb)
      replace T11 := Lib.hid (T11.out.keep hb)
      replace B17 := Lib.hid (B17.out.below hb)
      replace T18 := Lib.hid (T18.out.keep hb)
      replace T19 := Lib.hid (T19.out.keep hb)
      clear hb
      go_wp2_with fail
      refine (CheckTrack_any Ac n cc l w33 TC.out (by omega)).mono ?_
      rw [← HV.out]
      rintro e w34 ⟨rfl, hb⟩
      clear TC
      replace HB := Lib.hid (HB.out.trans (hb.mono HB.out.size))
      replace U := Lib.hid (U.out.keep hb)
      replace F := Lib.hid (F.out.keep hb)
      replace TB := Lib.hid (TB.out.keep hb)
      replace HL := Lib.hid (HL.out.keep hb)
      replace HK := Lib.hid (HK.out.keep hb)
      replace NN := Lib.hid (NN.out.below hb)
      replace B7 := Lib.hid (B7.out.below hb)
      replace T9 := Lib.hid (T9.out.keep hb)
      replace T11 := Lib.hid (T11.out.keep hb)
      replace B17 := Lib.hid (B17.out.below hb)
      replace T18 := Lib.hid (T18.out.keep hb)
      replace T19 := Lib.hid (T19.out.keep hb)
      clear hb
      have X7 : Blk w34 g7 46 #[.int .i64 S.x, .int .i64 S.y, .int .i64 S.z, .int .i64 S.hx, .int .i64 S.hy, .int .i64 S.p] := B7.out
      have X8 : Blk w34 g17 32 #[.int .i64 S.x, .int .i64 S.y, .int .i64 S.z, .int .i64 S.hx, .int .i64 S.hy, .int .i64 S.p] := B17.out
      have ac0 := X7.cell 0; have af0 := X7.frozen 0; have ac1 := X7.cell 1; have af1 := X7.frozen 1; have ac2 := X7.cell 2; have af2 := X7.frozen 2; have ac3 := X7.cell 3; have af3 := X7.frozen 3; have ac4 := X7.cell 4; have af4 := X7.frozen 4; have ac5 := X7.cell 5; have af5 := X7.frozen 5
      simp only [List.getElem?_toArray, List.getElem?_cons_zero, List.getElem?_cons_succ] at ac0 ac1 ac2 ac3 ac4 ac5
      clear X7
      have bc0 := X8.cell 0; have bf0 := X8.frozen 0; have bc1 := X8.cell 1; have bf1 := X8.frozen 1; have bc2 := X8.cell 2; have bf2 := X8.frozen 2; have bc3 := X8.cell 3; have bf3 := X8.frozen 3; have bc4 := X8.cell 4; have bf4 := X8.frozen 4; have bc5 := X8.cell 5; have bf5 := X8.frozen 5
      simp only [List.getElem?_toArray, List.getElem?_cons_zero, List.getElem?_cons_succ] at bc0 bc1 bc2 bc3 bc4 bc5
      clear X8
      have es := fun W => eq_stR S.x S.y S.z S.hx S.hy S.p W
      go_wp2_with fail
      refine (back_any A9 q9 c9 _ w34 T9.out (by rw [← T9.out.1]; have := HRN.out; omega)).mono ?_
      rintro e w35 ⟨Ad, cd, rfl, htd, _, hb⟩
      have TD := Lib.hid htd
      clear htd es ac0 ac1 ac2 ac3 ac4 ac5 bc0 bc1 bc2 bc3 bc4 bc5
      replace HB := Lib.hid (HB.out.trans (hb.mono HB.out.size))
      replace U := Lib.hid (U.out.keep hb)
      replace F := Lib.hid (F.out.keep hb)
      replace TB := Lib.hid (TB.out.keep hb)
      replace HL := Lib.hid (HL.out.keep hb)
      replace HK := Lib.hid (HK.out.keep hb)
      replace NN := Lib.hid (NN.out.below hb)
      replace B7 := Lib.hid (B7.out.below hb)
      replace T9 := Lib.hid (T9.out.keep hb)
      replace T11 := Lib.hid (T11.out.keep hb)
      replace B17 := Lib.hid (B17.out.below hb)
      replace T18 := Lib.hid (T18.out.keep hb)
      replace T19 := Lib.hid (T19.out.keep hb)
      clear hb
      go_wp2_with fail
      refine (refSameTrack_any Ad _ q9 _ cd _ _ _ w35 TD.out T18.out (by rw [← TD.out.1]; have := HRN.out; omega)).mono ?_
      rintro e w36 ⟨⟨b, rfl, hbb⟩, hb⟩
      have hbt : b = true := hbb.2 rfl
      subst hbt
      clear hbb TD
      replace HB := Lib.hid (HB.out.trans (hb.mono HB.out.size))
      replace U := Lib.hid (U.out.keep hb)
      replace F := Lib.hid (F.out.keep hb)
      replace TB := Lib.hid (TB.out.keep hb)
      replace HL := Lib.hid (HL.out.keep hb)
      replace HK := Lib.hid (HK.out.keep hb)
      replace NN := Lib.hid (NN.out.below hb)
      replace B7 := Lib.hid (B7.out.below hb)
      replace T9 := Lib.hid (T9.out.keep hb)
      replace T11 := Lib.hid (T11.out.keep hb)
      replace B17 := Lib.hid (B17.out.below hb)
      replace T18 := Lib.hid (T18.out.keep hb)
      replace T19 := Lib.hid (T19.out.keep hb)
      clear hb
      go_wp2_with fail
      refine (back_any A11 q11 c11 _ w36 T11.out (by rw [← T11.out.1]; have := HJN.out; omega)).mono ?_
      rintro e w37 ⟨Ad, cd, rfl, htd, _, hb⟩
      have TD := Lib.hid htd
      clear htd
      replace HB := Lib.hid (HB.out.trans (hb.mono HB.out.size))
      replace U := Lib.hid (U.out.keep hb)
      replace F := Lib.hid (F.out.keep hb)
      replace TB := Lib.hid (TB.out.keep hb)
      replace HL := Lib.hid (HL.out.keep hb)
      replace HK := Lib.hid (HK.out.keep hb)
      replace NN := Lib.hid (NN.out.below hb)
      replace B7 := Lib.hid (B7.out.below hb)
      replace T9 := Lib.hid (T9.out.keep hb)
      replace T11 := Lib.hid (T11.out.keep hb)
      replace B17 := Lib.hid (B17.out.below hb)
      replace T18 := Lib.hid (T18.out.keep hb)
      replace T19 := Lib.hid (T19.out.keep hb)
      clear hb
      go_wp2_with fail
      refine (refSameTrack_any Ad _ q11 _ cd _ _ _ w37 TD.out T19.out (by rw [← TD.out.1]; have := HJN.out; omega)).mono ?_
      rintro e w38 ⟨⟨b, rfl, hbb⟩, hb⟩
      have hbt : b = true := hbb.2 rfl
      subst hbt
      clear hbb TD
      replace HB := Lib.hid (HB.out.trans (hb.mono HB.out.size))
      replace U := Lib.hid (U.out.keep hb)
      replace F := Lib.hid (F.out.keep hb)
      replace TB := Lib.hid (TB.out.keep hb)
      clear hb
      go_wp2_with fail
      refine (awake2_any w38 U.out F.out TB.out).mono ?_
      rintro e wZ ⟨rfl, hb⟩
      replace HB := Lib.hid (HB.out.trans (hb.mono HB.out.size))
      clear hb
      go_wp2
      go_ret
      exact ⟨rfl, HB.out⟩
    have p3 : firstE [trackE l, withinE y 1 1000] = 0 := by rw [← HV.out, ← HYE.out, ← HZ2.out]; exact h14
    have hn2 : 0 < n := by
      have g1 := (goodTr_of (two_zero p3).1).lo
      rw [HL.out.1] at g1
      omega
    obtain ⟨_, _, hea, hfa⟩ := HL.out.2 hn2
    cases hea
    have n0 := NN.out.cell 0
    have n1 := NN.out.cell 1
    simp only [List.getElem?_toArray, List.getElem?_cons_zero, List.getElem?_cons_succ] at n0 n1
    go_wp2_with fail
    have hj := tracks_rep y p3 b0 o0 n c w24 hfa
    rw [← HE2.out, ← HRL.out] at hj
    refine hj.mono ?_
    rintro e w39 ⟨A18, q18, c18, rfl, ht18, hb⟩
    have T18 := Lib.hid ht18
    clear ht18 hj hfa hn2 p3 n0 n1
    replace HB := Lib.hid (HB.out.trans (hb.mono HB.out.size))
    replace U := Lib.hid (U.out.keep hb)
    replace F := Lib.hid (F.out.keep hb)
    replace TB := Lib.hid (TB.out.keep hb)
    replace HL := Lib.hid (HL.out.keep hb)
    replace HK := Lib.hid (HK.out.keep hb)
    replace NN := Lib.hid (NN.out.below hb)
    replace B7 := Lib.hid (B7.out.below hb)
    replace T9 := Lib.hid (T9.out.keep hb)
    replace T11 := Lib.hid (T11.out.keep hb)
    replace B17 := Lib.hid (B17.out.below hb)
    clear hb
    by_cases h16 : Z3 = 0
    case neg =>
      obtain ⟨rfl, rfl⟩ := M4.out h16
      have T19 : Hid (TrAt w39 none 0 []) := tr_nil _
      go_wp2_with fail
      refine (fixes_any _ n c l w39 HL.out (by omega)).mono ?_
      rintro e w40 ⟨Ac, cc, rfl, htc, _, hb⟩
      have TC := Lib.hid htc
      clear htc
      replace HB := Lib.hid (HB.out.trans (hb.mono HB.out.size))
      replace U := Lib.hid (U.out.keep hb)
      replace F := Lib.hid (F.out.keep hb)
      replace TB := Lib.hid (TB.out.keep hb)
      replace HL := Lib.hid (HL.out.keep hb)
      replace HK := Lib.hid (HK.out.keep hb)
      replace NN := Lib.hid (NN.out.below hb)
      replace B7 := Lib.hid (B7.out.below hb)
      replace T9 := Lib.hid (T9.out.keep hb)
      replace T11 := Lib.hid (T11.out.keep hb)
      replace B17 := Lib.hid (B17.out.below hb)
      replace T18 := Lib.hid (T18.out.keep hb)
      replace T19 := Lib.hid (T19.out.keep hb)
      clear hb
      go_wp2_with fail
      refine (CheckTrack_any Ac n cc l w40 TC.out (by omega)).mono ?_
      rw [← HV.out]
      rintro e w41 ⟨rfl, hb⟩
      clear TC
      replace HB := Lib.hid (HB.out.trans (hb.mono HB.out.size))
      replace U := Lib.hid (U.out.keep hb)
      replace F := Lib.hid (F.out.keep hb)
      replace TB := Lib.hid (TB.out.keep hb)
      replace HL := Lib.hid (HL.out.keep hb)
      replace HK := Lib.hid (HK.out.keep hb)
      replace NN := Lib.hid (NN.out.below hb)
      replace B7 := Lib.hid (B7.out.below hb)
      replace T9 := Lib.hid (T9.out.keep hb)
      replace T11 := Lib.hid (T11.out.keep hb)
      replace B17 := Lib.hid (B17.out.below hb)
      replace T18 := Lib.hid (T18.out.keep hb)
      replace T19 := Lib.hid (T19.out.keep hb)
      clear hb
      have X7 : Blk w41 g7 46 #[.int .i64 S.x, .int .i64 S.y, .int .i64 S.z, .int .i64 S.hx, .int .i64 S.hy, .int .i64 S.p] := B7.out
      have X8 : Blk w41 g17 32 #[.int .i64 S.x, .int .i64 S.y, .int .i64 S.z, .int .i64 S.hx, .int .i64 S.hy, .int .i64 S.p] := B17.out
      have ac0 := X7.cell 0; have af0 := X7.frozen 0; have ac1 := X7.cell 1; have af1 := X7.frozen 1; have ac2 := X7.cell 2; have af2 := X7.frozen 2; have ac3 := X7.cell 3; have af3 := X7.frozen 3; have ac4 := X7.cell 4; have af4 := X7.frozen 4; have ac5 := X7.cell 5; have af5 := X7.frozen 5
      simp only [List.getElem?_toArray, List.getElem?_cons_zero, List.getElem?_cons_succ] at ac0 ac1 ac2 ac3 ac4 ac5
      clear X7
      have bc0 := X8.cell 0; have bf0 := X8.frozen 0; have bc1 := X8.cell 1; have bf1 := X8.frozen 1; have bc2 := X8.cell 2; have bf2 := X8.frozen 2; have bc3 := X8.cell 3; have bf3 := X8.frozen 3; have bc4 := X8.cell 4; have bf4 := X8.frozen 4; have bc5 := X8.cell 5; have bf5 := X8.frozen 5
      simp only [List.getElem?_toArray, List.getElem?_cons_zero, List.getElem?_cons_succ] at bc0 bc1 bc2 bc3 bc4 bc5
      clear X8
      have es := fun W => eq_stR S.x S.y S.z S.hx S.hy S.p W
      go_wp2_with fail
      refine (back_any A9 q9 c9 _ w41 T9.out (by rw [← T9.out.1]; have := HRN.out; omega)).mono ?_
      rintro e w42 ⟨Ad, cd, rfl, htd, _, hb⟩
      have TD := Lib.hid htd
      clear htd es ac0 ac1 ac2 ac3 ac4 ac5 bc0 bc1 bc2 bc3 bc4 bc5
      replace HB := Lib.hid (HB.out.trans (hb.mono HB.out.size))
      replace U := Lib.hid (U.out.keep hb)
      replace F := Lib.hid (F.out.keep hb)
      replace TB := Lib.hid (TB.out.keep hb)
      replace HL := Lib.hid (HL.out.keep hb)
      replace HK := Lib.hid (HK.out.keep hb)
      replace NN := Lib.hid (NN.out.below hb)
      replace B7 := Lib.hid (B7.out.below hb)
      replace T9 := Lib.hid (T9.out.keep hb)
      replace T11 := Lib.hid (T11.out.keep hb)
      replace B17 := Lib.hid (B17.out.below hb)
      replace T18 := Lib.hid (T18.out.keep hb)
      replace T19 := Lib.hid (T19.out.keep hb)
      clear hb
      go_wp2_with fail
      refine (refSameTrack_any Ad _ q9 _ cd _ _ _ w42 TD.out T18.out (by rw [← TD.out.1]; have := HRN.out; omega)).mono ?_
      rintro e w43 ⟨⟨b, rfl, hbb⟩, hb⟩
      have hbt : b = true := hbb.2 rfl
      subst hbt
      clear hbb TD
      replace HB := Lib.hid (HB.out.trans (hb.mono HB.out.size))
      replace U := Lib.hid (U.out.keep hb)
      replace F := Lib.hid (F.out.keep hb)
      replace TB := Lib.hid (TB.out.keep hb)
      replace HL := Lib.hid (HL.out.keep hb)
      replace HK := Lib.hid (HK.out.keep hb)
      replace NN := Lib.hid (NN.out.below hb)
      replace B7 := Lib.hid (B7.out.below hb)
      replace T9 := Lib.hid (T9.out.keep hb)
      replace T11 := Lib.hid (T11.out.keep hb)
      replace B17 := Lib.hid (B17.out.below hb)
      replace T18 := Lib.hid (T18.out.keep hb)
      replace T19 := Lib.hid (T19.out.keep hb)
      clear hb
      go_wp2_with fail
      refine (back_any A11 q11 c11 _ w43 T11.out (by rw [← T11.out.1]; have := HJN.out; omega)).mono ?_
      rintro e w44 ⟨Ad, cd, rfl, htd, _, hb⟩
      have TD := Lib.hid htd
      clear htd
      replace HB := Lib.hid (HB.out.trans (hb.mono HB.out.size))
      replace U := Lib.hid (U.out.keep hb)
      replace F := Lib.hid (F.out.keep hb)
      replace TB := Lib.hid (TB.out.keep hb)
      replace HL := Lib.hid (HL.out.keep hb)
      replace HK := Lib.hid (HK.out.keep hb)
      replace NN := Lib.hid (NN.out.below hb)
      replace B7 := Lib.hid (B7.out.below hb)
      replace T9 := Lib.hid (T9.out.keep hb)
      replace T11 := Lib.hid (T11.out.keep hb)
      replace B17 := Lib.hid (B17.out.below hb)
      replace T18 := Lib.hid (T18.out.keep hb)
      replace T19 := Lib.hid (T19.out.keep hb)
      clear hb
      go_wp2_with fail
      refine (refSameTrack_any Ad _ q11 _ cd _ _ _ w44 TD.out T19.out (by rw [← TD.out.1]; have := HJN.out; omega)).mono ?_
      rintro e w45 ⟨⟨b, rfl, hbb⟩, hb⟩
      have hbt : b = true := hbb.2 rfl
      subst hbt
      clear hbb TD
      replace HB := Lib.hid (HB.out.trans (hb.mono HB.out.size))
      replace U := Lib.hid (U.out.keep hb)
      replace F := Lib.hid (F.out.keep hb)
      replace TB := Lib.hid (TB.out.keep hb)
      clear hb
      go_wp2_with fail
      refine (awake2_any w45 U.out F.out TB.out).mono ?_
      rintro e wZ ⟨rfl, hb⟩
      replace HB := Lib.hid (HB.out.trans (hb.mono HB.out.size))
      clear hb
      go_wp2
      go_ret
      exact ⟨rfl, HB.out⟩
    obtain ⟨b1, o1, rfl⟩ := HKK.out h16
    have p3 : firstE [trackE l, trackE k] = 0 := by rw [← HV.out, ← HVK.out, ← HZ3.out]; exact h16
    have hn2 : 0 < n ∧ 0 < m := by
      obtain ⟨p4, p5⟩ := two_zero p3
      have g1 := (goodTr_of p4).lo
      have g2 := (goodTr_of p5).lo
      rw [HL.out.1] at g1
      rw [HK.out.1] at g2
      omega
    obtain ⟨_, _, hea, hfa⟩ := HL.out.2 hn2.1
    cases hea
    obtain ⟨_, _, heb, hfb⟩ := HK.out.2 hn2.2
    cases heb
    go_wp2_with fail
    have hj := tracks_join p3 b0 o0 b1 o1 n m c d w39 hfa hfb
    rw [← HE3.out, ← HJL.out] at hj
    refine hj.mono ?_
    rintro e w46 ⟨A19, q19, c19, rfl, ht19, hb⟩
    have T19 := Lib.hid ht19
    clear ht19 hj hfa hfb hn2 p3
    replace HB := Lib.hid (HB.out.trans (hb.mono HB.out.size))
    replace U := Lib.hid (U.out.keep hb)
    replace F := Lib.hid (F.out.keep hb)
    replace TB := Lib.hid (TB.out.keep hb)
    replace HL := Lib.hid (HL.out.keep hb)
    replace HK := Lib.hid (HK.out.keep hb)
    replace NN := Lib.hid (NN.out.below hb)
    replace B7 := Lib.hid (B7.out.below hb)
    replace T9 := Lib.hid (T9.out.keep hb)
    replace T11 := Lib.hid (T11.out.keep hb)
    replace B17 := Lib.hid (B17.out.below hb)
    replace T18 := Lib.hid (T18.out.keep hb)
    clear hb
    go_wp2_with fail
    refine (fixes_any _ n c l w46 HL.out (by omega)).mono ?_
    rintro e w47 ⟨Ac, cc, rfl, htc, _, hb⟩
    have TC := Lib.hid htc
    clear htc
    replace HB := Lib.hid (HB.out.trans (hb.mono HB.out.size))
    replace U := Lib.hid (U.out.keep hb)
    replace F := Lib.hid (F.out.keep hb)
    replace TB := Lib.hid (TB.out.keep hb)
    replace HL := Lib.hid (HL.out.keep hb)
    replace HK := Lib.hid (HK.out.keep hb)
    replace NN := Lib.hid (NN.out.below hb)
    replace B7 := Lib.hid (B7.out.below hb)
    replace T9 := Lib.hid (T9.out.keep hb)
    replace T11 := Lib.hid (T11.out.keep hb)
    replace B17 := Lib.hid (B17.out.below hb)
    replace T18 := Lib.hid (T18.out.keep hb)
    replace T19 := Lib.hid (T19.out.keep hb)
    clear hb
    go_wp2_with fail
    refine (CheckTrack_any Ac n cc l w47 TC.out (by omega)).mono ?_
    rw [← HV.out]
    rintro e w48 ⟨rfl, hb⟩
    clear TC
    replace HB := Lib.hid (HB.out.trans (hb.mono HB.out.size))
    replace U := Lib.hid (U.out.keep hb)
    replace F := Lib.hid (F.out.keep hb)
    replace TB := Lib.hid (TB.out.keep hb)
    replace HL := Lib.hid (HL.out.keep hb)
    replace HK := Lib.hid (HK.out.keep hb)
    replace NN := Lib.hid (NN.out.below hb)
    replace B7 := Lib.hid (B7.out.below hb)
    replace T9 := Lib.hid (T9.out.keep hb)
    replace T11 := Lib.hid (T11.out.keep hb)
    replace B17 := Lib.hid (B17.out.below hb)
    replace T18 := Lib.hid (T18.out.keep hb)
    replace T19 := Lib.hid (T19.out.keep hb)
    clear hb
    have X7 : Blk w48 g7 46 #[.int .i64 S.x, .int .i64 S.y, .int .i64 S.z, .int .i64 S.hx, .int .i64 S.hy, .int .i64 S.p] := B7.out
    have X8 : Blk w48 g17 32 #[.int .i64 S.x, .int .i64 S.y, .int .i64 S.z, .int .i64 S.hx, .int .i64 S.hy, .int .i64 S.p] := B17.out
    have ac0 := X7.cell 0; have af0 := X7.frozen 0; have ac1 := X7.cell 1; have af1 := X7.frozen 1; have ac2 := X7.cell 2; have af2 := X7.frozen 2; have ac3 := X7.cell 3; have af3 := X7.frozen 3; have ac4 := X7.cell 4; have af4 := X7.frozen 4; have ac5 := X7.cell 5; have af5 := X7.frozen 5
    simp only [List.getElem?_toArray, List.getElem?_cons_zero, List.getElem?_cons_succ] at ac0 ac1 ac2 ac3 ac4 ac5
    clear X7
    have bc0 := X8.cell 0; have bf0 := X8.frozen 0; have bc1 := X8.cell 1; have bf1 := X8.frozen 1; have bc2 := X8.cell 2; have bf2 := X8.frozen 2; have bc3 := X8.cell 3; have bf3 := X8.frozen 3; have bc4 := X8.cell 4; have bf4 := X8.frozen 4; have bc5 := X8.cell 5; have bf5 := X8.frozen 5
    simp only [List.getElem?_toArray, List.getElem?_cons_zero, List.getElem?_cons_succ] at bc0 bc1 bc2 bc3 bc4 bc5
    clear X8
    have es := fun W => eq_stR S.x S.y S.z S.hx S.hy S.p W
    go_wp2_with fail
    refine (back_any A9 q9 c9 _ w48 T9.out (by rw [← T9.out.1]; have := HRN.out; omega)).mono ?_
    rintro e w49 ⟨Ad, cd, rfl, htd, _, hb⟩
    have TD := Lib.hid htd
    clear htd es ac0 ac1 ac2 ac3 ac4 ac5 bc0 bc1 bc2 bc3 bc4 bc5
    replace HB := Lib.hid (HB.out.trans (hb.mono HB.out.size))
    replace U := Lib.hid (U.out.keep hb)
    replace F := Lib.hid (F.out.keep hb)
    replace TB := Lib.hid (TB.out.keep hb)
    replace HL := Lib.hid (HL.out.keep hb)
    replace HK := Lib.hid (HK.out.keep hb)
    replace NN := Lib.hid (NN.out.below hb)
    replace B7 := Lib.hid (B7.out.below hb)
    replace T9 := Lib.hid (T9.out.keep hb)
    replace T11 := Lib.hid (T11.out.keep hb)
    replace B17 := Lib.hid (B17.out.below hb)
    replace T18 := Lib.hid (T18.out.keep hb)
    replace T19 := Lib.hid (T19.out.keep hb)
    clear hb
    go_wp2_with fail
    refine (refSameTrack_any Ad _ q9 _ cd _ _ _ w49 TD.out T18.out (by rw [← TD.out.1]; have := HRN.out; omega)).mono ?_
    rintro e w50 ⟨⟨b, rfl, hbb⟩, hb⟩
    have hbt : b = true := hbb.2 rfl
    subst hbt
    clear hbb TD
    replace HB := Lib.hid (HB.out.trans (hb.mono HB.out.size))
    replace U := Lib.hid (U.out.keep hb)
    replace F := Lib.hid (F.out.keep hb)
    replace TB := Lib.hid (TB.out.keep hb)
    replace HL := Lib.hid (HL.out.keep hb)
    replace HK := Lib.hid (HK.out.keep hb)
    replace NN := Lib.hid (NN.out.below hb)
    replace B7 := Lib.hid (B7.out.below hb)
    replace T9 := Lib.hid (T9.out.keep hb)
    replace T11 := Lib.hid (T11.out.keep hb)
    replace B17 := Lib.hid (B17.out.below hb)
    replace T18 := Lib.hid (T18.out.keep hb)
    replace T19 := Lib.hid (T19.out.keep hb)
    clear hb
    go_wp2_with fail
    refine (back_any A11 q11 c11 _ w50 T11.out (by rw [← T11.out.1]; have := HJN.out; omega)).mono ?_
    rintro e w51 ⟨Ad, cd, rfl, htd, _, hb⟩
    have TD := Lib.hid htd
    clear htd
    replace HB := Lib.hid (HB.out.trans (hb.mono HB.out.size))
    replace U := Lib.hid (U.out.keep hb)
    replace F := Lib.hid (F.out.keep hb)
    replace TB := Lib.hid (TB.out.keep hb)
    replace HL := Lib.hid (HL.out.keep hb)
    replace HK := Lib.hid (HK.out.keep hb)
    replace NN := Lib.hid (NN.out.below hb)
    replace B7 := Lib.hid (B7.out.below hb)
    replace T9 := Lib.hid (T9.out.keep hb)
    replace T11 := Lib.hid (T11.out.keep hb)
    replace B17 := Lib.hid (B17.out.below hb)
    replace T18 := Lib.hid (T18.out.keep hb)
    replace T19 := Lib.hid (T19.out.keep hb)
    clear hb
    go_wp2_with fail
    refine (refSameTrack_any Ad _ q11 _ cd _ _ _ w51 TD.out T19.out (by rw [← TD.out.1]; have := HJN.out; omega)).mono ?_
    rintro e w52 ⟨⟨b, rfl, hbb⟩, hb⟩
    have hbt : b = true := hbb.2 rfl
    subst hbt
    clear hbb TD
    replace HB := Lib.hid (HB.out.trans (hb.mono HB.out.size))
    replace U := Lib.hid (U.out.keep hb)
    replace F := Lib.hid (F.out.keep hb)
    replace TB := Lib.hid (TB.out.keep hb)
    clear hb
    go_wp2_with fail
    refine (awake2_any w52 U.out F.out TB.out).mono ?_
    rintro e wZ ⟨rfl, hb⟩
    replace HB := Lib.hid (HB.out.trans (hb.mono HB.out.size))
    clear hb
    go_wp2
    go_ret
    exact ⟨rfl, HB.out⟩
  obtain ⟨_, _, hea, hfa⟩ := HL.out.2 hn2
  cases hea
  have hj := tracks_state x (HE1.out.symm.trans h12) b0 o0 n c w24 hfa
  rw [← HS.out] at hj
  go_wp2_with fail
  refine hj.mono ?_
  rintro e w25 ⟨rfl, hb⟩
  clear hj hfa n0 n1
  have HX2 : Hid (Below w15.heap.size w15 w25) := HX.out.trans (hb.mono HX.out.size)
  replace HB := Lib.hid (HB.out.trans (hb.mono HB.out.size))
  replace U := Lib.hid (U.out.keep hb)
  replace F := Lib.hid (F.out.keep hb)
  replace TB := Lib.hid (TB.out.keep hb)
  replace HL := Lib.hid (HL.out.keep hb)
  replace HK := Lib.hid (HK.out.keep hb)
  replace NN := Lib.hid (NN.out.below hb)
  replace B7 := Lib.hid (B7.out.below hb)
  replace T9 := Lib.hid (T9.out.keep hb)
  replace T11 := Lib.hid (T11.out.keep hb)
  replace B17 := Lib.hid (B17.out.below hb)
  clear hb
  go_upto_region 14 with (refine wpList_store_row rfl 32 _ _ rfl g17 (stV S) rfl rfl 32 _ B17.out (by kernel_rfl) rfl (by simp [Value.oneCell', stV]) ?_)
  obtain ⟨w53, hws⟩ : ∃ W, W = w25.setRow g17 (stV S) := ⟨_, rfl⟩
  try rw [← hws]
  try simp only [← hws]
  have HX3 : Hid (Below w15.heap.size w15 w53) := by show Below _ _ _; rw [hws]; exact HX2.out.setRow' HG17.out _
  have BN : Hid (Blk w53 g17 32 (stV S)) := by show Blk _ _ _ _; rw [hws]; exact B17.out.setRow _
  clear hws U F TB HL HK NN B7 T9 T11 B17 HB
  obtain ⟨f0, f1, f2, f3, f4, f5, f6, f7, f8, f9⟩ := HFA.out _ HX3.out
  have HB := Lib.hid f0
  have U := Lib.hid f1
  have F := Lib.hid f2
  have TB := Lib.hid f3
  have HL := Lib.hid f4
  have HK := Lib.hid f5
  have NN := Lib.hid f6
  have B7 := Lib.hid f7
  have T9 := Lib.hid f8
  have T11 := Lib.hid f9
  have B17 := Lib.hid (show Blk w53 g17 32 (stV S) from BN.out)
  clear f0 f1 f2 f3 f4 f5 f6 f7 f8 f9 BN HX HX2 HX3 HFA HG17
  by_cases h14 : Z2 = 0
  case neg =>
    obtain ⟨rfl, rfl⟩ := M3.out h14
    have T18 : Hid (TrAt w53 none 0 []) := tr_nil _
    by_cases h16 : Z3 = 0
    case neg =>
      obtain ⟨rfl, rfl⟩ := M4.out h16
      have T19 : Hid (TrAt w53 none 0 []) := tr_nil _
      go_wp2_with fail
      refine (fixes_any _ n c l w53 HL.out (by omega)).mono ?_
      rintro e w54 ⟨Ac, cc, rfl, htc, _, hb⟩
      have TC := Lib.hid htc
      clear htc
      replace HB := Lib.hid (HB.out.trans (hb.mono HB.out.size))
      replace U := Lib.hid (U.out.keep hb)
      replace F := Lib.hid (F.out.keep hb)
      replace TB := Lib.hid (TB.out.keep hb)
      replace HL := Lib.hid (HL.out.keep hb)
      replace HK := Lib.hid (HK.out.keep hb)
      replace NN := Lib.hid (NN.out.below hb)
      replace B7 := Lib.hid (B7.out.below hb)
      replace T9 := Lib.hid (T9.out.keep hb)
      replace T11 := Lib.hid (T11.out.keep hb)
      replace B17 := Lib.hid (B17.out.below hb)
      replace T18 := Lib.hid (T18.out.keep hb)
      replace T19 := Lib.hid (T19.out.keep hb)
      clear hb
      go_wp2_with fail
      refine (CheckTrack_any Ac n cc l w54 TC.out (by omega)).mono ?_
      rw [← HV.out]
      rintro e w55 ⟨rfl, hb⟩
      clear TC
      replace HB := Lib.hid (HB.out.trans (hb.mono HB.out.size))
      replace U := Lib.hid (U.out.keep hb)
      replace F := Lib.hid (F.out.keep hb)
      replace TB := Lib.hid (TB.out.keep hb)
      replace HL := Lib.hid (HL.out.keep hb)
      replace HK := Lib.hid (HK.out.keep hb)
      replace NN := Lib.hid (NN.out.below hb)
      replace B7 := Lib.hid (B7.out.below hb)
      replace T9 := Lib.hid (T9.out.keep hb)
      replace T11 := Lib.hid (T11.out.keep hb)
      replace B17 := Lib.hid (B17.out.below hb)
      replace T18 := Lib.hid (T18.out.keep hb)
      replace T19 := Lib.hid (T19.out.keep hb)
      clear hb
      have X7 : Blk w55 g7 46 #[.int .i64 S.x, .int .i64 S.y, .int .i64 S.z, .int .i64 S.hx, .int .i64 S.hy, .int .i64 S.p] := B7.out
      have X8 : Blk w55 g17 32 #[.int .i64 S.x, .int .i64 S.y, .int .i64 S.z, .int .i64 S.hx, .int .i64 S.hy, .int .i64 S.p] := B17.out
      have ac0 := X7.cell 0; have af0 := X7.frozen 0; have ac1 := X7.cell 1; have af1 := X7.frozen 1; have ac2 := X7.cell 2; have af2 := X7.frozen 2; have ac3 := X7.cell 3; have af3 := X7.frozen 3; have ac4 := X7.cell 4; have af4 := X7.frozen 4; have ac5 := X7.cell 5; have af5 := X7.frozen 5
      simp only [List.getElem?_toArray, List.getElem?_cons_zero, List.getElem?_cons_succ] at ac0 ac1 ac2 ac3 ac4 ac5
      clear X7
      have bc0 := X8.cell 0; have bf0 := X8.frozen 0; have bc1 := X8.cell 1; have bf1 := X8.frozen 1; have bc2 := X8.cell 2; have bf2 := X8.frozen 2; have bc3 := X8.cell 3; have bf3 := X8.frozen 3; have bc4 := X8.cell 4; have bf4 := X8.frozen 4; have bc5 := X8.cell 5; have bf5 := X8.frozen 5
      simp only [List.getElem?_toArray, List.getElem?_cons_zero, List.getElem?_cons_succ] at bc0 bc1 bc2 bc3 bc4 bc5
      clear X8
      have es := fun W => eq_stR S.x S.y S.z S.hx S.hy S.p W
      go_wp2_with fail
      refine (back_any A9 q9 c9 _ w55 T9.out (by rw [← T9.out.1]; have := HRN.out; omega)).mono ?_
      rintro e w56 ⟨Ad, cd, rfl, htd, _, hb⟩
      have TD := Lib.hid htd
      clear htd es ac0 ac1 ac2 ac3 ac4 ac5 bc0 bc1 bc2 bc3 bc4 bc5
      replace HB := Lib.hid (HB.out.trans (hb.mono HB.out.size))
      replace U := Lib.hid (U.out.keep hb)
      replace F := Lib.hid (F.out.keep hb)
      replace TB := Lib.hid (TB.out.keep hb)
      replace HL := Lib.hid (HL.out.keep hb)
      replace HK := Lib.hid (HK.out.keep hb)
      replace NN := Lib.hid (NN.out.below hb)
      replace B7 := Lib.hid (B7.out.below hb)
      replace T9 := Lib.hid (T9.out.keep hb)
      replace T11 := Lib.hid (T11.out.keep hb)
      replace B17 := Lib.hid (B17.out.below hb)
      replace T18 := Lib.hid (T18.out.keep hb)
      replace T19 := Lib.hid (T19.out.keep hb)
      clear hb
      go_wp2_with fail
      refine (refSameTrack_any Ad _ q9 _ cd _ _ _ w56 TD.out T18.out (by rw [← TD.out.1]; have := HRN.out; omega)).mono ?_
      rintro e w57 ⟨⟨b, rfl, hbb⟩, hb⟩
      have hbt : b = true := hbb.2 rfl
      subst hbt
      clear hbb TD
      replace HB := Lib.hid (HB.out.trans (hb.mono HB.out.size))
      replace U := Lib.hid (U.out.keep hb)
      replace F := Lib.hid (F.out.keep hb)
      replace TB := Lib.hid (TB.out.keep hb)
      replace HL := Lib.hid (HL.out.keep hb)
      replace HK := Lib.hid (HK.out.keep hb)
      replace NN := Lib.hid (NN.out.below hb)
      replace B7 := Lib.hid (B7.out.below hb)
      replace T9 := Lib.hid (T9.out.keep hb)
      replace T11 := Lib.hid (T11.out.keep hb)
      replace B17 := Lib.hid (B17.out.below hb)
      replace T18 := Lib.hid (T18.out.keep hb)
      replace T19 := Lib.hid (T19.out.keep hb)
      clear hb
      go_wp2_with fail
      refine (back_any A11 q11 c11 _ w57 T11.out (by rw [← T11.out.1]; have := HJN.out; omega)).mono ?_
      rintro e w58 ⟨Ad, cd, rfl, htd, _, hb⟩
      have TD := Lib.hid htd
      clear htd
      replace HB := Lib.hid (HB.out.trans (hb.mono HB.out.size))
      replace U := Lib.hid (U.out.keep hb)
      replace F := Lib.hid (F.out.keep hb)
      replace TB := Lib.hid (TB.out.keep hb)
      replace HL := Lib.hid (HL.out.keep hb)
      replace HK := Lib.hid (HK.out.keep hb)
      replace NN := Lib.hid (NN.out.below hb)
      replace B7 := Lib.hid (B7.out.below hb)
      replace T9 := Lib.hid (T9.out.keep hb)
      replace T11 := Lib.hid (T11.out.keep hb)
      replace B17 := Lib.hid (B17.out.below hb)
      replace T18 := Lib.hid (T18.out.keep hb)
      replace T19 := Lib.hid (T19.out.keep hb)
      clear hb
      go_wp2_with fail
      refine (refSameTrack_any Ad _ q11 _ cd _ _ _ w58 TD.out T19.out (by rw [← TD.out.1]; have := HJN.out; omega)).mono ?_
      rintro e w59 ⟨⟨b, rfl, hbb⟩, hb⟩
      have hbt : b = true := hbb.2 rfl
      subst hbt
      clear hbb TD
      replace HB := Lib.hid (HB.out.trans (hb.mono HB.out.size))
      replace U := Lib.hid (U.out.keep hb)
      replace F := Lib.hid (F.out.keep hb)
      replace TB := Lib.hid (TB.out.keep hb)
      clear hb
      go_wp2_with fail
      refine (awake2_any w59 U.out F.out TB.out).mono ?_
      rintro e wZ ⟨rfl, hb⟩
      replace HB := Lib.hid (HB.out.trans (hb.mono HB.out.size))
      clear hb
      go_wp2
      go_ret
      exact ⟨rfl, HB.out⟩
    obtain ⟨b1, o1, rfl⟩ := HKK.out h16
    have p3 : firstE [trackE l, trackE k] = 0 := by rw [← HV.out, ← HVK.out, ← HZ3.out]; exact h16
    have hn2 : 0 < n ∧ 0 < m := by
      obtain ⟨p4, p5⟩ := two_zero p3
      have g1 := (goodTr_of p4).lo
      have g2 := (goodTr_of p5).lo
      rw [HL.out.1] at g1
      rw [HK.out.1] at g2
      omega
    obtain ⟨_, _, hea, hfa⟩ := HL.out.2 hn2.1
    cases hea
    obtain ⟨_, _, heb, hfb⟩ := HK.out.2 hn2.2
    cases heb
    go_wp2_with fail
    have hj := tracks_join p3 b0 o0 b1 o1 n m c d w53 hfa hfb
    rw [← HE3.out, ← HJL.out] at hj
    refine hj.mono ?_
    rintro e w60 ⟨A19, q19, c19, rfl, ht19, hb⟩
    have T19 := Lib.hid ht19
    clear ht19 hj hfa hfb hn2 p3
    replace HB := Lib.hid (HB.out.trans (hb.mono HB.out.size))
    replace U := Lib.hid (U.out.keep hb)
    replace F := Lib.hid (F.out.keep hb)
    replace TB := Lib.hid (TB.out.keep hb)
    replace HL := Lib.hid (HL.out.keep hb)
    replace HK := Lib.hid (HK.out.keep hb)
    replace NN := Lib.hid (NN.out.below hb)
    replace B7 := Lib.hid (B7.out.below hb)
    replace T9 := Lib.hid (T9.out.keep hb)
    replace T11 := Lib.hid (T11.out.keep hb)
    replace B17 := Lib.hid (B17.out.below hb)
    replace T18 := Lib.hid (T18.out.keep hb)
    clear hb
    go_wp2_with fail
    refine (fixes_any _ n c l w60 HL.out (by omega)).mono ?_
    rintro e w61 ⟨Ac, cc, rfl, htc, _, hb⟩
    have TC := Lib.hid htc
    clear htc
    replace HB := Lib.hid (HB.out.trans (hb.mono HB.out.size))
    replace U := Lib.hid (U.out.keep hb)
    replace F := Lib.hid (F.out.keep hb)
    replace TB := Lib.hid (TB.out.keep hb)
    replace HL := Lib.hid (HL.out.keep hb)
    replace HK := Lib.hid (HK.out.keep hb)
    replace NN := Lib.hid (NN.out.below hb)
    replace B7 := Lib.hid (B7.out.below hb)
    replace T9 := Lib.hid (T9.out.keep hb)
    replace T11 := Lib.hid (T11.out.keep hb)
    replace B17 := Lib.hid (B17.out.below hb)
    replace T18 := Lib.hid (T18.out.keep hb)
    replace T19 := Lib.hid (T19.out.keep hb)
    clear hb
    go_wp2_with fail
    refine (CheckTrack_any Ac n cc l w61 TC.out (by omega)).mono ?_
    rw [← HV.out]
    rintro e w62 ⟨rfl, hb⟩
    clear TC
    replace HB := Lib.hid (HB.out.trans (hb.mono HB.out.size))
    replace U := Lib.hid (U.out.keep hb)
    replace F := Lib.hid (F.out.keep hb)
    replace TB := Lib.hid (TB.out.keep hb)
    replace HL := Lib.hid (HL.out.keep hb)
    replace HK := Lib.hid (HK.out.keep hb)
    replace NN := Lib.hid (NN.out.below hb)
    replace B7 := Lib.hid (B7.out.below hb)
    replace T9 := Lib.hid (T9.out.keep hb)
    replace T11 := Lib.hid (T11.out.keep hb)
    replace B17 := Lib.hid (B17.out.below hb)
    replace T18 := Lib.hid (T18.out.keep hb)
    replace T19 := Lib.hid (T19.out.keep hb)
    clear hb
    have X7 : Blk w62 g7 46 #[.int .i64 S.x, .int .i64 S.y, .int .i64 S.z, .int .i64 S.hx, .int .i64 S.hy, .int .i64 S.p] := B7.out
    have X8 : Blk w62 g17 32 #[.int .i64 S.x, .int .i64 S.y, .int .i64 S.z, .int .i64 S.hx, .int .i64 S.hy, .int .i64 S.p] := B17.out
    have ac0 := X7.cell 0; have af0 := X7.frozen 0; have ac1 := X7.cell 1; have af1 := X7.frozen 1; have ac2 := X7.cell 2; have af2 := X7.frozen 2; have ac3 := X7.cell 3; have af3 := X7.frozen 3; have ac4 := X7.cell 4; have af4 := X7.frozen 4; have ac5 := X7.cell 5; have af5 := X7.frozen 5
    simp only [List.getElem?_toArray, List.getElem?_cons_zero, List.getElem?_cons_succ] at ac0 ac1 ac2 ac3 ac4 ac5
    clear X7
    have bc0 := X8.cell 0; have bf0 := X8.frozen 0; have bc1 := X8.cell 1; have bf1 := X8.frozen 1; have bc2 := X8.cell 2; have bf2 := X8.frozen 2; have bc3 := X8.cell 3; have bf3 := X8.frozen 3; have bc4 := X8.cell 4; have bf4 := X8.frozen 4; have bc5 := X8.cell 5; have bf5 := X8.frozen 5
    simp only [List.getElem?_toArray, List.getElem?_cons_zero, List.getElem?_cons_succ] at bc0 bc1 bc2 bc3 bc4 bc5
    clear X8
    have es := fun W => eq_stR S.x S.y S.z S.hx S.hy S.p W
    go_wp2_with fail
    refine (back_any A9 q9 c9 _ w62 T9.out (by rw [← T9.out.1]; have := HRN.out; omega)).mono ?_
    rintro e w63 ⟨Ad, cd, rfl, htd, _, hb⟩
    have TD := Lib.hid htd
    clear htd es ac0 ac1 ac2 ac3 ac4 ac5 bc0 bc1 bc2 bc3 bc4 bc5
    replace HB := Lib.hid (HB.out.trans (hb.mono HB.out.size))
    replace U := Lib.hid (U.out.keep hb)
    replace F := Lib.hid (F.out.keep hb)
    replace TB := Lib.hid (TB.out.keep hb)
    replace HL := Lib.hid (HL.out.keep hb)
    replace HK := Lib.hid (HK.out.keep hb)
    replace NN := Lib.hid (NN.out.below hb)
    replace B7 := Lib.hid (B7.out.below hb)
    replace T9 := Lib.hid (T9.out.keep hb)
    replace T11 := Lib.hid (T11.out.keep hb)
    replace B17 := Lib.hid (B17.out.below hb)
    replace T18 := Lib.hid (T18.out.keep hb)
    replace T19 := Lib.hid (T19.out.keep hb)
    clear hb
    go_wp2_with fail
    refine (refSameTrack_any Ad _ q9 _ cd _ _ _ w63 TD.out T18.out (by rw [← TD.out.1]; have := HRN.out; omega)).mono ?_
    rintro e w64 ⟨⟨b, rfl, hbb⟩, hb⟩
    have hbt : b = true := hbb.2 rfl
    subst hbt
    clear hbb TD
    replace HB := Lib.hid (HB.out.trans (hb.mono HB.out.size))
    replace U := Lib.hid (U.out.keep hb)
    replace F := Lib.hid (F.out.keep hb)
    replace TB := Lib.hid (TB.out.keep hb)
    replace HL := Lib.hid (HL.out.keep hb)
    replace HK := Lib.hid (HK.out.keep hb)
    replace NN := Lib.hid (NN.out.below hb)
    replace B7 := Lib.hid (B7.out.below hb)
    replace T9 := Lib.hid (T9.out.keep hb)
    replace T11 := Lib.hid (T11.out.keep hb)
    replace B17 := Lib.hid (B17.out.below hb)
    replace T18 := Lib.hid (T18.out.keep hb)
    replace T19 := Lib.hid (T19.out.keep hb)
    clear hb
    go_wp2_with fail
    refine (back_any A11 q11 c11 _ w64 T11.out (by rw [← T11.out.1]; have := HJN.out; omega)).mono ?_
    rintro e w65 ⟨Ad, cd, rfl, htd, _, hb⟩
    have TD := Lib.hid htd
    clear htd
    replace HB := Lib.hid (HB.out.trans (hb.mono HB.out.size))
    replace U := Lib.hid (U.out.keep hb)
    replace F := Lib.hid (F.out.keep hb)
    replace TB := Lib.hid (TB.out.keep hb)
    replace HL := Lib.hid (HL.out.keep hb)
    replace HK := Lib.hid (HK.out.keep hb)
    replace NN := Lib.hid (NN.out.below hb)
    replace B7 := Lib.hid (B7.out.below hb)
    replace T9 := Lib.hid (T9.out.keep hb)
    replace T11 := Lib.hid (T11.out.keep hb)
    replace B17 := Lib.hid (B17.out.below hb)
    replace T18 := Lib.hid (T18.out.keep hb)
    replace T19 := Lib.hid (T19.out.keep hb)
    clear hb
    go_wp2_with fail
    refine (refSameTrack_any Ad _ q11 _ cd _ _ _ w65 TD.out T19.out (by rw [← TD.out.1]; have := HJN.out; omega)).mono ?_
    rintro e w66 ⟨⟨b, rfl, hbb⟩, hb⟩
    have hbt : b = true := hbb.2 rfl
    subst hbt
    clear hbb TD
    replace HB := Lib.hid (HB.out.trans (hb.mono HB.out.size))
    replace U := Lib.hid (U.out.keep hb)
    replace F := Lib.hid (F.out.keep hb)
    replace TB := Lib.hid (TB.out.keep hb)
    clear hb
    go_wp2_with fail
    refine (awake2_any w66 U.out F.out TB.out).mono ?_
    rintro e wZ ⟨rfl, hb⟩
    replace HB := Lib.hid (HB.out.trans (hb.mono HB.out.size))
    clear hb
    go_wp2
    go_ret
    exact ⟨rfl, HB.out⟩
  have p3 : firstE [trackE l, withinE y 1 1000] = 0 := by rw [← HV.out, ← HYE.out, ← HZ2.out]; exact h14
  have hn2 : 0 < n := by
    have g1 := (goodTr_of (two_zero p3).1).lo
    rw [HL.out.1] at g1
    omega
  obtain ⟨_, _, hea, hfa⟩ := HL.out.2 hn2
  cases hea
  have n0 := NN.out.cell 0
  have n1 := NN.out.cell 1
  simp only [List.getElem?_toArray, List.getElem?_cons_zero, List.getElem?_cons_succ] at n0 n1
  go_wp2_with fail
  have hj := tracks_rep y p3 b0 o0 n c w53 hfa
  rw [← HE2.out, ← HRL.out] at hj
  refine hj.mono ?_
  rintro e w67 ⟨A18, q18, c18, rfl, ht18, hb⟩
  have T18 := Lib.hid ht18
  clear ht18 hj hfa hn2 p3 n0 n1
  replace HB := Lib.hid (HB.out.trans (hb.mono HB.out.size))
  replace U := Lib.hid (U.out.keep hb)
  replace F := Lib.hid (F.out.keep hb)
  replace TB := Lib.hid (TB.out.keep hb)
  replace HL := Lib.hid (HL.out.keep hb)
  replace HK := Lib.hid (HK.out.keep hb)
  replace NN := Lib.hid (NN.out.below hb)
  replace B7 := Lib.hid (B7.out.below hb)
  replace T9 := Lib.hid (T9.out.keep hb)
  replace T11 := Lib.hid (T11.out.keep hb)
  replace B17 := Lib.hid (B17.out.below hb)
  clear hb
  by_cases h16 : Z3 = 0
  case neg =>
    obtain ⟨rfl, rfl⟩ := M4.out h16
    have T19 : Hid (TrAt w67 none 0 []) := tr_nil _
    go_wp2_with fail
    refine (fixes_any _ n c l w67 HL.out (by omega)).mono ?_
    rintro e w68 ⟨Ac, cc, rfl, htc, _, hb⟩
    have TC := Lib.hid htc
    clear htc
    replace HB := Lib.hid (HB.out.trans (hb.mono HB.out.size))
    replace U := Lib.hid (U.out.keep hb)
    replace F := Lib.hid (F.out.keep hb)
    replace TB := Lib.hid (TB.out.keep hb)
    replace HL := Lib.hid (HL.out.keep hb)
    replace HK := Lib.hid (HK.out.keep hb)
    replace NN := Lib.hid (NN.out.below hb)
    replace B7 := Lib.hid (B7.out.below hb)
    replace T9 := Lib.hid (T9.out.keep hb)
    replace T11 := Lib.hid (T11.out.keep hb)
    replace B17 := Lib.hid (B17.out.below hb)
    replace T18 := Lib.hid (T18.out.keep hb)
    replace T19 := Lib.hid (T19.out.keep hb)
    clear hb
    go_wp2_with fail
    refine (CheckTrack_any Ac n cc l w68 TC.out (by omega)).mono ?_
    rw [← HV.out]
    rintro e w69 ⟨rfl, hb⟩
    clear TC
    replace HB := Lib.hid (HB.out.trans (hb.mono HB.out.size))
    replace U := Lib.hid (U.out.keep hb)
    replace F := Lib.hid (F.out.keep hb)
    replace TB := Lib.hid (TB.out.keep hb)
    replace HL := Lib.hid (HL.out.keep hb)
    replace HK := Lib.hid (HK.out.keep hb)
    replace NN := Lib.hid (NN.out.below hb)
    replace B7 := Lib.hid (B7.out.below hb)
    replace T9 := Lib.hid (T9.out.keep hb)
    replace T11 := Lib.hid (T11.out.keep hb)
    replace B17 := Lib.hid (B17.out.below hb)
    replace T18 := Lib.hid (T18.out.keep hb)
    replace T19 := Lib.hid (T19.out.keep hb)
    clear hb
    have X7 : Blk w69 g7 46 #[.int .i64 S.x, .int .i64 S.y, .int .i64 S.z, .int .i64 S.hx, .int .i64 S.hy, .int .i64 S.p] := B7.out
    have X8 : Blk w69 g17 32 #[.int .i64 S.x, .int .i64 S.y, .int .i64 S.z, .int .i64 S.hx, .int .i64 S.hy, .int .i64 S.p] := B17.out
    have ac0 := X7.cell 0; have af0 := X7.frozen 0; have ac1 := X7.cell 1; have af1 := X7.frozen 1; have ac2 := X7.cell 2; have af2 := X7.frozen 2; have ac3 := X7.cell 3; have af3 := X7.frozen 3; have ac4 := X7.cell 4; have af4 := X7.frozen 4; have ac5 := X7.cell 5; have af5 := X7.frozen 5
    simp only [List.getElem?_toArray, List.getElem?_cons_zero, List.getElem?_cons_succ] at ac0 ac1 ac2 ac3 ac4 ac5
    clear X7
    have bc0 := X8.cell 0; have bf0 := X8.frozen 0; have bc1 := X8.cell 1; have bf1 := X8.frozen 1; have bc2 := X8.cell 2; have bf2 := X8.frozen 2; have bc3 := X8.cell 3; have bf3 := X8.frozen 3; have bc4 := X8.cell 4; have bf4 := X8.frozen 4; have bc5 := X8.cell 5; have bf5 := X8.frozen 5
    simp only [List.getElem?_toArray, List.getElem?_cons_zero, List.getElem?_cons_succ] at bc0 bc1 bc2 bc3 bc4 bc5
    clear X8
    have es := fun W => eq_stR S.x S.y S.z S.hx S.hy S.p W
    go_wp2_with fail
    refine (back_any A9 q9 c9 _ w69 T9.out (by rw [← T9.out.1]; have := HRN.out; omega)).mono ?_
    rintro e w70 ⟨Ad, cd, rfl, htd, _, hb⟩
    have TD := Lib.hid htd
    clear htd es ac0 ac1 ac2 ac3 ac4 ac5 bc0 bc1 bc2 bc3 bc4 bc5
    replace HB := Lib.hid (HB.out.trans (hb.mono HB.out.size))
    replace U := Lib.hid (U.out.keep hb)
    replace F := Lib.hid (F.out.keep hb)
    replace TB := Lib.hid (TB.out.keep hb)
    replace HL := Lib.hid (HL.out.keep hb)
    replace HK := Lib.hid (HK.out.keep hb)
    replace NN := Lib.hid (NN.out.below hb)
    replace B7 := Lib.hid (B7.out.below hb)
    replace T9 := Lib.hid (T9.out.keep hb)
    replace T11 := Lib.hid (T11.out.keep hb)
    replace B17 := Lib.hid (B17.out.below hb)
    replace T18 := Lib.hid (T18.out.keep hb)
    replace T19 := Lib.hid (T19.out.keep hb)
    clear hb
    go_wp2_with fail
    refine (refSameTrack_any Ad _ q9 _ cd _ _ _ w70 TD.out T18.out (by rw [← TD.out.1]; have := HRN.out; omega)).mono ?_
    rintro e w71 ⟨⟨b, rfl, hbb⟩, hb⟩
    have hbt : b = true := hbb.2 rfl
    subst hbt
    clear hbb TD
    replace HB := Lib.hid (HB.out.trans (hb.mono HB.out.size))
    replace U := Lib.hid (U.out.keep hb)
    replace F := Lib.hid (F.out.keep hb)
    replace TB := Lib.hid (TB.out.keep hb)
    replace HL := Lib.hid (HL.out.keep hb)
    replace HK := Lib.hid (HK.out.keep hb)
    replace NN := Lib.hid (NN.out.below hb)
    replace B7 := Lib.hid (B7.out.below hb)
    replace T9 := Lib.hid (T9.out.keep hb)
    replace T11 := Lib.hid (T11.out.keep hb)
    replace B17 := Lib.hid (B17.out.below hb)
    replace T18 := Lib.hid (T18.out.keep hb)
    replace T19 := Lib.hid (T19.out.keep hb)
    clear hb
    go_wp2_with fail
    refine (back_any A11 q11 c11 _ w71 T11.out (by rw [← T11.out.1]; have := HJN.out; omega)).mono ?_
    rintro e w72 ⟨Ad, cd, rfl, htd, _, hb⟩
    have TD := Lib.hid htd
    clear htd
    replace HB := Lib.hid (HB.out.trans (hb.mono HB.out.size))
    replace U := Lib.hid (U.out.keep hb)
    replace F := Lib.hid (F.out.keep hb)
    replace TB := Lib.hid (TB.out.keep hb)
    replace HL := Lib.hid (HL.out.keep hb)
    replace HK := Lib.hid (HK.out.keep hb)
    replace NN := Lib.hid (NN.out.below hb)
    replace B7 := Lib.hid (B7.out.below hb)
    replace T9 := Lib.hid (T9.out.keep hb)
    replace T11 := Lib.hid (T11.out.keep hb)
    replace B17 := Lib.hid (B17.out.below hb)
    replace T18 := Lib.hid (T18.out.keep hb)
    replace T19 := Lib.hid (T19.out.keep hb)
    clear hb
    go_wp2_with fail
    refine (refSameTrack_any Ad _ q11 _ cd _ _ _ w72 TD.out T19.out (by rw [← TD.out.1]; have := HJN.out; omega)).mono ?_
    rintro e w73 ⟨⟨b, rfl, hbb⟩, hb⟩
    have hbt : b = true := hbb.2 rfl
    subst hbt
    clear hbb TD
    replace HB := Lib.hid (HB.out.trans (hb.mono HB.out.size))
    replace U := Lib.hid (U.out.keep hb)
    replace F := Lib.hid (F.out.keep hb)
    replace TB := Lib.hid (TB.out.keep hb)
    clear hb
    go_wp2_with fail
    refine (awake2_any w73 U.out F.out TB.out).mono ?_
    rintro e wZ ⟨rfl, hb⟩
    replace HB := Lib.hid (HB.out.trans (hb.mono HB.out.size))
    clear hb
    go_wp2
    go_ret
    exact ⟨rfl, HB.out⟩
  obtain ⟨b1, o1, rfl⟩ := HKK.out h16
  have p3 : firstE [trackE l, trackE k] = 0 := by rw [← HV.out, ← HVK.out, ← HZ3.out]; exact h16
  have hn2 : 0 < n ∧ 0 < m := by
    obtain ⟨p4, p5⟩ := two_zero p3
    have g1 := (goodTr_of p4).lo
    have g2 := (goodTr_of p5).lo
    rw [HL.out.1] at g1
    rw [HK.out.1] at g2
    omega
  obtain ⟨_, _, hea, hfa⟩ := HL.out.2 hn2.1
  cases hea
  obtain ⟨_, _, heb, hfb⟩ := HK.out.2 hn2.2
  cases heb
  go_wp2_with fail
  have hj := tracks_join p3 b0 o0 b1 o1 n m c d w67 hfa hfb
  rw [← HE3.out, ← HJL.out] at hj
  refine hj.mono ?_
  rintro e w74 ⟨A19, q19, c19, rfl, ht19, hb⟩
  have T19 := Lib.hid ht19
  clear ht19 hj hfa hfb hn2 p3
  replace HB := Lib.hid (HB.out.trans (hb.mono HB.out.size))
  replace U := Lib.hid (U.out.keep hb)
  replace F := Lib.hid (F.out.keep hb)
  replace TB := Lib.hid (TB.out.keep hb)
  replace HL := Lib.hid (HL.out.keep hb)
  replace HK := Lib.hid (HK.out.keep hb)
  replace NN := Lib.hid (NN.out.below hb)
  replace B7 := Lib.hid (B7.out.below hb)
  replace T9 := Lib.hid (T9.out.keep hb)
  replace T11 := Lib.hid (T11.out.keep hb)
  replace B17 := Lib.hid (B17.out.below hb)
  replace T18 := Lib.hid (T18.out.keep hb)
  clear hb
  go_wp2_with fail
  refine (fixes_any _ n c l w74 HL.out (by omega)).mono ?_
  rintro e w75 ⟨Ac, cc, rfl, htc, _, hb⟩
  have TC := Lib.hid htc
  clear htc
  replace HB := Lib.hid (HB.out.trans (hb.mono HB.out.size))
  replace U := Lib.hid (U.out.keep hb)
  replace F := Lib.hid (F.out.keep hb)
  replace TB := Lib.hid (TB.out.keep hb)
  replace HL := Lib.hid (HL.out.keep hb)
  replace HK := Lib.hid (HK.out.keep hb)
  replace NN := Lib.hid (NN.out.below hb)
  replace B7 := Lib.hid (B7.out.below hb)
  replace T9 := Lib.hid (T9.out.keep hb)
  replace T11 := Lib.hid (T11.out.keep hb)
  replace B17 := Lib.hid (B17.out.below hb)
  replace T18 := Lib.hid (T18.out.keep hb)
  replace T19 := Lib.hid (T19.out.keep hb)
  clear hb
  go_wp2_with fail
  refine (CheckTrack_any Ac n cc l w75 TC.out (by omega)).mono ?_
  rw [← HV.out]
  rintro e w76 ⟨rfl, hb⟩
  clear TC
  replace HB := Lib.hid (HB.out.trans (hb.mono HB.out.size))
  replace U := Lib.hid (U.out.keep hb)
  replace F := Lib.hid (F.out.keep hb)
  replace TB := Lib.hid (TB.out.keep hb)
  replace HL := Lib.hid (HL.out.keep hb)
  replace HK := Lib.hid (HK.out.keep hb)
  replace NN := Lib.hid (NN.out.below hb)
  replace B7 := Lib.hid (B7.out.below hb)
  replace T9 := Lib.hid (T9.out.keep hb)
  replace T11 := Lib.hid (T11.out.keep hb)
  replace B17 := Lib.hid (B17.out.below hb)
  replace T18 := Lib.hid (T18.out.keep hb)
  replace T19 := Lib.hid (T19.out.keep hb)
  clear hb
  have X7 : Blk w76 g7 46 #[.int .i64 S.x, .int .i64 S.y, .int .i64 S.z, .int .i64 S.hx, .int .i64 S.hy, .int .i64 S.p] := B7.out
  have X8 : Blk w76 g17 32 #[.int .i64 S.x, .int .i64 S.y, .int .i64 S.z, .int .i64 S.hx, .int .i64 S.hy, .int .i64 S.p] := B17.out
  have ac0 := X7.cell 0; have af0 := X7.frozen 0; have ac1 := X7.cell 1; have af1 := X7.frozen 1; have ac2 := X7.cell 2; have af2 := X7.frozen 2; have ac3 := X7.cell 3; have af3 := X7.frozen 3; have ac4 := X7.cell 4; have af4 := X7.frozen 4; have ac5 := X7.cell 5; have af5 := X7.frozen 5
  simp only [List.getElem?_toArray, List.getElem?_cons_zero, List.getElem?_cons_succ] at ac0 ac1 ac2 ac3 ac4 ac5
  clear X7
  have bc0 := X8.cell 0; have bf0 := X8.frozen 0; have bc1 := X8.cell 1; have bf1 := X8.frozen 1; have bc2 := X8.cell 2; have bf2 := X8.frozen 2; have bc3 := X8.cell 3; have bf3 := X8.frozen 3; have bc4 := X8.cell 4; have bf4 := X8.frozen 4; have bc5 := X8.cell 5; have bf5 := X8.frozen 5
  simp only [List.getElem?_toArray, List.getElem?_cons_zero, List.getElem?_cons_succ] at bc0 bc1 bc2 bc3 bc4 bc5
  clear X8
  have es := fun W => eq_stR S.x S.y S.z S.hx S.hy S.p W
  go_wp2_with fail
  refine (back_any A9 q9 c9 _ w76 T9.out (by rw [← T9.out.1]; have := HRN.out; omega)).mono ?_
  rintro e w77 ⟨Ad, cd, rfl, htd, _, hb⟩
  have TD := Lib.hid htd
  clear htd es ac0 ac1 ac2 ac3 ac4 ac5 bc0 bc1 bc2 bc3 bc4 bc5
  replace HB := Lib.hid (HB.out.trans (hb.mono HB.out.size))
  replace U := Lib.hid (U.out.keep hb)
  replace F := Lib.hid (F.out.keep hb)
  replace TB := Lib.hid (TB.out.keep hb)
  replace HL := Lib.hid (HL.out.keep hb)
  replace HK := Lib.hid (HK.out.keep hb)
  replace NN := Lib.hid (NN.out.below hb)
  replace B7 := Lib.hid (B7.out.below hb)
  replace T9 := Lib.hid (T9.out.keep hb)
  replace T11 := Lib.hid (T11.out.keep hb)
  replace B17 := Lib.hid (B17.out.below hb)
  replace T18 := Lib.hid (T18.out.keep hb)
  replace T19 := Lib.hid (T19.out.keep hb)
  clear hb
  go_wp2_with fail
  refine (refSameTrack_any Ad _ q9 _ cd _ _ _ w77 TD.out T18.out (by rw [← TD.out.1]; have := HRN.out; omega)).mono ?_
  rintro e w78 ⟨⟨b, rfl, hbb⟩, hb⟩
  have hbt : b = true := hbb.2 rfl
  subst hbt
  clear hbb TD
  replace HB := Lib.hid (HB.out.trans (hb.mono HB.out.size))
  replace U := Lib.hid (U.out.keep hb)
  replace F := Lib.hid (F.out.keep hb)
  replace TB := Lib.hid (TB.out.keep hb)
  replace HL := Lib.hid (HL.out.keep hb)
  replace HK := Lib.hid (HK.out.keep hb)
  replace NN := Lib.hid (NN.out.below hb)
  replace B7 := Lib.hid (B7.out.below hb)
  replace T9 := Lib.hid (T9.out.keep hb)
  replace T11 := Lib.hid (T11.out.keep hb)
  replace B17 := Lib.hid (B17.out.below hb)
  replace T18 := Lib.hid (T18.out.keep hb)
  replace T19 := Lib.hid (T19.out.keep hb)
  clear hb
  go_wp2_with fail
  refine (back_any A11 q11 c11 _ w78 T11.out (by rw [← T11.out.1]; have := HJN.out; omega)).mono ?_
  rintro e w79 ⟨Ad, cd, rfl, htd, _, hb⟩
  have TD := Lib.hid htd
  clear htd
  replace HB := Lib.hid (HB.out.trans (hb.mono HB.out.size))
  replace U := Lib.hid (U.out.keep hb)
  replace F := Lib.hid (F.out.keep hb)
  replace TB := Lib.hid (TB.out.keep hb)
  replace HL := Lib.hid (HL.out.keep hb)
  replace HK := Lib.hid (HK.out.keep hb)
  replace NN := Lib.hid (NN.out.below hb)
  replace B7 := Lib.hid (B7.out.below hb)
  replace T9 := Lib.hid (T9.out.keep hb)
  replace T11 := Lib.hid (T11.out.keep hb)
  replace B17 := Lib.hid (B17.out.below hb)
  replace T18 := Lib.hid (T18.out.keep hb)
  replace T19 := Lib.hid (T19.out.keep hb)
  clear hb
  go_wp2_with fail
  refine (refSameTrack_any Ad _ q11 _ cd _ _ _ w79 TD.out T19.out (by rw [← TD.out.1]; have := HJN.out; omega)).mono ?_
  rintro e w80 ⟨⟨b, rfl, hbb⟩, hb⟩
  have hbt : b = true := hbb.2 rfl
  subst hbt
  clear hbb TD
  replace HB := Lib.hid (HB.out.trans (hb.mono HB.out.size))
  replace U := Lib.hid (U.out.keep hb)
  replace F := Lib.hid (F.out.keep hb)
  replace TB := Lib.hid (TB.out.keep hb)
  clear hb
  go_wp2_with fail
  refine (awake2_any w80 U.out F.out TB.out).mono ?_
  rintro e wZ ⟨rfl, hb⟩
  replace HB := Lib.hid (HB.out.trans (hb.mono HB.out.size))
  clear hb
  go_wp2
  go_ret
  exact ⟨rfl, HB.out⟩
end Go.Proofs.YtmafmebcgmegeaaGreatDoor
