/- Texts Xl Xm of the proof. -/
import Derived.Test.YtmafmebcgmegeaaGreatDoorWt20
import Derived.Test.YtmafmebcgmegeaaGreatDoorWt17
import Derived.Test.YtmafmebcgmegeaaGreatDoorWt34
namespace Go.Proofs.YtmafmebcgmegeaaGreatDoor
open Go.RowKit Go.Sort
theorem grow_nilF (n : Nat) (h1 : 1 ≤ n) (h2 : n ≤ 100000) (w : World) :
    Calls Tryz.prog 177 #[.slice none 0 0, .int .i64 n] w fun e w' => ∃ v, e = .returned v ∧ OwnT w' w.heap.size v [] ∧ Below w.heap.size w w' := by
  obtain ⟨i0, hi, hz0, hz1, hz2⟩ := info_parts infoFix
  refine (Any8.slices_Grow_grow Tryz.growX i0 _ hi hz0 (by omega) none 0 0 n [] w (Nat.le_refl _) (by omega) (by rw [hz2]; omega) (by omega) (by simp) (fun _ => rfl) (fun a e => by cases e)).mono ?_
  rintro e w' ⟨rfl, rfl⟩
  refine ⟨_, rfl, ?_, ((Below.refl _ w).drew).alloc (Nat.le_refl _) _⟩
  have hg := grownCap_ge w (0 + n) 0 (Tryz.growX_ren.t 25)
  have hm := grownCap_le_maxLen w (0 + n) 0 (Tryz.growX_ren.t 25) (by unfold maxLen; omega)
  unfold OwnT
  refine World.ownsRow_made (w := w.drew) _ _ (Nat.le_refl _) hm ?_
  simp only [Nat.zero_add, Nat.sub_zero] at hg ⊢
  simp [Builtin.zeroCells, Value.cells]
  omega
theorem wpList_append_fixes {ops : Array Oper} {rest : List Oper} {o : Oper} {a : Act} {Q : Exit → Act → World → Prop} {w : World} (hgd : o.guard = none) (s x : Operand)
    (ho : o.op = .call { callee := .builtin .append, args := #[s, x], argTypes := #[67, 67] })
    (base : Nat) (v : Value) (l : List Bell.Fx) (hs : a.eval s = v) (hown : OwnT w base v l) (b off m c : Nat) (l2 : List Bell.Fx) (hx : a.eval x = .slice (some ⟨b, off, none⟩) m c) (h2 : TrAt w (some ⟨b, off, none⟩) m l2)
    (hlen : l.length + m ≤ 100000) (hbase : base ≤ w.heap.size)
    (h : ∀ v' w', OwnT w' base v' (l ++ l2) → w.grownBy w' v.ownBlock → wpList Tryz.prog ops Q rest (a.put o.dst v') w') : wpList Tryz.prog ops Q (o :: rest) a w := by
  obtain ⟨i0, hi, hz0, hz1, hz2⟩ := info_parts infoFix
  refine wpList_append_own w hgd s x 67 ho base 152 i0 (.agg #[.int .i64 0, .int .i64 0, .int .i64 0, .int .i64 0, .int .i64 0]) 5 40 Tryz.underlying67 hi hz0 hz1 hz2 rfl (by decide) v _ _ hs hown ⟨b, off, none⟩ m c (fxCells l2) hx (by rw [fxCells_len, h2.1]) h2.cellsAt ?_ (by unfold maxLen; omega) (by omega) hbase ?_
  · intro u hu
    simp only [fxCells, List.mem_flatMap] at hu
    obtain ⟨p, _, hp⟩ := hu
    simp only [List.mem_cons, List.not_mem_nil, or_false] at hp
    rcases hp with rfl | rfl | rfl | rfl | rfl <;> rfl
  · intro v' w' ho' hg _
    refine h v' w' ?_ hg
    unfold OwnT
    rw [List.length_append, h2.1, show fxCells (l ++ l2) = fxCells l ++ fxCells l2 by simp [fxCells]]
    exact ho'
def catNF (n0 n1 k : Nat) : Nat := if k = 0 then 0 else if k = 1 then n0 else n0 + n1
def catF (X0 X1 : List Bell.Fx) (k : Nat) : List Bell.Fx := if k = 0 then [] else if k = 1 then X0 else X0 ++ X1
set_option maxHeartbeats 4000000 in
set_option maxRecDepth 100000 in
theorem concat2_fixes (b b0 o0 b1 o1 n0 n1 c0 c1 : Nat) (X0 X1 : List Bell.Fx) (w : World) (h0 : w.cell? ⟨b, 0, none⟩ = some (.slice (some ⟨b0, o0, none⟩) n0 c0)) (h1 : w.cell? ⟨b, 1, none⟩ = some (.slice (some ⟨b1, o1, none⟩) n1 c1))
    (hx0 : TrAt w (some ⟨b0, o0, none⟩) n0 X0) (hx1 : TrAt w (some ⟨b1, o1, none⟩) n1 X1) (hn : n0 + n1 ≤ 100000) (hp : 1 ≤ n0 + n1) :
    Calls Tryz.prog 121 #[.slice (some ⟨b, 0, none⟩) 2 2] w fun e w' => ∃ v, e = .returned v ∧ OwnT w' w.heap.size v (X0 ++ X1) ∧ Below w.heap.size w w' := by
  have HX0 := Lib.hid hx0
  have HX1 := Lib.hid hx1
  have hb0 : b < w.heap.size := World.block_lt_of_cell? _ _ h0
  clear hx0 hx1
  go_enter Tryz.func121, Tryz.ntmps121
  go_wp2
  go_loop [3, 5, 11] (fun s _ i => ∃ k : Nat, k ≤ 2 ∧ i = .int .i64 k ∧ s = .int .i64 (catNF n0 n1 k)) (fun _ _ i => 2 - (intOf i).toNat)
  case atStart => exact ⟨0, by omega, rfl, rfl⟩
  case round =>
    obtain ⟨k, hk, rfl, rfl⟩ := hrel
    rcases (show k = 0 ∨ k = 1 ∨ k = 2 by omega) with rfl | rfl | rfl
    · simp only [catNF, if_pos]
      go_wp2
      go_round
      case rel => exact ⟨1, by omega, by go_num, by simp⟩
      case measure => simp [intOf]
    · simp only [catNF, if_neg (show ¬ (1 = 0) by omega), if_pos]
      go_wp2
      go_round
      case rel => exact ⟨2, by omega, by go_num, by simp⟩
      case measure => simp [intOf]
    · simp only [catNF, if_neg (show ¬ (2 = 0) by omega), if_neg (show ¬ (2 = 1) by omega)]
      go_wp2_with fail
      refine (grow_nilF (n0 + n1) hp hn _).mono ?_
      rintro e w1 ⟨v, rfl, hO, hb⟩
      have HO := Lib.hid hO
      have HB := Lib.hid hb
      have hc0 := hb.cell (p := ⟨b, 0, none⟩) hb0
      have hc1 := hb.cell (p := ⟨b, 1, none⟩) hb0
      rw [h0] at hc0
      rw [h1] at hc1
      clear hO hb
      go_wp2
      go_loopw [6, 8, 27] (fun v _ i wr => ∃ k : Nat, k ≤ 2 ∧ i = .int .i64 k ∧ OwnT wr w.heap.size v (catF X0 X1 k) ∧ Below w.heap.size w wr) (fun _ _ i _ => 2 - (intOf i).toNat)
      case atStart => exact ⟨0, by omega, rfl, HO.out, HB.out⟩
      case round =>
        obtain ⟨k, hk, rfl, hown, hb⟩ := hrel
        have HOW := Lib.hid hown
        have HBW := Lib.hid hb
        have g0 := hb.cell (p := ⟨b, 0, none⟩) hb0
        have g1 := hb.cell (p := ⟨b, 1, none⟩) hb0
        rw [h0] at g0
        rw [h1] at g1
        clear hown hb hc0 hc1 h0 h1
        rcases (show k = 0 ∨ k = 1 ∨ k = 2 by omega) with rfl | rfl | rfl
        · go_wp2_with (at_builtin; refine wpList_append_fixes rfl _ _ rfl w.heap.size _ _ rfl HOW.out _ _ _ _ _ rfl (HX0.out.keep HBW.out) (by simp [catF]; omega) HBW.out.size ?_; intro v' w3 hown' hgrow)
          have R : Hid (OwnT w3 w.heap.size v' (catF X0 X1 1)) := hown'
          have B3 : Hid (Below w.heap.size w w3) := Below.grown HBW.out hgrow HBW.out.size (fun j hj => (World.ownsRow.lt HOW.out j hj).1)
          clear hown' hgrow
          go_wp2
          go_roundw
          case rel => exact ⟨1, by omega, by go_num, R.out, B3.out⟩
          case measure => simp [intOf]
        · go_wp2_with (at_builtin; refine wpList_append_fixes rfl _ _ rfl w.heap.size _ _ rfl HOW.out _ _ _ _ _ rfl (HX1.out.keep HBW.out) (by simp [catF]; have := HX0.out.1; omega) HBW.out.size ?_; intro v' w3 hown' hgrow)
          have R : Hid (OwnT w3 w.heap.size v' (catF X0 X1 2)) := hown'
          have B3 : Hid (Below w.heap.size w w3) := Below.grown HBW.out hgrow HBW.out.size (fun j hj => (World.ownsRow.lt HOW.out j hj).1)
          clear hown' hgrow
          go_wp2
          go_roundw
          case rel => exact ⟨2, by omega, by go_num, R.out, B3.out⟩
          case measure => simp [intOf]
        · clear g0 g1
          go_wp2
          go_ret
          exact ⟨_, rfl, HOW.out, HBW.out⟩
/-- What At finds. -/
def atE (l : List Bell.Fx) (k : Int) : Int := if trackE l = 0 then (if k < (Bell.fxAt l 0).t ∨ (Bell.fxAt l (l.length - 1)).t ≤ k then 7 else 0) else trackE l
def atS (l : List Bell.Fx) (k : Int) : Bell.St := if atE l k = 0 then Bell.stAt l k else ⟨0, 0, 0, 0, 0, 0⟩
theorem atS_off {l : List Bell.Fx} {k : Int} (h : atE l k ≠ 0) : atS l k = ⟨0, 0, 0, 0, 0, 0⟩ := if_neg h
theorem atS_on {l : List Bell.Fx} {k : Int} (h : atE l k = 0) : atS l k = Bell.stAt l k := if_pos h
set_option maxHeartbeats 2000000 in
set_option maxRecDepth 100000 in
theorem At_any (A : Option Addr) (n c : Nat) (l : List Bell.Fx) (k : Int) (w : World) (hl : TrAt w A n l) (hn : n ≤ 140737488351232) :
    Calls Tryz.prog 35 #[.slice A n c, .int .i64 k] w fun e w' => e = .returned (.tuple #[.agg (stV (atS l k)), .int .i64 (atE l k)]) ∧ Below w.heap.size w w' := by
  obtain ⟨V, hV⟩ : ∃ V, V = atE l k := ⟨_, rfl⟩
  by_cases hz : V = 0
  · have h0 : trackE l = 0 := by
      rw [hV] at hz
      unfold atE at hz
      split at hz
      · assumption
      · rename_i h; exact absurd hz h
    have hg := goodTr_of h0
    have n2 := hg.lo
    rw [hl.1] at n2
    obtain ⟨b, off, rfl, hf⟩ := hl.2 (by omega)
    have h1 : (Bell.fxAt l 0).t ≤ k ∧ k < (Bell.fxAt l (l.length - 1)).t := by
      rw [hV] at hz
      unfold atE at hz
      rw [if_pos h0] at hz
      split at hz
      · exact absurd hz (by decide)
      · omega
    rw [atS_on (by rw [← hV]; exact hz), ← hV, hz]
    exact At_ok b off n c l k w hf hg h1.1 h1.2
  · rw [atS_off (by rw [← hV]; exact hz), ← hV]
    have HL := Lib.hid hl
    have HZ := Lib.hid hz
    by_cases h0 : trackE l = 0
    · have hg := goodTr_of h0
      have n2 := hg.lo
      rw [hl.1] at n2
      obtain ⟨b, off, rfl, hf⟩ := hl.2 (by omega)
      obtain ⟨m, rfl⟩ : ∃ m, n = m + 1 := ⟨n - 1, by omega⟩
      have hll : l.length - 1 = m := by rw [hl.1]; rfl
      have hr : (k < (Bell.fxAt l 0).t ∨ (Bell.fxAt l m).t ≤ k) ∧ V = 7 := by
        rw [hV] at hz
        rw [hV]
        unfold atE at hz ⊢
        rw [if_pos h0, hll] at hz ⊢
        split
        · rename_i h; exact ⟨h, rfl⟩
        · rename_i h; rw [if_neg h] at hz; exact absurd rfl hz
      obtain ⟨hr, rfl⟩ := hr
      have HC := Lib.hid (fun W (hb : Below w.heap.size w W) => CheckTrack_ok b off (m + 1) c l W (hf.keep hb) hg)
      have HE := Lib.hid (fun W (hb : Below w.heap.size w W) => last_any b off m c l W (hf.keep hb) (by omega))
      have H0 := Lib.hid (fun W (hb : Below w.heap.size w W) => ((hf.keep hb).2 0 (by omega)).1)
      obtain ⟨P, hP⟩ : ∃ P, P = Bell.fxAt l 0 := ⟨_, rfl⟩
      obtain ⟨B, hB⟩ : ∃ B, B = Bell.fxAt l m := ⟨_, rfl⟩
      rw [← hP] at hr H0
      rw [← hB] at hr HE
      have hfl := fix_tick B.t B.x B.y B.z B.p
      clear hl hz hV h0 hg n2 hf hll hP hB HL HZ
      go_enter Tryz.func35, Tryz.ntmps35
      go_upto_region 1 with fail
      obtain ⟨w1, hw1⟩ : ∃ W, W = (w.alloc (.cells #[.int .i64 0, .int .i64 0, .int .i64 0, .int .i64 0, .int .i64 0, .int .i64 0] 46)) := ⟨_, rfl⟩
      rw [← hw1]
      have RZ : Hid (Blk w1 (w.heap.size) 46 #[.int .i64 0, .int .i64 0, .int .i64 0, .int .i64 0, .int .i64 0, .int .i64 0]) := by show Blk _ _ _ _; rw [hw1]; exact Blk.new _ _ _
      have hb : Below w.heap.size w w1 := by rw [hw1]; exact ((Below.refl _ _).alloc (Nat.le_refl _) _)
      obtain ⟨gz, hgz⟩ : ∃ g, g = w.heap.size := ⟨_, rfl⟩
      have HGw1 : Hid (gz = w.heap.size) := hgz
      rw [← hgz] at RZ
      try rw [← hgz]
      clear hw1 hgz
      have HB := Lib.hid hb
      have HG : Hid (w.heap.size ≤ gz) := by show _ ≤ _; rw [HGw1]; exact Nat.le_refl _
      clear hb HGw1
      go_wp2_with fail
      refine (HC.out w1 HB.out).mono ?_
      rintro e w2 ⟨rfl, hb⟩
      replace RZ := Lib.hid (RZ.out.below hb)
      replace HB := Lib.hid (HB.out.trans (hb.mono HB.out.size))
      clear hb HC
      have c0 := H0.out w2 HB.out
      simp only [Nat.zero_mul, Nat.add_zero] at c0
      by_cases h1 : k < P.t
      · clear hr hfl HE H0
        go_wp2_with (refine wpList_store_row rfl 46 _ _ rfl gz (stV ⟨0, 0, 0, 0, 0, 0⟩) rfl rfl 46 _ RZ.out (by kernel_rfl) rfl (by simp [Value.oneCell', stV]) ?_)
        have hlv := (RZ.out.setRow (stV ⟨0, 0, 0, 0, 0, 0⟩)).lv Tryz.prog (T := 46) Tryz.underlying46 rfl (by kernel_rfl)
        refine bodyPost_ret (v := .tuple #[.agg (stV ⟨0, 0, 0, 0, 0, 0⟩), .int .i64 7]) (by simp [results, Tryz.results35, asAddr, hlv]) rfl ?_
        exact ⟨rfl, HB.out.setRow' HG.out _⟩
      · have h2 : B.t ≤ k := hr.resolve_left h1
        clear hr
        go_wp2_with fail
        refine (HE.out w2 HB.out).mono ?_
        rintro e w3 ⟨rfl, hb⟩
        replace RZ := Lib.hid (RZ.out.below hb)
        replace HB := Lib.hid (HB.out.trans (hb.mono HB.out.size))
        clear hb HE H0 c0
        simp only [fxV]
        go_wp2_with (refine wpList_store_row rfl 46 _ _ rfl gz (stV ⟨0, 0, 0, 0, 0, 0⟩) rfl rfl 46 _ RZ.out (by kernel_rfl) rfl (by simp [Value.oneCell', stV]) ?_)
        have hlv := (RZ.out.setRow (stV ⟨0, 0, 0, 0, 0, 0⟩)).lv Tryz.prog (T := 46) Tryz.underlying46 rfl (by kernel_rfl)
        refine bodyPost_ret (v := .tuple #[.agg (stV ⟨0, 0, 0, 0, 0, 0⟩), .int .i64 7]) (by simp [results, Tryz.results35, asAddr, hlv]) rfl ?_
        exact ⟨rfl, HB.out.setRow' HG.out _⟩
    · have hVt : V = trackE l := by rw [hV]; unfold atE; rw [if_neg h0]
      have HVT := Lib.hid hVt
      clear hl hV h0 hVt hz
      go_enter Tryz.func35, Tryz.ntmps35
      go_upto_region 1 with fail
      obtain ⟨w1, hw1⟩ : ∃ W, W = (w.alloc (.cells #[.int .i64 0, .int .i64 0, .int .i64 0, .int .i64 0, .int .i64 0, .int .i64 0] 46)) := ⟨_, rfl⟩
      rw [← hw1]
      have RZ : Hid (Blk w1 (w.heap.size) 46 #[.int .i64 0, .int .i64 0, .int .i64 0, .int .i64 0, .int .i64 0, .int .i64 0]) := by show Blk _ _ _ _; rw [hw1]; exact Blk.new _ _ _
      have hb : Below w.heap.size w w1 := by rw [hw1]; exact ((Below.refl _ _).alloc (Nat.le_refl _) _)
      obtain ⟨gz, hgz⟩ : ∃ g, g = w.heap.size := ⟨_, rfl⟩
      have HGw1 : Hid (gz = w.heap.size) := hgz
      rw [← hgz] at RZ
      try rw [← hgz]
      clear hw1 hgz
      have HB := Lib.hid hb
      have HG : Hid (w.heap.size ≤ gz) := by show _ ≤ _; rw [HGw1]; exact Nat.le_refl _
      replace HL := Lib.hid (HL.out.keep hb)
      clear hb HGw1
      go_wp2_with fail
      refine (CheckTrack_any A n c l w1 HL.out hn).mono ?_
      rw [← HVT.out]
      rintro e w2 ⟨rfl, hb⟩
      replace RZ := Lib.hid (RZ.out.below hb)
      replace HB := Lib.hid (HB.out.trans (hb.mono HB.out.size))
      clear hb HL HVT
      have hz := HZ.out
      go_wp2_with (refine wpList_store_row rfl 46 _ _ rfl gz (stV ⟨0, 0, 0, 0, 0, 0⟩) rfl rfl 46 _ RZ.out (by kernel_rfl) rfl (by simp [Value.oneCell', stV]) ?_)
      have hlv := (RZ.out.setRow (stV ⟨0, 0, 0, 0, 0, 0⟩)).lv Tryz.prog (T := 46) Tryz.underlying46 rfl (by kernel_rfl)
      refine bodyPost_ret (v := .tuple #[.agg (stV ⟨0, 0, 0, 0, 0, 0⟩), .int .i64 V]) (by simp [results, Tryz.results35, asAddr, hlv]) rfl ?_
      exact ⟨rfl, HB.out.setRow' HG.out _⟩
end Go.Proofs.YtmafmebcgmegeaaGreatDoor

namespace Go.Proofs.YtmafmebcgmegeaaGreatDoor
open Go.RowKit Go.Sort
set_option maxHeartbeats 1000000 in
set_option maxRecDepth 100000 in
theorem checkLasting_wide (b off n c : Nat) (l : List Bell.Fx) (w : World) (hl : FixesAt w b off n l) (hn0 : 0 < n) (hm : n ≤ 100) (hg : ∀ i, i < l.length → 0 ≤ (Bell.fxAt l i).t ∧ (Bell.fxAt l i).t ≤ 100000000) :
    Calls Tryz.prog 123 #[.slice (some ⟨b, off, none⟩) n c] w fun e w' => e = .returned (.int .i64 (lastE l)) ∧ Below w.heap.size w w' := by
  have hn := hl.1
  obtain ⟨m, rfl⟩ : ∃ m, n = m + 1 := ⟨n - 1, by omega⟩
  have gm := hg m (by omega)
  have g0 := hg 0 (by omega)
  have cL := fun d os => Calls.regrown_of (last_any b off m c l (grow (redrawn w d) os) (hl.keep (below_regrown w d os)) (by omega))
  have a0 := fun d os => cell_regrown (hl.2 0 (by omega)).1 d os
  obtain ⟨V, hV⟩ : ∃ V, V = lastE l := ⟨_, rfl⟩
  have HV : Hid (V = if 1000 < (Bell.fxAt l m).t - (Bell.fxAt l 0).t then 14 else 0) := by show _ = _; rw [hV]; unfold lastE; rw [hn, Nat.add_sub_cancel]
  rw [← hV]
  obtain ⟨A, hA⟩ : ∃ A, A = Bell.fxAt l 0 := ⟨_, rfl⟩
  obtain ⟨B, hB⟩ : ∃ B, B = Bell.fxAt l m := ⟨_, rfl⟩
  rw [← hA] at g0 a0 HV
  rw [← hB] at gm cL HV
  obtain ⟨b1, b2⟩ := gm
  obtain ⟨a1, a2⟩ := g0
  have bw := fun d os => below_regrown w d os
  have w1 : IntKind.i64.wrap (B.t - A.t) = B.t - A.t := IntWalk.i64_in _ (by omega)
  simp only [Nat.zero_mul, Nat.add_zero] at a0
  clear hl hg hn hA hB b1 b2 a1 a2 hV
  have hfl := fix_tick B.t B.x B.y B.z B.p
  simp only [fxV] at cL
  by_cases hd0 : 1000 < B.t - A.t
  · have hd : decide (1000 < B.t - A.t) = true := decide_eq_true hd0
    have hr : Hid (V = 14) := by show _ = _; rw [HV.out, if_pos hd0]
    go_enter Tryz.func123, Tryz.ntmps123
    go_upto_region 1 with fail
    refine wp_region_quiet_below (by kernel_rfl) (by kernel_rfl) ?_
    quiet_step (fail)
    quiet_step (exact cL _ _)
    repeat (quiet_step (fail))
    refine wpQuiet_nil ?_
    intro _ hw'
    obtain ⟨⟨dq, osq⟩, hw''⟩ := hw'
    subst hw''
    have HB := Lib.hid (bw dq osq)
    clear bw a0 cL
    go_wp2
    go_ret
    exact ⟨ret_int hr.out.symm, HB.out⟩
  · have hd : decide (1000 < B.t - A.t) = false := decide_eq_false hd0
    have hr : Hid (V = 0) := by show _ = _; rw [HV.out, if_neg hd0]
    go_enter Tryz.func123, Tryz.ntmps123
    go_upto_region 1 with fail
    refine wp_region_quiet_below (by kernel_rfl) (by kernel_rfl) ?_
    quiet_step (fail)
    quiet_step (exact cL _ _)
    repeat (quiet_step (fail))
    refine wpQuiet_nil ?_
    intro _ hw'
    obtain ⟨⟨dq, osq⟩, hw''⟩ := hw'
    subst hw''
    have HB := Lib.hid (bw dq osq)
    clear bw a0 cL
    go_wp2
    go_ret
    exact ⟨ret_int hr.out.symm, HB.out⟩
/-- What Repaired finds. -/
def repE (l : List Bell.Fx) (v : Int) : Int := if trackE l = 0 then (if withinE v 1 1000 = 0 then (if (Bell.repair v l).length < 2 then 16 else 0) else withinE v 1 1000) else trackE l
def repL (l : List Bell.Fx) (v : Int) : List Bell.Fx := if repE l v = 0 then Bell.repair v l else []
theorem firstE_n1 {x y : Int} (h : x ≠ 0) : firstE [x, y] = x := by unfold firstE; rw [if_neg h]
theorem firstE_0 {y : Int} : firstE [0, y] = y := firstE_02 y
theorem tr_nil (w : World) : TrAt w none 0 [] := ⟨rfl, fun h => by omega⟩
set_option maxHeartbeats 2000000 in
set_option maxRecDepth 100000 in
theorem Repaired_gen (A : Option Addr) (n c : Nat) (l : List Bell.Fx) (v : Int) (w : World) (hl : TrAt w A n l) (hn : n ≤ 140737488351232) (hcap : n ≤ c) (hc2 : c ≤ 9223372036854775807) :
    Calls Tryz.prog 37 #[.slice A n c, .int .i64 v] w fun e w' => ∃ A' m c', e = .returned (.tuple #[.slice A' m c', .int .i64 (repE l v)]) ∧ TrAt w' A' m (repL l v) ∧ m ≤ 100000 ∧ Below w.heap.size w w' := by
  by_cases h0 : trackE l = 0
  · have hg := goodTr_of h0
    have n2 := hg.lo
    have n3 := hg.hi
    have hrl := repair_len v l
    rw [hl.1] at n2
    obtain ⟨b, off, rfl, hf⟩ := hl.2 (by omega)
    refine (Repaired_any b off n c l v w hf hg hcap hc2).mono ?_
    rintro e w' ⟨hr, hb⟩
    by_cases h1 : withinE v 1 1000 = 0
    · by_cases h2 : (Bell.repair v l).length < 2
      · have hE : repE l v = 16 := by unfold repE; rw [if_pos h0, if_pos h1, if_pos h2]
        have hL : repL l v = [] := by unfold repL; rw [hE]; rfl
        refine ⟨none, 0, 0, by rw [hE]; exact (hr.2 h1).1 h2, by rw [hL]; exact tr_nil _, by omega, hb⟩
      · have hE : repE l v = 0 := by unfold repE; rw [if_pos h0, if_pos h1, if_neg h2]
        have hL : repL l v = Bell.repair v l := by unfold repL; rw [if_pos hE]
        obtain ⟨g, he, hf2⟩ := (hr.2 h1).2 (by omega)
        exact ⟨_, _, _, by rw [hE]; exact he, by rw [hL]; exact ⟨rfl, fun _ => ⟨g, 0, rfl, hf2⟩⟩, by omega, hb⟩
    · have hE : repE l v = withinE v 1 1000 := by unfold repE; rw [if_pos h0, if_neg h1]
      have hL : repL l v = [] := by unfold repL; rw [hE, if_neg h1]
      exact ⟨none, 0, 0, by rw [hE]; exact hr.1 h1, by rw [hL]; exact tr_nil _, by omega, hb⟩
  · have hE : repE l v = trackE l := by unfold repE; rw [if_neg h0]
    have hL : repL l v = [] := by unfold repL; rw [hE, if_neg h0]
    rw [hE, hL]
    obtain ⟨V, hV⟩ : ∃ V, V = trackE l := ⟨_, rfl⟩
    rw [← hV] at h0 ⊢
    have HL := Lib.hid hl
    have HV := Lib.hid hV
    obtain ⟨E, hEE⟩ : ∃ E, E = withinE v 1 1000 := ⟨_, rfl⟩
    have HE := Lib.hid hEE
    clear hl hV hE hL hEE hcap hc2
    go_enter Tryz.func37, Tryz.ntmps37
    go_wp2_with fail
    refine (CheckTrack_any A n c l w HL.out hn).mono ?_
    rw [← HV.out]
    rintro e w1 ⟨rfl, hb⟩
    have HB := Lib.hid hb
    clear hb
    go_wp2_with fail
    refine (srcSpeed_st v w1).mono ?_
    rw [← HE.out]
    rintro e w2 ⟨rfl, hw⟩
    subst hw
    go_wp2_with fail
    obtain ⟨w3, hw3⟩ : ∃ W, W = (w2.alloc (.cells #[.int .i64 V, .int .i64 E] 37)) := ⟨_, rfl⟩
    rw [← hw3]
    have ES : Hid (Blk w3 (w2.heap.size) 37 #[.int .i64 V, .int .i64 E]) := by show Blk _ _ _ _; rw [hw3]; exact Blk.new _ _ _
    have hb : Below w2.heap.size w2 w3 := by rw [hw3]; exact ((Below.refl _ _).alloc (Nat.le_refl _) _)
    obtain ⟨ge, hge⟩ : ∃ g, g = w2.heap.size := ⟨_, rfl⟩
    have HGw3 : Hid (ge = w2.heap.size) := hge
    rw [← hge] at ES
    try rw [← hge]
    clear hw3 hge
    replace HB := Lib.hid (HB.out.trans (hb.mono HB.out.size))
    clear hb HGw3
    refine (first2 _ _ V E _ (ES.out.cell 0) (ES.out.cell 1)).mono ?_
    rw [firstE_n1 h0]
    rintro e w4 ⟨rfl, rfl⟩
    clear ES
    go_wp2
    (try simp only [Exit.inBlock, Exit.then])
    refine bodyPost_ret (v := .tuple #[.slice none 0 0, .int .i64 V]) (by simp [results, Tryz.results37, go_sem, asAddr]) rfl ?_
    exact ⟨none, 0, 0, rfl, tr_nil _, by omega, HB.out⟩
/-- What Joined finds. -/
def joE (l k : List Bell.Fx) : Int := if firstE [trackE l, trackE k] = 0 then (if (Bell.fxAt k 0).t ≤ (Bell.fxAt l (l.length - 1)).t then 11 else firstE [atMostE (l ++ k).length 16, lastE (l ++ k)]) else firstE [trackE l, trackE k]
def joL (l k : List Bell.Fx) : List Bell.Fx := if joE l k = 0 then l ++ k else []
theorem fxAt_left {l k : List Bell.Fx} {i : Nat} (h : i < l.length) : Bell.fxAt (l ++ k) i = Bell.fxAt l i := by
  unfold Bell.fxAt
  rw [List.getD_eq_getElem?_getD, List.getElem?_append_left h, ← List.getD_eq_getElem?_getD]
theorem fxAt_right {l k : List Bell.Fx} {i : Nat} : Bell.fxAt (l ++ k) (l.length + i) = Bell.fxAt k i := by
  unfold Bell.fxAt
  rw [List.getD_eq_getElem?_getD, List.getElem?_append_right (by omega), ← List.getD_eq_getElem?_getD, Nat.add_sub_cancel_left]
set_option maxHeartbeats 2000000 in
set_option maxRecDepth 100000 in
theorem Joined_any (A B : Option Addr) (n m c d : Nat) (l k : List Bell.Fx) (w : World) (hl : TrAt w A n l) (hk : TrAt w B m k) (hn : n ≤ 140737488351232) (hm : m ≤ 140737488351232) :
    Calls Tryz.prog 38 #[.slice A n c, .slice B m d] w fun e w' => ∃ A' q c', e = .returned (.tuple #[.slice A' q c', .int .i64 (joE l k)]) ∧ TrAt w' A' q (joL l k) ∧ q ≤ 100000 ∧ Below w.heap.size w w' := by
  have HL := Lib.hid hl
  have HK := Lib.hid hk
  obtain ⟨J, hJ⟩ : ∃ J, J = joE l k := ⟨_, rfl⟩
  obtain ⟨JL, hJL⟩ : ∃ J, J = joL l k := ⟨_, rfl⟩
  rw [← hJ, ← hJL]
  have HJ := Lib.hid hJ
  have HJL := Lib.hid hJL
  have HB : Hid (Below w.heap.size w w) := Below.refl _ _
  obtain ⟨V, hV⟩ : ∃ V, V = trackE l := ⟨_, rfl⟩
  obtain ⟨E, hE⟩ : ∃ E, E = trackE k := ⟨_, rfl⟩
  have HV := Lib.hid hV
  have HE := Lib.hid hE
  clear hl hk hJ hJL hV hE
  go_enter Tryz.func38, Tryz.ntmps38
  go_wp2_with fail
  refine (CheckTrack_any A n c l w HL.out hn).mono ?_
  rw [← HV.out]
  rintro e w1 ⟨rfl, hb⟩
  replace HB := Lib.hid (HB.out.trans (hb.mono HB.out.size))
  replace HL := Lib.hid (HL.out.keep hb)
  replace HK := Lib.hid (HK.out.keep hb)
  clear hb
  go_wp2_with fail
  refine (CheckTrack_any B m d k w1 HK.out hm).mono ?_
  rw [← HE.out]
  rintro e w2 ⟨rfl, hb⟩
  replace HB := Lib.hid (HB.out.trans (hb.mono HB.out.size))
  replace HL := Lib.hid (HL.out.keep hb)
  replace HK := Lib.hid (HK.out.keep hb)
  clear hb
  go_wp2_with fail
  obtain ⟨w3, hw3⟩ : ∃ W, W = (w2.alloc (.cells #[.int .i64 V, .int .i64 E] 37)) := ⟨_, rfl⟩
  rw [← hw3]
  have ES : Hid (Blk w3 (w2.heap.size) 37 #[.int .i64 V, .int .i64 E]) := by show Blk _ _ _ _; rw [hw3]; exact Blk.new _ _ _
  have hb : Below w2.heap.size w2 w3 := by rw [hw3]; exact ((Below.refl _ _).alloc (Nat.le_refl _) _)
  obtain ⟨ge, hge⟩ : ∃ g, g = w2.heap.size := ⟨_, rfl⟩
  have HGw3 : Hid (ge = w2.heap.size) := hge
  rw [← hge] at ES
  try rw [← hge]
  clear hw3 hge
  clear HGw3
  replace HB := Lib.hid (HB.out.trans (hb.mono HB.out.size))
  replace HL := Lib.hid (HL.out.keep hb)
  replace HK := Lib.hid (HK.out.keep hb)
  clear hb
  obtain ⟨Z, hZ⟩ : ∃ Z, Z = firstE [V, E] := ⟨_, rfl⟩
  have HZ := Lib.hid hZ
  clear hZ
  refine (first2 _ _ V E _ (ES.out.cell 0) (ES.out.cell 1)).mono ?_
  rw [← HZ.out]
  rintro e w4 ⟨rfl, rfl⟩
  clear ES
  by_cases h0 : Z = 0
  case neg =>
    have hr : Hid (J = Z ∧ JL = []) := by
      have h1 := HZ.out
      have h2 : firstE [trackE l, trackE k] ≠ 0 := by rw [← HV.out, ← HE.out, ← h1]; exact h0
      have e1 : joE l k = Z := by unfold joE; rw [if_neg h2, h1, HV.out, HE.out]
      refine ⟨HJ.out.trans e1, ?_⟩
      rw [HJL.out]; unfold joL; rw [e1, if_neg h0]
    go_wp2
    (try simp only [Exit.inBlock, Exit.then])
    refine bodyPost_ret (v := .tuple #[.slice none 0 0, .int .i64 Z]) (by simp [results, Tryz.results38, go_sem, asAddr]) rfl ?_
    exact ⟨none, 0, 0, by rw [hr.out.1], by rw [hr.out.2]; exact tr_nil _, by omega, HB.out⟩
  have hz : firstE [trackE l, trackE k] = 0 := by rw [← HV.out, ← HE.out, ← HZ.out]; exact h0
  have hga := goodTr_of (firstE_zero hz (trackE l) (by simp))
  have hgb := goodTr_of (firstE_zero hz (trackE k) (by simp))
  have HGA := Lib.hid hga
  have HGB := Lib.hid hgb
  have HZZ := Lib.hid hz
  subst h0
  have a1 := hga.lo; have a2 := hga.hi; have b1 := hgb.lo; have b2 := hgb.hi
  rw [HL.out.1] at a1 a2
  rw [HK.out.1] at b1 b2
  obtain ⟨b0, o0, rfl, hfl⟩ := HL.out.2 (by omega)
  obtain ⟨d0, p0, rfl, hfk⟩ := HK.out.2 (by omega)
  obtain ⟨n', rfl⟩ : ∃ n', n = n' + 1 := ⟨n - 1, by omega⟩
  have cL := fun d os => Calls.regrown_of (last_any b0 o0 n' c l (grow (redrawn w3 d) os) (hfl.keep (below_regrown w3 d os)) (by omega))
  have a0 := fun d os => cell_regrown (hfk.2 0 (by omega)).1 d os
  simp only [Nat.zero_mul, Nat.add_zero] at a0
  obtain ⟨P, hP⟩ : ∃ P, P = Bell.fxAt l n' := ⟨_, rfl⟩
  obtain ⟨Q, hQ⟩ : ∃ Q, Q = Bell.fxAt k 0 := ⟨_, rfl⟩
  rw [← hP] at cL
  rw [← hQ] at a0
  have HP : Hid (P = Bell.fxAt l (l.length - 1)) := by show _ = _; rw [HL.out.1, Nat.add_sub_cancel]; exact hP
  have HQ := Lib.hid hQ
  have hflt := fix_tick P.t P.x P.y P.z P.p
  simp only [fxV] at cL
  have bw := fun d os => below_regrown w3 d os
  have pz : 0 < m := by omega
  have hnm : n' + 1 + m ≤ 40 := by omega
  have hn1 : 2 ≤ n' + 1 := a1
  have hm1 : 2 ≤ m := b1
  clear hga hgb hz a1 a2 b1 b2 hfl hfk hP hQ HZ HV HE
  by_cases hle : Q.t ≤ P.t
  · have hr : Hid (J = 11 ∧ JL = []) := by
      have e1 : joE l k = 11 := by unfold joE; rw [if_pos HZZ.out, ← HP.out, ← HQ.out, if_pos hle]
      refine ⟨HJ.out.trans e1, ?_⟩
      rw [HJL.out]; unfold joL; rw [e1]; rfl
    go_upto_region 4 with fail
    refine wp_region_quiet_below (by kernel_rfl) (by kernel_rfl) ?_
    quiet_step (fail)
    quiet_step (fail)
    quiet_step (fail)
    quiet_step (fail)
    quiet_step (fail)
    quiet_step (exact cL _ _)
    repeat (quiet_step (fail))
    refine wpQuiet_nil ?_
    intro _ hw'
    obtain ⟨⟨dq, osq⟩, hw''⟩ := hw'
    subst hw''
    have HBQ := Lib.hid (HB.out.trans ((bw dq osq).mono HB.out.size))
    clear bw a0 cL
    go_wp2
    (try simp only [Exit.inBlock, Exit.then])
    refine bodyPost_ret (v := .tuple #[.slice none 0 0, .int .i64 11]) (by simp [results, Tryz.results38, go_sem, asAddr]) rfl ?_
    exact ⟨none, 0, 0, by rw [hr.out.1], by rw [hr.out.2]; exact tr_nil _, by omega, HBQ.out⟩
  · have HJ2 : Hid (J = firstE [atMostE (l ++ k).length 16, lastE (l ++ k)]) := by
      show _ = _
      rw [HJ.out]; unfold joE; rw [if_pos HZZ.out, ← HP.out, ← HQ.out, if_neg hle]
    go_upto_region 4 with fail
    refine wp_region_quiet_below (by kernel_rfl) (by kernel_rfl) ?_
    quiet_step (fail)
    quiet_step (fail)
    quiet_step (fail)
    quiet_step (fail)
    quiet_step (fail)
    quiet_step (exact cL _ _)
    repeat (quiet_step (fail))
    refine wpQuiet_nil ?_
    intro _ hw'
    obtain ⟨⟨dq, osq⟩, hw''⟩ := hw'
    subst hw''
    obtain ⟨w5, hw5⟩ : ∃ W, W = grow (redrawn w3 dq) osq := ⟨_, rfl⟩
    rw [← hw5]
    have hb := bw dq osq
    rw [← hw5] at hb
    clear bw a0 cL hw5 HP HQ
    replace HB := Lib.hid (HB.out.trans (hb.mono HB.out.size))
    replace HL := Lib.hid (HL.out.keep hb)
    replace HK := Lib.hid (HK.out.keep hb)
    clear hb
    go_wp2_with fail
    obtain ⟨w6, hw6⟩ : ∃ W, W = (w5.alloc (.cells #[.slice (some ⟨b0, o0, none⟩) (n' + 1) c, .slice (some ⟨d0, p0, none⟩) m d] 67)) := ⟨_, rfl⟩
    rw [← hw6]
    have SB : Hid (Blk w6 (w5.heap.size) 67 #[.slice (some ⟨b0, o0, none⟩) (n' + 1) c, .slice (some ⟨d0, p0, none⟩) m d]) := by show Blk _ _ _ _; rw [hw6]; exact Blk.new _ _ _
    have hb : Below w5.heap.size w5 w6 := by rw [hw6]; exact ((Below.refl _ _).alloc (Nat.le_refl _) _)
    obtain ⟨gb, hgb⟩ : ∃ g, g = w5.heap.size := ⟨_, rfl⟩
    have HGw6 : Hid (gb = w5.heap.size) := hgb
    rw [← hgb] at SB
    try rw [← hgb]
    clear hw6 hgb
    clear HGw6 hle
    replace HB := Lib.hid (HB.out.trans (hb.mono HB.out.size))
    replace HL := Lib.hid (HL.out.keep hb)
    replace HK := Lib.hid (HK.out.keep hb)
    clear hb
    refine (concat2_fixes gb b0 o0 d0 p0 (n' + 1) m c d l k w6 (SB.out.cell 0) (SB.out.cell 1) HL.out HK.out (by omega) (by omega)).mono ?_
    rintro e w7 ⟨v, rfl, hO, hb⟩
    have hlen : (l ++ k).length = n' + 1 + m := by rw [List.length_append, HL.out.1, HK.out.1]
    obtain ⟨A7, c7, rfl, htr, _⟩ := OwnT.at_ hO
    have HTR := Lib.hid htr
    obtain ⟨g7, o7, rfl, hf7⟩ := htr.2 (by omega)
    have HF7 := Lib.hid hf7
    have HLN := Lib.hid hlen
    have HGX : Hid (∀ i, i < (l ++ k).length → 0 ≤ (Bell.fxAt (l ++ k) i).t ∧ (Bell.fxAt (l ++ k) i).t ≤ 100000000) := fun i hi => by
      rcases Nat.lt_or_ge i l.length with h | h
      · rw [fxAt_left h]; exact ⟨(HGA.out.pts i h).t0, (HGA.out.pts i h).t1⟩
      · obtain ⟨j, rfl⟩ : ∃ j, i = l.length + j := ⟨i - l.length, by omega⟩
        rw [fxAt_right]
        have hj : j < k.length := by rw [List.length_append] at hi; omega
        exact ⟨(HGB.out.pts j hj).t0, (HGB.out.pts j hj).t1⟩
    clear hO htr hf7 hlen SB
    replace HB := Lib.hid (HB.out.trans (hb.mono HB.out.size))
    clear hb HL HK
    obtain ⟨N, hN⟩ : ∃ N, N = (l ++ k).length := ⟨_, rfl⟩
    rw [← hN] at HTR HF7 HLN ⊢
    have hN40 : N ≤ 100 := by have := HLN.out; omega
    have hN0 : 0 < N := by have := HLN.out; omega
    have HN := Lib.hid hN
    clear hN
    go_wp2_with fail
    refine (atMost_fixE _ N c7 16 w7).mono ?_
    obtain ⟨X, hX⟩ : ∃ X, X = atMostE N 16 := ⟨_, rfl⟩
    rw [← hX]
    have HX := Lib.hid hX
    clear hX
    rintro e w8 ⟨rfl, hw⟩
    subst hw
    go_wp2_with fail
    refine (checkLasting_wide g7 o7 N c7 (l ++ k) w8 HF7.out hN0 hN40 HGX.out).mono ?_
    obtain ⟨Y, hY⟩ : ∃ Y, Y = lastE (l ++ k) := ⟨_, rfl⟩
    rw [← hY]
    have HY := Lib.hid hY
    clear hY
    rintro e w9 ⟨rfl, hb⟩
    replace HB := Lib.hid (HB.out.trans (hb.mono HB.out.size))
    replace HTR := Lib.hid (HTR.out.keep hb)
    clear hb
    go_wp2_with fail
    obtain ⟨wA, hwA⟩ : ∃ W, W = (w9.alloc (.cells #[.int .i64 X, .int .i64 Y] 37)) := ⟨_, rfl⟩
    rw [← hwA]
    have ES : Hid (Blk wA (w9.heap.size) 37 #[.int .i64 X, .int .i64 Y]) := by show Blk _ _ _ _; rw [hwA]; exact Blk.new _ _ _
    have hb : Below w9.heap.size w9 wA := by rw [hwA]; exact ((Below.refl _ _).alloc (Nat.le_refl _) _)
    obtain ⟨ge2, hge2⟩ : ∃ g, g = w9.heap.size := ⟨_, rfl⟩
    have HGwA : Hid (ge2 = w9.heap.size) := hge2
    rw [← hge2] at ES
    try rw [← hge2]
    clear hwA hge2
    clear HGwA
    replace HB := Lib.hid (HB.out.trans (hb.mono HB.out.size))
    replace HTR := Lib.hid (HTR.out.keep hb)
    clear hb
    have HJ3 : Hid (J = firstE [X, Y]) := by show _ = _; rw [HJ2.out, HX.out, HY.out, HN.out]
    refine (first2 _ _ X Y _ (ES.out.cell 0) (ES.out.cell 1)).mono ?_
    rw [← HJ3.out]
    rintro e wB ⟨rfl, rfl⟩
    clear ES
    by_cases h0 : J = 0
    · have hr : Hid (JL = l ++ k) := by show _ = _; rw [HJL.out]; unfold joL; rw [if_pos (by rw [← HJ.out]; exact h0)]
      go_wp2
      (try simp only [Exit.inBlock, Exit.then])
      refine bodyPost_ret (v := .tuple #[.slice (some ⟨g7, o7, none⟩) N c7, .int .i64 0]) (by simp [results, Tryz.results38, go_sem, asAddr]) rfl ?_
      exact ⟨_, N, c7, by rw [h0], by rw [hr.out]; exact HTR.out, by omega, HB.out⟩
    · have hr : Hid (JL = []) := by show _ = _; rw [HJL.out]; unfold joL; rw [if_neg (by rw [← HJ.out]; exact h0)]
      go_wp2
      (try simp only [Exit.inBlock, Exit.then])
      refine bodyPost_ret (v := .tuple #[.slice none 0 0, .int .i64 J]) (by simp [results, Tryz.results38, go_sem, asAddr]) rfl ?_
      exact ⟨none, 0, 0, rfl, by rw [hr.out]; exact tr_nil _, by omega, HB.out⟩
end Go.Proofs.YtmafmebcgmegeaaGreatDoor
