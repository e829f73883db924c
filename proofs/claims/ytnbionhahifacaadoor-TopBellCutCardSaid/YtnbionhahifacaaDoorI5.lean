/- Tracks in memory; the segment of a tick. -/
import Derived.Test.YtnbionhahifacaaDoorI3
import Derived.Test.YtnbionhahifacaaDoorIa
import Derived.WalkMore
import Derived.Deep.Cut
namespace Go.Proofs.YtnbionhahifacaaDoor
open Go.RowKit Go.Sort

def fxV (a : Bell.Fx) : Array Value := #[.int .i64 a.t, .int .i64 a.x, .int .i64 a.y, .int .i64 a.z, .int .i64 a.p]
/-- A point of a track lies in five cells. -/
def FixAt (w : World) (b o : Nat) (a : Bell.Fx) : Prop :=
  w.cell? ⟨b, o, none⟩ = some (.int .i64 a.t) ∧ w.cell? ⟨b, o + 1, none⟩ = some (.int .i64 a.x) ∧ w.cell? ⟨b, o + 2, none⟩ = some (.int .i64 a.y) ∧ w.cell? ⟨b, o + 3, none⟩ = some (.int .i64 a.z) ∧ w.cell? ⟨b, o + 4, none⟩ = some (.int .i64 a.p)
/-- A slice of points reads as a track. -/
def FixesAt (w : World) (b off n : Nat) (l : List Bell.Fx) : Prop := l.length = n ∧ ∀ i, i < n → FixAt w b (off + i * 5) (Bell.fxAt l i)
theorem FixAt.keep {w w' : World} {b o : Nat} {a : Bell.Fx} (h : FixAt w b o a) (hb : Below w.heap.size w w') : FixAt w' b o a := by
  obtain ⟨h0, h1, h2, h3, h4⟩ := h
  have k : ∀ {j : Nat} {v : Value}, w.cell? ⟨b, j, none⟩ = some v → w'.cell? ⟨b, j, none⟩ = some v := fun {j v} hc => by
    rw [hb.cell (p := ⟨b, j, none⟩) (World.block_lt_of_cell? _ _ hc)]; exact hc
  exact ⟨k h0, k h1, k h2, k h3, k h4⟩
theorem FixesAt.keep {w w' : World} {b off n : Nat} {l : List Bell.Fx} (h : FixesAt w b off n l) (hb : Below w.heap.size w w') : FixesAt w' b off n l :=
  ⟨h.1, fun i hi => (h.2 i hi).keep hb⟩
theorem FixAt.lv {w : World} {b o : Nat} {a : Bell.Fx} (h : FixAt w b o a) : (loadVar 68 ⟨b, o, none⟩).run Tryd.prog w = .ok (.agg (fxV a)) w := by
  obtain ⟨h0, h1, h2, h3, h4⟩ := h
  simp [fxV, go_sem, h0, h1, h2, h3, h4]

theorem Blk.set5 {w : World} {g : Nat} {t : TypeId} {a0 a1 a2 a3 a4 : Value} (h : Blk w g t #[a0, a1, a2, a3, a4]) (b0 b1 b2 b3 b4 : Value) : Blk (((((w.setCell ⟨g, 0, none⟩ b0).setCell ⟨g, 1, none⟩ b1).setCell ⟨g, 2, none⟩ b2).setCell ⟨g, 3, none⟩ b3).setCell ⟨g, 4, none⟩ b4) g t #[b0, b1, b2, b3, b4] :=
  ((((h.set_ 0 b0).set_ 1 b1).set_ 2 b2).set_ 3 b3).set_ 4 b4
theorem Blk.far5 {w : World} {g k : Nat} {t : TypeId} {cs : Array Value} (h : Blk w g t cs) (hne : g ≠ k) (b0 b1 b2 b3 b4 : Value) : Blk (((((w.setCell ⟨k, 0, none⟩ b0).setCell ⟨k, 1, none⟩ b1).setCell ⟨k, 2, none⟩ b2).setCell ⟨k, 3, none⟩ b3).setCell ⟨k, 4, none⟩ b4) g t cs :=
  ((((h.far (p := ⟨k, 0, none⟩) hne b0).far (p := ⟨k, 1, none⟩) hne b1).far (p := ⟨k, 2, none⟩) hne b2).far (p := ⟨k, 3, none⟩) hne b3).far (p := ⟨k, 4, none⟩) hne b4
theorem Below.set5 {B : Nat} {a w : World} {k : Nat} (h : Below B a w) (hk : B ≤ k) (b0 b1 b2 b3 b4 : Value) : Below B a (((((w.setCell ⟨k, 0, none⟩ b0).setCell ⟨k, 1, none⟩ b1).setCell ⟨k, 2, none⟩ b2).setCell ⟨k, 3, none⟩ b3).setCell ⟨k, 4, none⟩ b4) :=
  ((((h.setCell (p := ⟨k, 0, none⟩) hk b0).setCell (p := ⟨k, 1, none⟩) hk b1).setCell (p := ⟨k, 2, none⟩) hk b2).setCell (p := ⟨k, 3, none⟩) hk b3).setCell (p := ⟨k, 4, none⟩) hk b4

theorem seg_at {l : List Bell.Fx} {k : Nat} {t : Int} (hk : k ≤ l.length) (h1 : ∀ j, j < k → (Bell.fxAt l j).t ≤ t) (h2 : k < l.length → t < (Bell.fxAt l k).t) : Bell.segIx l t = k - 1 := by
  unfold Bell.segIx
  congr 1
  rcases Nat.lt_or_ge k l.length with hlt | hge
  · refine (List.findIdx_eq hlt).2 ⟨?_, fun j hj => ?_⟩
    · have := h2 hlt
      rw [Bell.fxAt_get hlt] at this
      exact decide_eq_true this
    · have := h1 j hj
      rw [Bell.fxAt_get (by omega)] at this
      exact decide_eq_false (by omega)
  · obtain rfl : k = l.length := by omega
    refine List.findIdx_eq_length.2 fun x hx => ?_
    obtain ⟨j, hj, rfl⟩ := List.getElem_of_mem hx
    have := h1 j hj
    rw [Bell.fxAt_get hj] at this
    exact decide_eq_false (by omega)

set_option maxRecDepth 100000 in
theorem last_any (b off m c : Nat) (l : List Bell.Fx) (w : World) (hl : FixesAt w b off (m + 1) l) (hm : m ≤ 140737488351232) :
    Calls Tryd.prog 48 #[.slice (some ⟨b, off, none⟩) (m + 1) c] w fun e w' => e = .returned (.agg (fxV (Bell.fxAt l m))) ∧ Below w.heap.size w w' := by
  obtain ⟨P, hP⟩ : ∃ P, P = Bell.fxAt l m := ⟨_, rfl⟩
  have HL := Lib.hid hl
  have HP := Lib.hid hP
  rw [← hP]
  clear hP hl
  go_enter Tryd.func48, Tryd.ntmps48
  go_upto_region 1 with fail
  obtain ⟨w1, hw1⟩ : ∃ X, X = w.alloc (.cells #[.int .i64 0, .int .i64 0, .int .i64 0, .int .i64 0, .int .i64 0] 68) := ⟨_, rfl⟩
  rw [← hw1]
  have HZ : Blk w1 w.heap.size 68 #[.int .i64 0, .int .i64 0, .int .i64 0, .int .i64 0, .int .i64 0] := by rw [hw1]; exact Blk.new w _ _
  have HB : Below w.heap.size w w1 := by rw [hw1]; exact (Below.refl _ w).alloc (Nat.le_refl _) _
  obtain ⟨h0, h1, h2, h3, h4⟩ := (HL.out.keep HB).2 m (by omega)
  rw [← HP.out] at h0 h1 h2 h3 h4
  have hz := Lib.hid HZ
  have hB := Lib.hid HB
  clear hw1 HZ HB
  go_wp2_with (refine wpList_store_row rfl 68 _ _ rfl w.heap.size (fxV P) rfl rfl 68 _ hz.out (by kernel_rfl) rfl (by simp [Value.oneCell', fxV]) ?_)
  have hlv := (hz.out.setRow (fxV P)).lv Tryd.prog (T := 68) Tryd.underlying68 rfl (by kernel_rfl)
  refine bodyPost_ret (v := .agg (fxV P)) (by simp [results, Tryd.results48, asAddr]; exact hlv) rfl ?_
  exact ⟨rfl, hB.out.setRow' (Nat.le_refl _) _⟩

set_option maxHeartbeats 2000000 in
set_option maxRecDepth 100000 in
theorem segment_any (b off n c : Nat) (l : List Bell.Fx) (t : Int) (w : World) (hl : FixesAt w b off n l) (hn : n ≤ 140737488351232) (i : Nat) (hi : Bell.segIx l t = i) (hin : i + 1 < n) :
    Calls Tryd.prog 77 #[.slice (some ⟨b, off, none⟩) n c, .int .i64 t] w fun e w' => e = .returned (.tuple #[.agg (fxV (Bell.fxAt l i)), .agg (fxV (Bell.fxAt l (i + 1)))]) ∧ Below w.heap.size w w' := by
  have HL := Lib.hid hl
  have HI := Lib.hid hi
  obtain ⟨A, hA⟩ : ∃ A, A = Bell.fxAt l i := ⟨_, rfl⟩
  obtain ⟨B, hB⟩ : ∃ B, B = Bell.fxAt l (i + 1) := ⟨_, rfl⟩
  rw [← hA, ← hB]
  have HA := Lib.hid hA
  have HB9 := Lib.hid hB
  clear hl hi hA hB
  go_enter Tryd.func77, Tryd.ntmps77
  go_upto_region 1 with fail
  obtain ⟨w1, hw1⟩ : ∃ X, X = (w.alloc (.cells #[.int .i64 0, .int .i64 0, .int .i64 0, .int .i64 0, .int .i64 0] 68)).alloc (.cells #[.int .i64 0, .int .i64 0, .int .i64 0, .int .i64 0, .int .i64 0] 68) := ⟨_, rfl⟩
  rw [← hw1]
  have HX : Hid (Blk w1 w.heap.size 68 #[.int .i64 0, .int .i64 0, .int .i64 0, .int .i64 0, .int .i64 0]) := by show Blk _ _ _ _; rw [hw1]; exact (Blk.new w _ _).alloc _
  have HY : Hid (Blk w1 (w.heap.size + 1) 68 #[.int .i64 0, .int .i64 0, .int .i64 0, .int .i64 0, .int .i64 0]) := by show Blk _ _ _ _; rw [hw1]; exact Blk.at_size _ _ (by simp)
  have HB : Hid (Below w.heap.size w w1) := by show Below _ _ _; rw [hw1]; exact ((Below.refl _ _).alloc (Nat.le_refl _) _).alloc (by simp) _
  have HL1 := Lib.hid (HL.out.keep HB.out)
  have hbn : b < w.heap.size := World.block_lt_of_cell? _ _ (HL.out.2 0 (by omega)).1
  obtain ⟨g1, hg1⟩ : ∃ g, g = w.heap.size := ⟨_, rfl⟩
  rw [← hg1] at HX HY hbn ⊢
  have HG := Lib.hid hg1
  clear hw1 hg1 HL
  go_wp2
  go_step3
  go_wp2
  go_step3
  go_wp2
  go_loopw [6, 7, 8, 11, 17] (fun at_ _ _ k _ wr => ∃ j : Nat, j ≤ n ∧ k = .int .i64 j ∧ at_ = .int .i64 ((j - 1 : Nat) : Int) ∧ Hid (∀ q, q < j → (Bell.fxAt l q).t ≤ t) ∧ Hid (Below w1.heap.size w1 wr)) (fun _ _ _ k _ _ => n - (intOf k).toNat)
  case atStart => exact ⟨0, Nat.zero_le _, rfl, rfl, (fun q hq => by omega), Below.refl _ _⟩
  case round =>
    obtain ⟨j, hj, rfl, rfl, hp, hb⟩ := hrel
    have HLr := Lib.hid (HL1.out.keep hb.out)
    have HXr := Lib.hid (HX.out.below hb.out)
    have HYr := Lib.hid (HY.out.below hb.out)
    by_cases hlt : j < n
    · have hc := HLr.out.2 j hlt
      obtain ⟨P, hP⟩ : ∃ P, P = Bell.fxAt l j := ⟨_, rfl⟩
      rw [← hP] at hc
      have HP := Lib.hid hP
      clear hP
      obtain ⟨h0, h1, h2, h3, h4⟩ := hc
      by_cases hgt : t < P.t
      · have hs : Hid (j - 1 = i) := by show _ = _; rw [← HI.out]; exact (seg_at (by rw [HL1.out.1]; omega) hp.out (fun _ => by rw [← HP.out]; exact hgt)).symm
        rw [hs.out]
        go_wp2
        obtain ⟨W, hW⟩ : ∃ X, X = wr.alloc (.cells #[.int .i64 P.t, .int .i64 P.x, .int .i64 P.y, .int .i64 P.z, .int .i64 P.p] 68) := ⟨_, rfl⟩
        rw [← hW]
        have HBW : Hid (Below w1.heap.size w1 W) := by show Below _ _ _; rw [hW]; exact hb.out.alloc hb.out.size _
        have HXW := HX.out.below HBW.out
        have HYW := HY.out.below HBW.out
        have HLW := HL1.out.keep HBW.out
        obtain ⟨a0, a1, a2, a3, a4⟩ := HLW.2 i (by omega)
        obtain ⟨b0, b1, b2, b3, b4⟩ := HLW.2 (i + 1) (by omega)
        have n1 : b ≠ g1 := by omega
        have n2 : b ≠ g1 + 1 := by omega
        rw [← HA.out] at a0 a1 a2 a3 a4
        rw [← HB9.out] at b0 b1 b2 b3 b4
        have HXH := Lib.hid HXW
        have HYH := Lib.hid HYW
        have xc0 := HXW.cell 0; have xf0 := HXW.frozen 0; have xc1 := HXW.cell 1; have xf1 := HXW.frozen 1; have xc2 := HXW.cell 2; have xf2 := HXW.frozen 2; have xc3 := HXW.cell 3; have xf3 := HXW.frozen 3; have xc4 := HXW.cell 4; have xf4 := HXW.frozen 4
        simp only [List.getElem?_toArray, List.getElem?_cons_zero, List.getElem?_cons_succ] at xc0 xc1 xc2 xc3 xc4
        clear HXW
        have yc0 := HYW.cell 0; have yf0 := HYW.frozen 0; have yc1 := HYW.cell 1; have yf1 := HYW.frozen 1; have yc2 := HYW.cell 2; have yf2 := HYW.frozen 2; have yc3 := HYW.cell 3; have yf3 := HYW.frozen 3; have yc4 := HYW.cell 4; have yf4 := HYW.frozen 4
        simp only [List.getElem?_toArray, List.getElem?_cons_zero, List.getElem?_cons_succ] at yc0 yc1 yc2 yc3 yc4
        clear HYW
        have HBF := Lib.hid (HB.out.trans (HBW.out.mono HB.out.size))
        clear hW h0 h1 h2 h3 h4 HLr HXr HYr hgt HLW hlt
        go_region
        have FX := (((HXH.out.set5 (.int .i64 A.t) (.int .i64 A.x) (.int .i64 A.y) (.int .i64 A.z) (.int .i64 A.p)).far5 (k := g1 + 1) (by omega) (.int .i64 B.t) (.int .i64 B.x) (.int .i64 B.y) (.int .i64 B.z) (.int .i64 B.p)).drew).lv Tryd.prog (T := 68) Tryd.underlying68 rfl (by kernel_rfl)
        have FY := (((HYH.out.far5 (k := g1) (by omega) (.int .i64 A.t) (.int .i64 A.x) (.int .i64 A.y) (.int .i64 A.z) (.int .i64 A.p)).set5 (.int .i64 B.t) (.int .i64 B.x) (.int .i64 B.y) (.int .i64 B.z) (.int .i64 B.p)).drew).lv Tryd.prog (T := 68) Tryd.underlying68 rfl (by kernel_rfl)
        have hbe := ((Below.set5 (k := g1 + 1) (Below.set5 (k := g1) HBF.out (by rw [HG.out]; exact Nat.le_refl _) (.int .i64 A.t) (.int .i64 A.x) (.int .i64 A.y) (.int .i64 A.z) (.int .i64 A.p)) (by rw [HG.out]; omega) (.int .i64 B.t) (.int .i64 B.x) (.int .i64 B.y) (.int .i64 B.z) (.int .i64 B.p)).drew)
        have HFX := Lib.hid FX
        have HFY := Lib.hid FY
        have HBE := Lib.hid hbe
        clear FX FY hbe
        go_wp2
        delta Exit.noGoto
        dsimp only
        refine bodyPost_ret (v := .tuple #[.agg (fxV A), .agg (fxV B)]) (by simp [results, Tryd.results77, asAddr, HFX.out, HFY.out]; exact ⟨rfl, rfl⟩) rfl ?_
        exact ⟨rfl, HBE.out⟩
      · have hq : Hid (∀ q, q < j + 1 → (Bell.fxAt l q).t ≤ t) := fun q hq => by
          by_cases hqj : q = j
          · subst hqj; rw [← HP.out]; omega
          · exact hp.out q (by omega)
        have hbx : Hid (Below w1.heap.size w1 (wr.alloc (.cells #[.int .i64 P.t, .int .i64 P.x, .int .i64 P.y, .int .i64 P.z, .int .i64 P.p] 68))) := hb.out.alloc hb.out.size _
        go_wp2
        go_roundw
        case rel => exact ⟨j + 1, by omega, by go_num, by simp, hq, hbx⟩
        case measure => simp [intOf]; omega
    · exfalso
      have := seg_at (l := l) (k := n) (t := t) (by rw [HL1.out.1]; omega) (fun q hq => hp.out q (by omega)) (fun h => by rw [HL1.out.1] at h; omega)
      rw [HI.out] at this
      omega

end Go.Proofs.YtnbionhahifacaaDoor
