/- Part. -/
import Derived.Test.YtmafmebcgmegeaaGreatDoorGz1
import Derived.Test.YtmafmebcgmegeaaGreatDoorGz24
import Derived.Test.YtmafmebcgmegeaaGreatDoorGz25
namespace Go.Proofs.YtmafmebcgmegeaaGreatDoor
open Go.RowKit Go.Sort
theorem near_cells {w W : World} {g : Nat} (h : Blk w g 28 #[.int .i64 4, .int .i64 2, .int .i64 0]) (hE : Below w.heap.size w W) : W.cell? ⟨g, 0, none⟩ = some (.int .i64 4) /\ W.cell? ⟨g, 1, none⟩ = some (.int .i64 2) /\ W.cell? ⟨g, 2, none⟩ = some (.int .i64 0) :=
 ⟨((h.below hE).cell 0).trans rfl, ((h.below hE).cell 1).trans rfl, ((h.below hE).cell 2).trans rfl⟩
def StoreI (B : Nat) (v0 : Value) (W W' : World) : Prop := ∃ g, v0 = .pointer (some ⟨g, 0, none⟩) /\ B <= g /\ (∃ cs, Blk W g 100 cs /\ cs.size = 2) /\ W' = W.setRow g #[.int .i64 1000, .int .i64 8000]
def BoxI (B : Nat) (v : Value) (W : World) : Prop := ∃ g cs, v = .pointer (some ⟨g, 0, none⟩) /\ B <= g /\ Blk W g 100 cs /\ cs.size = 2
def GR.boxI (B : Nat) : GR := ⟨BoxI B, fun ⟨g, cs, e, h1, h2, h3⟩ hE => ⟨g, cs, e, h1, h2.below hE, h3⟩⟩
def GR.any : GR := ⟨fun _ _ => True, fun _ _ => trivial⟩
theorem StoreI.other {B : Nat} {v0 : Value} {W W' : World} (h : StoreI B v0 W W') : ∀ g t cs, Blk W g t cs -> t ≠ 100 -> Blk W' g t cs := by
 obtain ⟨g, _, _, ⟨cs, hb, _⟩, rfl⟩ := h; intro g' t cs' h' ht; refine h'.setRow_far (fun e => ?_) _; subst e; have := h'.symm.trans hb; simp only [Option.some.injEq, Obj.cells.injEq] at this; exact ht this.2.1
theorem StoreI.box {B : Nat} {v0 v : Value} {W W' : World} (h : StoreI B v0 W W') (k : BoxI B v W) : BoxI B v W' := by
 obtain ⟨g, _, _, ⟨cs, hb, _⟩, rfl⟩ := h; obtain ⟨g', cs', e, h1, h2, h3⟩ := k
 by_cases hg : g' = g
 ·subst hg; exact ⟨g', _, e, h1, h2.setRow _, rfl⟩
 ·exact ⟨g', cs', e, h1, h2.setRow_far hg _, h3⟩
theorem StoreI.base {w W : World} (h : Ext w W ∨ ∃ v0, AfterS w (StoreI w.heap.size v0) W) : Ext w W := by
 rcases h with h | ⟨v0, W1, W2, h1, ⟨g, _, hg, _, rfl⟩, h3⟩
 ·exact h
 ·have h2 : Below w.heap.size w (W1.setRow g #[.int .i64 1000, .int .i64 8000]) := Below.setRow' h1 hg _; exact h2.trans (Below.mono h3 h2.size)
theorem ints2 (w : World) (a b : Int) (T : TypeId) : IntsAt (w.alloc (.cells #[.int .i64 a, .int .i64 b] T)) (some ⟨w.heap.size, 0, none⟩) 2 [a, b] :=
 ⟨rfl, fun _ => ⟨w.heap.size, 0, rfl, fun i hi => by
  match i, hi with
  | 0, _ => exact ((Blk.new w T #[.int .i64 a, .int .i64 b]).cell 0).trans rfl
  | 1, _ => exact ((Blk.new w T #[.int .i64 a, .int .i64 b]).cell 1).trans rfl⟩⟩
theorem eq_st (w : World) : (Op.equalIn 10000 46 (.agg #[.int .i64 2, .int .i64 0, .int .i64 0, .int .i64 8, .int .i64 0, .int .i64 12]) (.agg #[.int .i64 2, .int .i64 0, .int .i64 0, .int .i64 8, .int .i64 0, .int .i64 12])).run Tryz.prog w = .ok true w := by kernel_rfl
theorem eq_iv (w : World) : (Op.equalIn 10000 100 (.agg #[.int .i64 1000, .int .i64 8000]) (.agg #[.int .i64 1000, .int .i64 8000])).run Tryz.prog w = .ok true w := by kernel_rfl
def turnA : Array Value := #[.int .i64 3, .int .i64 1, .int .i64 2, .int .i64 2, .int .i64 0, .int .i64 5, .int .i64 (-2), .int .i64 2, .int .i64 (-3), .int .i64 0, .int .i64 (-1), .int .i64 (-1), .int .i64 0, .int .i64 (-4), .int .i64 2, .int .i64 (-2)]
theorem turn_cells {w : World} (h : Turned w) : w.cell? ⟨0, 0, none⟩ = some (.int .i64 3) /\ w.cell? ⟨0, 1, none⟩ = some (.int .i64 1) /\ w.cell? ⟨0, 2, none⟩ = some (.int .i64 2) /\ w.cell? ⟨0, 3, none⟩ = some (.int .i64 2) /\ w.cell? ⟨0, 4, none⟩ = some (.int .i64 0) /\ w.cell? ⟨0, 5, none⟩ = some (.int .i64 5) /\ w.cell? ⟨0, 6, none⟩ = some (.int .i64 (-2)) /\ w.cell? ⟨0, 7, none⟩ = some (.int .i64 2) /\ w.cell? ⟨0, 8, none⟩ = some (.int .i64 (-3)) /\ w.cell? ⟨0, 9, none⟩ = some (.int .i64 0) /\ w.cell? ⟨0, 10, none⟩ = some (.int .i64 (-1)) /\ w.cell? ⟨0, 11, none⟩ = some (.int .i64 (-1)) /\ w.cell? ⟨0, 12, none⟩ = some (.int .i64 0) /\ w.cell? ⟨0, 13, none⟩ = some (.int .i64 (-4)) /\ w.cell? ⟨0, 14, none⟩ = some (.int .i64 2) /\ w.cell? ⟨0, 15, none⟩ = some (.int .i64 (-2)) :=
 ⟨(h 0 (by omega)).1, (h 0 (by omega)).2, (h 1 (by omega)).1, (h 1 (by omega)).2, (h 2 (by omega)).1, (h 2 (by omega)).2, (h 3 (by omega)).1, (h 3 (by omega)).2, (h 4 (by omega)).1, (h 4 (by omega)).2, (h 5 (by omega)).1, (h 5 (by omega)).2, (h 6 (by omega)).1, (h 6 (by omega)).2, (h 7 (by omega)).1, (h 7 (by omega)).2⟩
theorem turn_index : ∀ j : Nat, j < 8 -> ∀ W, (Instr.index 165 (.agg turnA) (.int .i64 j)).run Tryz.prog W = .ok (.agg #[.int .i64 (turnX.getD j 0), .int .i64 (turnY.getD j 0)]) W
 | 0, _, W => by kernel_rfl
 | 1, _, W => by kernel_rfl
 | 2, _, W => by kernel_rfl
 | 3, _, W => by kernel_rfl
 | 4, _, W => by kernel_rfl
 | 5, _, W => by kernel_rfl
 | 6, _, W => by kernel_rfl
 | 7, _, W => by kernel_rfl
theorem pts_at {w : World} {g : Nat} (h : Blk w g 30 #[.int .i64 0, .int .i64 0, .int .i64 10, .int .i64 0, .int .i64 10, .int .i64 5]) : PtsAt w (some ⟨g, 0, none⟩) 3 ptsL :=
 ⟨rfl, fun _ => ⟨g, 0, rfl, fun i hi => by
  match i, hi with
  | 0, _ => exact ⟨(h.cell 0).trans rfl, (h.cell 1).trans rfl⟩
  | 1, _ => exact ⟨(h.cell 2).trans rfl, (h.cell 3).trans rfl⟩
  | 2, _ => exact ⟨(h.cell 4).trans rfl, (h.cell 5).trans rfl⟩⟩⟩
theorem sps_at {w : World} {g : Nat} (h : Blk w g 166 #[.int .i64 0, .int .i64 0, .int .i64 100, .int .i64 10, .int .i64 50, .int .i64 80]) : SpsAt w (some ⟨g, 0, none⟩) 2 spsL :=
 ⟨rfl, fun _ => ⟨g, 0, rfl, fun i hi => by
  match i, hi with
  | 0, _ => exact ⟨(h.cell 0).trans rfl, (h.cell 1).trans rfl, (h.cell 2).trans rfl⟩
  | 1, _ => exact ⟨(h.cell 3).trans rfl, (h.cell 4).trans rfl, (h.cell 5).trans rfl⟩⟩⟩
theorem eq_fx1 (w : World) : (Op.equalIn 10000 152 (.agg #[.int .i64 100, .int .i64 0, .int .i64 0, .int .i64 0, .int .i64 100]) (.agg #[.int .i64 100, .int .i64 0, .int .i64 0, .int .i64 0, .int .i64 100])).run Tryz.prog w = .ok true w := by kernel_rfl
theorem eq_fx2 (w : World) : (Op.equalIn 10000 152 (.agg #[.int .i64 103, .int .i64 10, .int .i64 0, .int .i64 50, .int .i64 80]) (.agg #[.int .i64 103, .int .i64 10, .int .i64 0, .int .i64 50, .int .i64 80])).run Tryz.prog w = .ok true w := by kernel_rfl
theorem eq_fx3 (w : World) : (Op.equalIn 10000 152 (.agg #[.int .i64 104, .int .i64 10, .int .i64 5, .int .i64 50, .int .i64 80]) (.agg #[.int .i64 104, .int .i64 10, .int .i64 5, .int .i64 50, .int .i64 80])).run Tryz.prog w = .ok true w := by kernel_rfl
theorem fl_cells {W : World} {g : Nat} (h : FixesAt W g 0 3 [⟨100, 0, 0, 0, 100⟩, ⟨103, 10, 0, 50, 80⟩, ⟨104, 10, 5, 50, 80⟩]) : W.cell? ⟨g, 0, none⟩ = some (.int .i64 100) /\ W.cell? ⟨g, 1, none⟩ = some (.int .i64 0) /\ W.cell? ⟨g, 2, none⟩ = some (.int .i64 0) /\ W.cell? ⟨g, 3, none⟩ = some (.int .i64 0) /\ W.cell? ⟨g, 4, none⟩ = some (.int .i64 100) /\ W.cell? ⟨g, 5, none⟩ = some (.int .i64 103) /\ W.cell? ⟨g, 6, none⟩ = some (.int .i64 10) /\ W.cell? ⟨g, 7, none⟩ = some (.int .i64 0) /\ W.cell? ⟨g, 8, none⟩ = some (.int .i64 50) /\ W.cell? ⟨g, 9, none⟩ = some (.int .i64 80) /\ W.cell? ⟨g, 10, none⟩ = some (.int .i64 104) /\ W.cell? ⟨g, 11, none⟩ = some (.int .i64 10) /\ W.cell? ⟨g, 12, none⟩ = some (.int .i64 5) /\ W.cell? ⟨g, 13, none⟩ = some (.int .i64 50) /\ W.cell? ⟨g, 14, none⟩ = some (.int .i64 80) := by
 obtain ⟨a0, a1, a2, a3, a4⟩ := h.2 0 (by omega); obtain ⟨b0, b1, b2, b3, b4⟩ := h.2 1 (by omega); obtain ⟨c0, c1, c2, c3, c4⟩ := h.2 2 (by omega); exact ⟨a0, a1, a2, a3, a4, b0, b1, b2, b3, b4, c0, c1, c2, c3, c4⟩
theorem jet_lit1 : (⟨([116, 121, 112, 101, 32, 106, 101, 116, 32, 53, 48, 48, 10, 115, 104, 97, 114, 101, 115, 32, 54, 48, 48, 32, 52, 48, 48, 10, 100, 105, 114, 101, 99, 116, 32, 49, 48, 48, 48, 32, 49, 48, 48, 48, 32, 49, 48, 48, 48, 32, 49, 48, 48, 48, 32, 53, 48, 48, 32, 53].append [48, 48, 32, 53, 48, 48, 32, 53, 48, 48, 10, 115, 113, 117, 97, 114, 101, 115, 32, 48, 32, 49, 48, 48, 10, 112, 111, 119, 101, 114, 32, 49, 48, 32, 49, 48, 48, 48, 32, 52, 48, 48, 10, 112, 111, 119, 101, 114, 32, 50, 48, 32, 50, 48, 48, 48, 32, 54, 48, 48, 10]).toArray⟩ : ByteArray) = jetPr := by kernel_rfl
theorem jet_lit2 : (⟨#[116, 121, 112, 101, 32, 106, 101, 116, 32, 53, 48, 48, 10, 115, 104, 97, 114, 101, 115, 32, 54, 48, 48, 32, 52, 48, 48, 10, 100, 105, 114, 101, 99, 116, 32, 49, 48, 48, 48, 32, 49, 48, 48, 48, 32, 49, 48, 48, 48, 32, 49, 48, 48, 48, 32, 53, 48, 48, 32, 53, 48, 48, 32, 53, 48, 48, 32, 53, 48, 48, 10, 115, 113, 117, 97, 114, 101, 115, 32, 48, 32, 49, 48, 48, 10, 112, 111, 119, 101, 114, 32, 49, 48, 32, 49, 48, 48, 48, 32, 52, 48, 48, 10, 112, 111, 119, 101, 114, 32, 50, 48, 32, 50, 48, 48, 48, 32, 54, 48, 48, 10]⟩ : ByteArray) = jetPr := by kernel_rfl
theorem one_lit : (⟨#[111, 110, 101]⟩ : ByteArray) = oneN := rfl
theorem aw_flown {w : World} {b c : Nat} (h : PtsAt w (some ⟨b, 0, none⟩) 3 ptsL) (k : SpsAt w (some ⟨c, 0, none⟩) 2 spsL) :
  Calls Tryz.prog 48 #[.slice (some ⟨b, 0, none⟩) 3 3, .slice (some ⟨c, 0, none⟩) 2 2, .int .i64 4, .int .i64 100] w fun e w' => ∃ g, e = .returned (.tuple #[.slice (some ⟨g, 0, none⟩) 3 3, .int .i64 0]) /\ FixesAt w' g 0 3 [⟨100, 0, 0, 0, 100⟩, ⟨103, 10, 0, 50, 80⟩, ⟨104, 10, 5, 50, 80⟩] /\ Below w.heap.size w w' :=
 (Flown_any b 0 3 3 (some ⟨c, 0, none⟩) 2 2 ptsL spsL 4 100 w h k (Nat.le_refl _) (by omega) (by omega) (by omega)).mono fun e w' ⟨h, hb⟩ => by
  obtain ⟨g, e1, hf⟩ := (h.2 v_fE).2 v_fF; rw [v_fl] at hf; exact ⟨g, e1, hf, hb⟩
attribute [local go_sem] eq_st eq_iv eq_fx1 eq_fx2 eq_fx3
set_option maxHeartbeats 4000000 in
set_option maxRecDepth 100000 in
theorem awake2_any (w : World) (hu : Turned w) (hf : FirstWords w) (ht : Tab w) :
  Calls Tryz.prog 14 #[] w fun e w' => e = .returned (.bool true) /\ Below w.heap.size w w' := by
 have U := lh hu; have F := lh hf; have T := lh ht; clear hu hf ht
 go_enter Tryz.func14, Tryz.ntmps14
 go_upto_region 2 with fail
 obtain ⟨w1, hw1⟩ : ∃ W, W = (w.alloc (.cells #[.int .i64 4, .int .i64 2, .int .i64 0] 28)) := ⟨_, rfl⟩; rw [<- hw1]; have N : Hid (Blk w1 (w.heap.size) 28 #[.int .i64 4, .int .i64 2, .int .i64 0]) := by show Blk _ _ _ _; rw [hw1]; exact Blk.new _ _ _
 have hb : Below w.heap.size w w1 := by rw [hw1]; exact ((Below.refl _ _).alloc (Nat.le_refl _) _)
 obtain ⟨g1, hg1⟩ : ∃ g, g = w.heap.size := ⟨_, rfl⟩; have HGw1 : Hid (g1 = w.heap.size) := hg1; rw [<- hg1] at N
 try rw [<- hg1]
 clear hw1 hg1; have HB : Hid (Below w.heap.size w w1) := hb; replace U := lh (U.out.keep hb); replace F := lh (F.out.keep hb); replace T := lh (T.out.keep hb); clear hb
 go_wp2_with fail
 refine (aw_jet w1).mono ?_; rintro e w2 ⟨v, rfl, hj, hb⟩; replace HB := lh (HB.out.trans (hb.mono HB.out.size)); replace N := lh (N.out.below hb); replace U := lh (U.out.keep hb); replace F := lh (F.out.keep hb); replace T := lh (T.out.keep hb); clear hb
 go_wp2_with fail
 refine (aw_em hj 15 99 1500 (by omega) (by omega) v_em1).mono ?_; rintro e w3 ⟨rfl, hb⟩; replace HB := lh (HB.out.trans (hb.mono HB.out.size)); replace N := lh (N.out.below hb); replace U := lh (U.out.keep hb); replace F := lh (F.out.keep hb); replace T := lh (T.out.keep hb); clear hb; clear hj
 go_wp2_with fail
 refine (aw_jet w3).mono ?_; rintro e w4 ⟨v, rfl, hj, hb⟩; replace HB := lh (HB.out.trans (hb.mono HB.out.size)); replace N := lh (N.out.below hb); replace U := lh (U.out.keep hb); replace F := lh (F.out.keep hb); replace T := lh (T.out.keep hb); clear hb
 go_wp2_with fail
 refine (aw_em hj 15 100 500 (by omega) (by omega) v_em2).mono ?_; rintro e w5 ⟨rfl, hb⟩; replace HB := lh (HB.out.trans (hb.mono HB.out.size)); replace N := lh (N.out.below hb); replace U := lh (U.out.keep hb); replace F := lh (F.out.keep hb); replace T := lh (T.out.keep hb); clear hb; clear hj
 go_wp2_with fail
 refine (aw_jet w5).mono ?_; rintro e w6 ⟨v, rfl, hj, hb⟩; replace HB := lh (HB.out.trans (hb.mono HB.out.size)); replace N := lh (N.out.below hb); replace U := lh (U.out.keep hb); replace F := lh (F.out.keep hb); replace T := lh (T.out.keep hb); clear hb
 go_wp2_with fail
 refine (aw_em hj 30 0 2000 (by omega) (by omega) v_em3).mono ?_; rintro e w7 ⟨rfl, hb⟩; replace HB := lh (HB.out.trans (hb.mono HB.out.size)); replace N := lh (N.out.below hb); replace U := lh (U.out.keep hb); replace F := lh (F.out.keep hb); replace T := lh (T.out.keep hb); clear hb; clear hj
 go_wp2_with fail
 refine (aw_track w7).mono ?_; rintro e w8 ⟨v, rfl, hj, hb⟩; replace HB := lh (HB.out.trans (hb.mono HB.out.size)); replace N := lh (N.out.below hb); replace U := lh (U.out.keep hb); replace F := lh (F.out.keep hb); replace T := lh (T.out.keep hb); clear hb
 go_wp2_with fail
 refine (aw_at6 hj).mono ?_; rintro e w9 ⟨rfl, hb⟩; replace HB := lh (HB.out.trans (hb.mono HB.out.size)); replace N := lh (N.out.below hb); replace U := lh (U.out.keep hb); replace F := lh (F.out.keep hb); replace T := lh (T.out.keep hb); clear hb; clear hj
 go_upto_region 6 with fail
 obtain ⟨w10, hw10⟩ : ∃ W, W = (w9.alloc (.cells #[.int .i64 2, .int .i64 0, .int .i64 0, .int .i64 8, .int .i64 0, .int .i64 12] 46)) := ⟨_, rfl⟩; rw [<- hw10]; have D : Hid (Blk w10 (w9.heap.size) 46 #[.int .i64 2, .int .i64 0, .int .i64 0, .int .i64 8, .int .i64 0, .int .i64 12]) := by show Blk _ _ _ _; rw [hw10]; exact Blk.new _ _ _
 have hb : Below w9.heap.size w9 w10 := by rw [hw10]; exact ((Below.refl _ _).alloc (Nat.le_refl _) _)
 obtain ⟨g8, hg8⟩ : ∃ g, g = w9.heap.size := ⟨_, rfl⟩; have HGw10 : Hid (g8 = w9.heap.size) := hg8; rw [<- hg8] at D
 try rw [<- hg8]
 clear hw10 hg8; replace HB := lh (HB.out.trans (hb.mono HB.out.size)); replace N := lh (N.out.below hb); replace U := lh (U.out.keep hb); replace F := lh (F.out.keep hb); replace T := lh (T.out.keep hb); clear hb; refine wp_region_allN 10 rfl (by kernel_rfl) (by kernel_rfl) [GR.jet, GR.trk, GR.eq (.agg #[.int .i64 0, .int .i64 100000000]), GR.eq (.agg #[.int .i64 4, .int .i64 2, .int .i64 0]), GR.eq (.tuple #[.int .i64 2700, .int .i64 0]), GR.eq (.tuple #[.int .i64 2700, .int .i64 0]), GR.eq (.int .i64 2700), GR.eq (.int .i64 0), GR.eq (.int .i64 2700), GR.eq (.int .i64 0)] 298 rfl (by kernel_rfl) ?_ ?_
 ·refine ⟨?_, ?_, ?_, ?_, ?_, ?_, ?_, ?_, ?_, ?_, trivial⟩
  ·intro a W hE hd ho; refine gs_call (f := 85) (args := #[]) (by go_simp) ?_; refine (aw_jet W).mono ?_; rintro e w' ⟨v, rfl, hj, hb⟩; exact ⟨v, rfl, hb, hj⟩
  ·intro a W hE hd ho; refine gs_call (f := 86) (args := #[]) (by go_simp) ?_; refine (aw_track W).mono ?_; rintro e w' ⟨v, rfl, hj, hb⟩; exact ⟨v, rfl, hb, hj⟩
  ·intro a W hE hd ho; refine gs_call (f := 79) (args := #[]) (by go_simp) ?_; refine (all_any W).mono ?_; rintro e w' ⟨rfl, hb⟩; exact ⟨_, rfl, hb, rfl⟩
  ·intro a W hE hd ho; have e1 : a.tmps[1]?.getD undef = .pointer (some ⟨g1, 0, none⟩) := ho 1 (by kernel_rfl); obtain ⟨k0, k1, k2⟩ := near_cells N.out hE; exact gs_same (v := .agg #[.int .i64 4, .int .i64 2, .int .i64 0]) (by go_simp) rfl
  ·intro a W hE hd ho; have e65 : a.tmps[65]?.getD undef = .agg #[.int .i64 0, .int .i64 100000000] := hd 2 65 (by kernel_rfl) (by kernel_rfl); have e66 : a.tmps[66]?.getD undef = .agg #[.int .i64 4, .int .i64 2, .int .i64 0] := hd 3 66 (by kernel_rfl) (by kernel_rfl); have j0 : JetIs (a.tmps[63]?.getD undef) W := hd 0 63 (by kernel_rfl) (by kernel_rfl); have j1 : TrkIs (a.tmps[64]?.getD undef) W := hd 1 64 (by kernel_rfl) (by kernel_rfl); obtain ⟨x0, e63⟩ : ∃ x, a.tmps[63]?.getD undef = x := ⟨_, rfl⟩; rw [e63] at j0; obtain ⟨x1, e64⟩ : ∃ x, a.tmps[64]?.getD undef = x := ⟨_, rfl⟩; rw [e64] at j1; refine gs_call (f := 55) (args := #[x0, x1, .agg #[.int .i64 0, .int .i64 100000000], .agg #[.int .i64 4, .int .i64 2, .int .i64 0]]) (by go_simp) ?_; refine (aw_expo j0 j1 0 100000000 2700 (by omega) (by omega) (by omega) v_ex1).mono ?_; rintro e w' ⟨rfl, hb⟩; exact ⟨_, rfl, hb, rfl⟩
  ·intro a W hE hd ho; have e67 : a.tmps[67]?.getD undef = .tuple #[.int .i64 2700, .int .i64 0] := hd 4 67 (by kernel_rfl) (by kernel_rfl); exact gs_same (v := .tuple #[.int .i64 2700, .int .i64 0]) (by go_simp) rfl
  ·intro a W hE hd ho; have e62 : a.tmps[62]?.getD undef = .tuple #[.int .i64 2700, .int .i64 0] := hd 5 62 (by kernel_rfl) (by kernel_rfl); exact gs_same (v := .int .i64 2700) (by go_simp) rfl
  ·intro a W hE hd ho; have e62 : a.tmps[62]?.getD undef = .tuple #[.int .i64 2700, .int .i64 0] := hd 5 62 (by kernel_rfl) (by kernel_rfl); exact gs_same (v := .int .i64 0) (by go_simp) rfl
  ·intro a W hE hd ho; have e68 : a.tmps[68]?.getD undef = .int .i64 2700 := hd 6 68 (by kernel_rfl) (by kernel_rfl); exact gs_same (v := .int .i64 2700) (by go_simp) rfl
  ·intro a W hE hd ho; have e69 : a.tmps[69]?.getD undef = .int .i64 0 := hd 7 69 (by kernel_rfl) (by kernel_rfl); exact gs_same (v := .int .i64 0) (by go_simp) rfl
 intro vs w11 hE hR; obtain ⟨v0, y0⟩ : ∃ v, vs 0 = v := ⟨_, rfl⟩; obtain ⟨v1, y1⟩ : ∃ v, vs 1 = v := ⟨_, rfl⟩; have y2 : vs 2 = .agg #[.int .i64 0, .int .i64 100000000] := hR 2 (by omega); have y3 : vs 3 = .agg #[.int .i64 4, .int .i64 2, .int .i64 0] := hR 3 (by omega); have y4 : vs 4 = .tuple #[.int .i64 2700, .int .i64 0] := hR 4 (by omega); have y5 : vs 5 = .tuple #[.int .i64 2700, .int .i64 0] := hR 5 (by omega); have y6 : vs 6 = .int .i64 2700 := hR 6 (by omega); have y7 : vs 7 = .int .i64 0 := hR 7 (by omega); have y8 : vs 8 = .int .i64 2700 := hR 8 (by omega); have y9 : vs 9 = .int .i64 0 := hR 9 (by omega); simp only [List.range, List.range.loop, List.foldl_cons, List.foldl_nil, y0, y1, y2, y3, y4, y5, y6, y7, y8, y9, List.drop_succ_cons, List.drop_zero]; simp only [dstAt, List.getElem?_toArray, List.getElem?_cons_zero, List.getElem?_cons_succ, Option.bind_some, Act.put, List.setIfInBounds_toArray, List.set_cons_zero, List.set_cons_succ]
 clear y0 y1 y2 y3 y4 y5 y6 y7 y8 y9 hR; have hb := hE; replace HB := lh (HB.out.trans (hb.mono HB.out.size)); replace N := lh (N.out.below hb); replace U := lh (U.out.keep hb); replace F := lh (F.out.keep hb); replace T := lh (T.out.keep hb); replace D := lh (D.out.below hb); clear hb; clear hE
 go_upto_region 7 with fail
 refine wp_region_allN 10 rfl (by kernel_rfl) (by kernel_rfl) [GR.jet, GR.trk, GR.eq (.agg #[.int .i64 6, .int .i64 8]), GR.eq (.agg #[.int .i64 4, .int .i64 2, .int .i64 0]), GR.eq (.tuple #[.int .i64 1350, .int .i64 0]), GR.eq (.tuple #[.int .i64 1350, .int .i64 0]), GR.eq (.int .i64 1350), GR.eq (.int .i64 0), GR.eq (.int .i64 1350), GR.eq (.int .i64 0)] 298 rfl (by kernel_rfl) ?_ ?_
 ·refine ⟨?_, ?_, ?_, ?_, ?_, ?_, ?_, ?_, ?_, ?_, trivial⟩
  ·intro a W hE hd ho; refine gs_call (f := 85) (args := #[]) (by go_simp) ?_; refine (aw_jet W).mono ?_; rintro e w' ⟨v, rfl, hj, hb⟩; exact ⟨v, rfl, hb, hj⟩
  ·intro a W hE hd ho; refine gs_call (f := 86) (args := #[]) (by go_simp) ?_; refine (aw_track W).mono ?_; rintro e w' ⟨v, rfl, hj, hb⟩; exact ⟨v, rfl, hb, hj⟩
  ·intro a W hE hd ho; exact gs_same (v := .agg #[.int .i64 6, .int .i64 8]) (by go_simp) rfl
  ·intro a W hE hd ho; have e1 : a.tmps[1]?.getD undef = .pointer (some ⟨g1, 0, none⟩) := ho 1 (by kernel_rfl); obtain ⟨k0, k1, k2⟩ := near_cells N.out hE; exact gs_same (v := .agg #[.int .i64 4, .int .i64 2, .int .i64 0]) (by go_simp) rfl
  ·intro a W hE hd ho; have e73 : a.tmps[73]?.getD undef = .agg #[.int .i64 6, .int .i64 8] := hd 2 73 (by kernel_rfl) (by kernel_rfl); have e74 : a.tmps[74]?.getD undef = .agg #[.int .i64 4, .int .i64 2, .int .i64 0] := hd 3 74 (by kernel_rfl) (by kernel_rfl); have j0 : JetIs (a.tmps[71]?.getD undef) W := hd 0 71 (by kernel_rfl) (by kernel_rfl); have j1 : TrkIs (a.tmps[72]?.getD undef) W := hd 1 72 (by kernel_rfl) (by kernel_rfl); obtain ⟨x0, e71⟩ : ∃ x, a.tmps[71]?.getD undef = x := ⟨_, rfl⟩; rw [e71] at j0; obtain ⟨x1, e72⟩ : ∃ x, a.tmps[72]?.getD undef = x := ⟨_, rfl⟩; rw [e72] at j1; refine gs_call (f := 55) (args := #[x0, x1, .agg #[.int .i64 6, .int .i64 8], .agg #[.int .i64 4, .int .i64 2, .int .i64 0]]) (by go_simp) ?_; refine (aw_expo j0 j1 6 8 1350 (by omega) (by omega) (by omega) v_ex2).mono ?_; rintro e w' ⟨rfl, hb⟩; exact ⟨_, rfl, hb, rfl⟩
  ·intro a W hE hd ho; have e75 : a.tmps[75]?.getD undef = .tuple #[.int .i64 1350, .int .i64 0] := hd 4 75 (by kernel_rfl) (by kernel_rfl); exact gs_same (v := .tuple #[.int .i64 1350, .int .i64 0]) (by go_simp) rfl
  ·intro a W hE hd ho; have e70 : a.tmps[70]?.getD undef = .tuple #[.int .i64 1350, .int .i64 0] := hd 5 70 (by kernel_rfl) (by kernel_rfl); exact gs_same (v := .int .i64 1350) (by go_simp) rfl
  ·intro a W hE hd ho; have e70 : a.tmps[70]?.getD undef = .tuple #[.int .i64 1350, .int .i64 0] := hd 5 70 (by kernel_rfl) (by kernel_rfl); exact gs_same (v := .int .i64 0) (by go_simp) rfl
  ·intro a W hE hd ho; have e76 : a.tmps[76]?.getD undef = .int .i64 1350 := hd 6 76 (by kernel_rfl) (by kernel_rfl); exact gs_same (v := .int .i64 1350) (by go_simp) rfl
  ·intro a W hE hd ho; have e77 : a.tmps[77]?.getD undef = .int .i64 0 := hd 7 77 (by kernel_rfl) (by kernel_rfl); exact gs_same (v := .int .i64 0) (by go_simp) rfl
 intro vs w12 hE hR; obtain ⟨v0, y0⟩ : ∃ v, vs 0 = v := ⟨_, rfl⟩; obtain ⟨v1, y1⟩ : ∃ v, vs 1 = v := ⟨_, rfl⟩; have y2 : vs 2 = .agg #[.int .i64 6, .int .i64 8] := hR 2 (by omega); have y3 : vs 3 = .agg #[.int .i64 4, .int .i64 2, .int .i64 0] := hR 3 (by omega); have y4 : vs 4 = .tuple #[.int .i64 1350, .int .i64 0] := hR 4 (by omega); have y5 : vs 5 = .tuple #[.int .i64 1350, .int .i64 0] := hR 5 (by omega); have y6 : vs 6 = .int .i64 1350 := hR 6 (by omega); have y7 : vs 7 = .int .i64 0 := hR 7 (by omega); have y8 : vs 8 = .int .i64 1350 := hR 8 (by omega); have y9 : vs 9 = .int .i64 0 := hR 9 (by omega); simp only [List.range, List.range.loop, List.foldl_cons, List.foldl_nil, y0, y1, y2, y3, y4, y5, y6, y7, y8, y9, List.drop_succ_cons, List.drop_zero]; simp only [dstAt, List.getElem?_toArray, List.getElem?_cons_zero, List.getElem?_cons_succ, Option.bind_some, Act.put, List.setIfInBounds_toArray, List.set_cons_zero, List.set_cons_succ]
 clear y0 y1 y2 y3 y4 y5 y6 y7 y8 y9 hR; have hb := hE; replace HB := lh (HB.out.trans (hb.mono HB.out.size)); replace N := lh (N.out.below hb); replace U := lh (U.out.keep hb); replace F := lh (F.out.keep hb); replace T := lh (T.out.keep hb); replace D := lh (D.out.below hb); clear hb; clear hE
 go_upto_region 8 with fail
 refine wp_region_allN 12 rfl (by kernel_rfl) (by kernel_rfl) [GR.jet, GR.trk, GR.eq (.agg #[.int .i64 0, .int .i64 100000000]), GR.eq (.agg #[.int .i64 4, .int .i64 2, .int .i64 0]), GR.eq (.tuple #[.int .i64 850, .int .i64 8, .int .i64 0]), GR.eq (.tuple #[.int .i64 850, .int .i64 8, .int .i64 0]), GR.eq (.int .i64 850), GR.eq (.int .i64 8), GR.eq (.int .i64 0), GR.eq (.int .i64 850), GR.eq (.int .i64 8), GR.eq (.int .i64 0)] 298 rfl (by kernel_rfl) ?_ ?_
 ·refine ⟨?_, ?_, ?_, ?_, ?_, ?_, ?_, ?_, ?_, ?_, ?_, ?_, trivial⟩
  ·intro a W hE hd ho; refine gs_call (f := 85) (args := #[]) (by go_simp) ?_; refine (aw_jet W).mono ?_; rintro e w' ⟨v, rfl, hj, hb⟩; exact ⟨v, rfl, hb, hj⟩
  ·intro a W hE hd ho; refine gs_call (f := 86) (args := #[]) (by go_simp) ?_; refine (aw_track W).mono ?_; rintro e w' ⟨v, rfl, hj, hb⟩; exact ⟨v, rfl, hb, hj⟩
  ·intro a W hE hd ho; refine gs_call (f := 79) (args := #[]) (by go_simp) ?_; refine (all_any W).mono ?_; rintro e w' ⟨rfl, hb⟩; exact ⟨_, rfl, hb, rfl⟩
  ·intro a W hE hd ho; have e1 : a.tmps[1]?.getD undef = .pointer (some ⟨g1, 0, none⟩) := ho 1 (by kernel_rfl); obtain ⟨k0, k1, k2⟩ := near_cells N.out hE; exact gs_same (v := .agg #[.int .i64 4, .int .i64 2, .int .i64 0]) (by go_simp) rfl
  ·intro a W hE hd ho; have e81 : a.tmps[81]?.getD undef = .agg #[.int .i64 0, .int .i64 100000000] := hd 2 81 (by kernel_rfl) (by kernel_rfl); have e82 : a.tmps[82]?.getD undef = .agg #[.int .i64 4, .int .i64 2, .int .i64 0] := hd 3 82 (by kernel_rfl) (by kernel_rfl); have j0 : JetIs (a.tmps[79]?.getD undef) W := hd 0 79 (by kernel_rfl) (by kernel_rfl); have j1 : TrkIs (a.tmps[80]?.getD undef) W := hd 1 80 (by kernel_rfl) (by kernel_rfl); obtain ⟨x0, e79⟩ : ∃ x, a.tmps[79]?.getD undef = x := ⟨_, rfl⟩; rw [e79] at j0; obtain ⟨x1, e80⟩ : ∃ x, a.tmps[80]?.getD undef = x := ⟨_, rfl⟩; rw [e80] at j1; refine gs_call (f := 56) (args := #[x0, x1, .agg #[.int .i64 0, .int .i64 100000000], .agg #[.int .i64 4, .int .i64 2, .int .i64 0]]) (by go_simp) ?_; refine (aw_max j0 j1).mono ?_; rintro e w' ⟨rfl, hb⟩; exact ⟨_, rfl, hb, rfl⟩
  ·intro a W hE hd ho; have e83 : a.tmps[83]?.getD undef = .tuple #[.int .i64 850, .int .i64 8, .int .i64 0] := hd 4 83 (by kernel_rfl) (by kernel_rfl); exact gs_same (v := .tuple #[.int .i64 850, .int .i64 8, .int .i64 0]) (by go_simp) rfl
  ·intro a W hE hd ho; have e78 : a.tmps[78]?.getD undef = .tuple #[.int .i64 850, .int .i64 8, .int .i64 0] := hd 5 78 (by kernel_rfl) (by kernel_rfl); exact gs_same (v := .int .i64 850) (by go_simp) rfl
  ·intro a W hE hd ho; have e78 : a.tmps[78]?.getD undef = .tuple #[.int .i64 850, .int .i64 8, .int .i64 0] := hd 5 78 (by kernel_rfl) (by kernel_rfl); exact gs_same (v := .int .i64 8) (by go_simp) rfl
  ·intro a W hE hd ho; have e78 : a.tmps[78]?.getD undef = .tuple #[.int .i64 850, .int .i64 8, .int .i64 0] := hd 5 78 (by kernel_rfl) (by kernel_rfl); exact gs_same (v := .int .i64 0) (by go_simp) rfl
  ·intro a W hE hd ho; have e84 : a.tmps[84]?.getD undef = .int .i64 850 := hd 6 84 (by kernel_rfl) (by kernel_rfl); exact gs_same (v := .int .i64 850) (by go_simp) rfl
  ·intro a W hE hd ho; have e85 : a.tmps[85]?.getD undef = .int .i64 8 := hd 7 85 (by kernel_rfl) (by kernel_rfl); exact gs_same (v := .int .i64 8) (by go_simp) rfl
  ·intro a W hE hd ho; have e86 : a.tmps[86]?.getD undef = .int .i64 0 := hd 8 86 (by kernel_rfl) (by kernel_rfl); exact gs_same (v := .int .i64 0) (by go_simp) rfl
 intro vs w13 hE hR; obtain ⟨v0, y0⟩ : ∃ v, vs 0 = v := ⟨_, rfl⟩; obtain ⟨v1, y1⟩ : ∃ v, vs 1 = v := ⟨_, rfl⟩; have y2 : vs 2 = .agg #[.int .i64 0, .int .i64 100000000] := hR 2 (by omega); have y3 : vs 3 = .agg #[.int .i64 4, .int .i64 2, .int .i64 0] := hR 3 (by omega); have y4 : vs 4 = .tuple #[.int .i64 850, .int .i64 8, .int .i64 0] := hR 4 (by omega); have y5 : vs 5 = .tuple #[.int .i64 850, .int .i64 8, .int .i64 0] := hR 5 (by omega); have y6 : vs 6 = .int .i64 850 := hR 6 (by omega); have y7 : vs 7 = .int .i64 8 := hR 7 (by omega); have y8 : vs 8 = .int .i64 0 := hR 8 (by omega); have y9 : vs 9 = .int .i64 850 := hR 9 (by omega); have y10 : vs 10 = .int .i64 8 := hR 10 (by omega); have y11 : vs 11 = .int .i64 0 := hR 11 (by omega); simp only [List.range, List.range.loop, List.foldl_cons, List.foldl_nil, y0, y1, y2, y3, y4, y5, y6, y7, y8, y9, y10, y11, List.drop_succ_cons, List.drop_zero]
 simp only [dstAt, List.getElem?_toArray, List.getElem?_cons_zero, List.getElem?_cons_succ, Option.bind_some, Act.put, List.setIfInBounds_toArray, List.set_cons_zero, List.set_cons_succ]; clear y0 y1 y2 y3 y4 y5 y6 y7 y8 y9 y10 y11 hR; have hb := hE; replace HB := lh (HB.out.trans (hb.mono HB.out.size)); replace N := lh (N.out.below hb); replace U := lh (U.out.keep hb); replace F := lh (F.out.keep hb); replace T := lh (T.out.keep hb); replace D := lh (D.out.below hb); clear hb; clear hE
 go_upto_region 9 with fail
 refine wp_region_oneN 10 rfl 8 7 (by decide) ⟨_, rfl, by kernel_rfl⟩ (StoreI w13.heap.size) (by kernel_rfl) (by kernel_rfl) [GR.jet, GR.trk, GR.eq (.agg #[.int .i64 4, .int .i64 2, .int .i64 0]), GR.eq (.tuple #[.agg #[.int .i64 1000, .int .i64 8000], .int .i64 0]), GR.eq (.tuple #[.agg #[.int .i64 1000, .int .i64 8000], .int .i64 0]), GR.eq (.agg #[.int .i64 1000, .int .i64 8000]), GR.eq (.int .i64 0), GR.boxI w13.heap.size, GR.any, GR.eq (.int .i64 0)] 298 rfl (by kernel_rfl) (fun j hj v v0 W W' hr hS => by
  have hj : j < 10 := hj
  match j, hj with
  | 0, _ => exact JetIs.turn hr hS.other
  | 1, _ => exact TrkIs.turn hr hS.other
  | 2, _ => exact hr
  | 3, _ => exact hr
  | 4, _ => exact hr
  | 5, _ => exact hr
  | 6, _ => exact hr
  | 7, _ => exact hS.box hr
  | 8, _ => exact trivial
  | 9, _ => exact hr) ?_ ?_
 ·refine ⟨?_, ?_, ?_, ?_, ?_, ?_, ?_, ?_, ?_, ?_, trivial⟩
  ·intro a W hk hB hd ho; have hik : (0 : Nat) ≠ 8 := by decide
   have hE := StoreI.base hB; refine one_call hik (f := 85) (args := #[]) (by go_simp) ?_; refine (aw_jet W).mono ?_; rintro e w' ⟨v, rfl, hj, hb⟩; exact ⟨v, rfl, hb, hj⟩
  ·intro a W hk hB hd ho; have hik : (1 : Nat) ≠ 8 := by decide
   have hE := StoreI.base hB; refine one_call hik (f := 86) (args := #[]) (by go_simp) ?_; refine (aw_track W).mono ?_; rintro e w' ⟨v, rfl, hj, hb⟩; exact ⟨v, rfl, hb, hj⟩
  ·intro a W hk hB hd ho; have e1 : a.tmps[1]?.getD undef = .pointer (some ⟨g1, 0, none⟩) := ho 1 (by kernel_rfl); have hE := StoreI.base hB; obtain ⟨k0, k1, k2⟩ := near_cells N.out hE; have hik : (2 : Nat) ≠ 8 := by decide
   exact one_same hik (v := .agg #[.int .i64 4, .int .i64 2, .int .i64 0]) (by go_simp) rfl
  ·intro a W hk hB hd ho; have e90 : a.tmps[90]?.getD undef = .agg #[.int .i64 4, .int .i64 2, .int .i64 0] := hd 2 90 (by kernel_rfl) (by kernel_rfl); have hik : (3 : Nat) ≠ 8 := by decide
   have hE := StoreI.base hB; have j0 : JetIs (a.tmps[88]?.getD undef) W := hd 0 88 (by kernel_rfl) (by kernel_rfl); have j1 : TrkIs (a.tmps[89]?.getD undef) W := hd 1 89 (by kernel_rfl) (by kernel_rfl); obtain ⟨x0, e88⟩ : ∃ x, a.tmps[88]?.getD undef = x := ⟨_, rfl⟩; rw [e88] at j0; obtain ⟨x1, e89⟩ : ∃ x, a.tmps[89]?.getD undef = x := ⟨_, rfl⟩; rw [e89] at j1; refine one_call hik (f := 57) (args := #[x0, x1, .agg #[.int .i64 4, .int .i64 2, .int .i64 0]]) (by go_simp) ?_; refine (aw_enc j0 j1).mono ?_; rintro e w' ⟨rfl, hb⟩; exact ⟨_, rfl, hb, rfl⟩
  ·intro a W hk hB hd ho; have e91 : a.tmps[91]?.getD undef = .tuple #[.agg #[.int .i64 1000, .int .i64 8000], .int .i64 0] := hd 3 91 (by kernel_rfl) (by kernel_rfl); have hE := StoreI.base hB; have hik : (4 : Nat) ≠ 8 := by decide
   exact one_same hik (v := .tuple #[.agg #[.int .i64 1000, .int .i64 8000], .int .i64 0]) (by go_simp) rfl
  ·intro a W hk hB hd ho; have e87 : a.tmps[87]?.getD undef = .tuple #[.agg #[.int .i64 1000, .int .i64 8000], .int .i64 0] := hd 4 87 (by kernel_rfl) (by kernel_rfl); have hE := StoreI.base hB; have hik : (5 : Nat) ≠ 8 := by decide
   exact one_same hik (v := .agg #[.int .i64 1000, .int .i64 8000]) (by go_simp) rfl
  ·intro a W hk hB hd ho; have e87 : a.tmps[87]?.getD undef = .tuple #[.agg #[.int .i64 1000, .int .i64 8000], .int .i64 0] := hd 4 87 (by kernel_rfl) (by kernel_rfl); have hE := StoreI.base hB; have hik : (6 : Nat) ≠ 8 := by decide
   exact one_same hik (v := .int .i64 0) (by go_simp) rfl
  ·intro a W hk hB hd ho; have hik : (7 : Nat) ≠ 8 := by decide
   have hE := StoreI.base hB; exact one_val hik (v := .pointer (some ⟨W.heap.size, 0, none⟩)) (W' := W.alloc (.cells #[.int .i64 0, .int .i64 0] 100)) (by go_simp) ((Below.refl _ _).alloc (Nat.le_refl _) _) ⟨_, _, rfl, hE.size, Blk.new _ _ _, rfl⟩
  ·intro a W hk hB hd ho; have j7 : BoxI w13.heap.size (a.tmps[17]?.getD undef) W := hd 7 17 (by kernel_rfl) (by kernel_rfl); have e92 : a.tmps[92]?.getD undef = .agg #[.int .i64 1000, .int .i64 8000] := hd 5 92 (by kernel_rfl) (by kernel_rfl); obtain ⟨gx, old, e17, hge, hbk, hos⟩ := j7; refine wp_store_row 100 _ _ rfl gx #[.int .i64 1000, .int .i64 8000] (by rw [eval_getD]; exact e17) (by rw [eval_getD]; exact e92) 100 old hbk (by kernel_rfl) hos (by simp [Value.oneCell']) ?_; exact ⟨undef, rfl, by rw [if_pos rfl]; exact ⟨17, by kernel_rfl, gx, e17, hge, ⟨old, hbk, hos⟩, rfl⟩, trivial⟩
  ·intro a W hk hB hd ho; have e93 : a.tmps[93]?.getD undef = .int .i64 0 := hd 6 93 (by kernel_rfl) (by kernel_rfl); have hik : (9 : Nat) ≠ 8 := by decide
   exact one_same hik (v := .int .i64 0) (by go_simp) rfl
 intro vs w14 hA hR; obtain ⟨v0, y0⟩ : ∃ v, vs 0 = v := ⟨_, rfl⟩; obtain ⟨v1, y1⟩ : ∃ v, vs 1 = v := ⟨_, rfl⟩; have y2 : vs 2 = .agg #[.int .i64 4, .int .i64 2, .int .i64 0] := hR 2 (by omega); have y3 : vs 3 = .tuple #[.agg #[.int .i64 1000, .int .i64 8000], .int .i64 0] := hR 3 (by omega); have y4 : vs 4 = .tuple #[.agg #[.int .i64 1000, .int .i64 8000], .int .i64 0] := hR 4 (by omega); have y5 : vs 5 = .agg #[.int .i64 1000, .int .i64 8000] := hR 5 (by omega); have y6 : vs 6 = .int .i64 0 := hR 6 (by omega); obtain ⟨v7, y7⟩ : ∃ v, vs 7 = v := ⟨_, rfl⟩; obtain ⟨v8, y8⟩ : ∃ v, vs 8 = v := ⟨_, rfl⟩; have y9 : vs 9 = .int .i64 0 := hR 9 (by omega); have hE : Ext w13 w14 := StoreI.base (.inr ⟨_, hA⟩); rw [y7] at hA; obtain ⟨Wa, Wb, ha1, ⟨g17, rfl, hge, ⟨old, hbk, hos⟩, rfl⟩, ha3⟩ := hA; have E : Hid (Blk w14 g17 100 #[.int .i64 1000, .int .i64 8000]) := (hbk.setRow _).below ha3; clear ha1 ha3 hbk hge hos
 simp only [List.range, List.range.loop, List.foldl_cons, List.foldl_nil, y0, y1, y2, y3, y4, y5, y6, y7, y8, y9, List.drop_succ_cons, List.drop_zero]; simp only [dstAt, List.getElem?_toArray, List.getElem?_cons_zero, List.getElem?_cons_succ, Option.bind_some, Act.put, List.setIfInBounds_toArray, List.set_cons_zero, List.set_cons_succ]; clear y0 y1 y2 y3 y4 y5 y6 y7 y8 y9 hR; have hb := hE; replace HB := lh (HB.out.trans (hb.mono HB.out.size)); replace N := lh (N.out.below hb); replace U := lh (U.out.keep hb); replace F := lh (F.out.keep hb); replace T := lh (T.out.keep hb); replace D := lh (D.out.below hb); clear hb; clear hE
 go_upto_region 10 with fail
 go_wp2_with fail
 refine (aw_jet w14).mono ?_; rintro e w15 ⟨v, rfl, hj, hb⟩; replace HB := lh (HB.out.trans (hb.mono HB.out.size)); replace N := lh (N.out.below hb); replace U := lh (U.out.keep hb); replace F := lh (F.out.keep hb); replace T := lh (T.out.keep hb); replace D := lh (D.out.below hb); replace E := lh (E.out.below hb); clear hb
 go_wp2_with fail
 refine (aw_band hj).mono ?_; rintro e w16 ⟨gj, rfl, hi, hb⟩; replace HB := lh (HB.out.trans (hb.mono HB.out.size)); replace N := lh (N.out.below hb); replace U := lh (U.out.keep hb); replace F := lh (F.out.keep hb); replace T := lh (T.out.keep hb); replace D := lh (D.out.below hb); replace E := lh (E.out.below hb); clear hb; have J := lh hi; clear hj hi
 go_wp2_with fail
 refine (aw_track w16).mono ?_; rintro e w17 ⟨v, rfl, hj, hb⟩; replace HB := lh (HB.out.trans (hb.mono HB.out.size)); replace N := lh (N.out.below hb); replace U := lh (U.out.keep hb); replace F := lh (F.out.keep hb); replace T := lh (T.out.keep hb); replace D := lh (D.out.below hb); replace E := lh (E.out.below hb); replace J := lh (J.out.keep hb); clear hb
 go_wp2_with fail
 refine (aw_rep2 hj).mono ?_; rintro e w18 ⟨gk, rfl, hb⟩; replace HB := lh (HB.out.trans (hb.mono HB.out.size)); replace N := lh (N.out.below hb); replace U := lh (U.out.keep hb); replace F := lh (F.out.keep hb); replace T := lh (T.out.keep hb); replace D := lh (D.out.below hb); replace E := lh (E.out.below hb); replace J := lh (J.out.keep hb); clear hb; clear hj
 go_wp2_with fail
 refine (aw_track w18).mono ?_; rintro e w19 ⟨v, rfl, hj, hb⟩; replace HB := lh (HB.out.trans (hb.mono HB.out.size)); replace N := lh (N.out.below hb); replace U := lh (U.out.keep hb); replace F := lh (F.out.keep hb); replace T := lh (T.out.keep hb); replace D := lh (D.out.below hb); replace E := lh (E.out.below hb); replace J := lh (J.out.keep hb); clear hb
 go_wp2_with fail
 refine (aw_rep1 hj).mono ?_; rintro e w20 ⟨rfl, hb⟩; replace HB := lh (HB.out.trans (hb.mono HB.out.size)); replace N := lh (N.out.below hb); replace U := lh (U.out.keep hb); replace F := lh (F.out.keep hb); replace T := lh (T.out.keep hb); replace D := lh (D.out.below hb); replace E := lh (E.out.below hb); replace J := lh (J.out.keep hb); clear hb; clear hj
 go_upto_region 13 with fail
 have DD := D.out; have EE := E.out; have dc0 := DD.cell 0; have df0 := DD.frozen 0; have dc1 := DD.cell 1; have df1 := DD.frozen 1; have dc2 := DD.cell 2; have df2 := DD.frozen 2; have dc3 := DD.cell 3; have df3 := DD.frozen 3; have dc4 := DD.cell 4; have df4 := DD.frozen 4; have dc5 := DD.cell 5; have df5 := DD.frozen 5; simp only [List.getElem?_toArray, List.getElem?_cons_zero, List.getElem?_cons_succ] at dc0 dc1 dc2 dc3 dc4 dc5; clear DD; have ec0 := EE.cell 0; have ef0 := EE.frozen 0; have ec1 := EE.cell 1; have ef1 := EE.frozen 1; simp only [List.getElem?_toArray, List.getElem?_cons_zero, List.getElem?_cons_succ] at ec0 ec1; clear EE
 go_wp2_with fail
 refine Calls.mono (sameInts_any _ _ 2 2 _ _ [61, 40] [61, 40] _ (by omega) (by omega) (J.out.keep ((Below.refl _ _).alloc (Nat.le_refl _) _)) (ints2 _ _ _ _)) ?_; rintro e w21 ⟨rfl, q, hw⟩; have hb : Below w20.heap.size w20 w21 := hw ▸ below_drewN' ((Below.refl _ _).alloc (Nat.le_refl _) _) q; clear hw dc0 dc1 dc2 dc3 dc4 dc5 df0 df1 df2 df3 df4 df5 ec0 ec1 ef0 ef1; replace HB := lh (HB.out.trans (hb.mono HB.out.size)); replace N := lh (N.out.below hb); replace U := lh (U.out.keep hb); replace F := lh (F.out.keep hb); replace T := lh (T.out.keep hb); replace D := lh (D.out.below hb); replace E := lh (E.out.below hb); replace J := lh (J.out.keep hb); clear hb; clear D E J; rw [show sameB [61, 40] [61, 40] = true from sameB_true rfl]
 go_upto_region 15 with fail
 obtain ⟨u0, u1, u2, u3, u4, u5, u6, u7, u8, u9, u10, u11, u12, u13, u14, u15⟩ := turn_cells U.out; have HTI : Hid (∀ j : Nat, j < 8 -> ∀ W, (Instr.index 165 (.agg turnA) (.int .i64 j)).run Tryz.prog W = .ok (.agg #[.int .i64 (turnX.getD j 0), .int .i64 (turnY.getD j 0)]) W) := turn_index; have hlit : #[.int .i64 3, .int .i64 1, .int .i64 2, .int .i64 2, .int .i64 0, .int .i64 5, .int .i64 (-2), .int .i64 2, .int .i64 (-3), .int .i64 0, .int .i64 (-1), .int .i64 (-1), .int .i64 0, .int .i64 (-4), .int .i64 2, .int .i64 (-2)] = turnA := rfl
 go_upto_region 16 with fail
 clear u0 u1 u2 u3 u4 u5 u6 u7 u8 u9 u10 u11 u12 u13 u14 u15 hlit
 go_loopw [185] (fun i wr => ∃ j : Nat, j <= 8 /\ i = .int .i64 j /\ Hid (Below w21.heap.size w21 wr)) (fun i _ => 8 - (intOf i).toNat)
 case atStart => exact ⟨0, by omega, rfl, Below.refl _ _⟩
 case round =>
  obtain ⟨j, hj, rfl, hbr⟩ := hrel
  by_cases hlt : j < 8
  ·obtain ⟨hs, hx, hy⟩ := v_turn j hlt; have hidx := HTI.out j hlt; obtain ⟨x, hx0⟩ : ∃ x, x = turnX.getD j 0 := ⟨_, rfl⟩; obtain ⟨y, hy0⟩ : ∃ y, y = turnY.getD j 0 := ⟨_, rfl⟩; rw [<- hx0, <- hy0] at hs; rw [<- hx0] at hx hidx; rw [<- hy0] at hy hidx; have HSE := lh (fun W => Sector_ok 1 0 x y W (by omega) (by omega) hx hy); rw [hs] at HSE; clear hx0 hy0 hx hy hs
   go_upto_region 18 with fail
   obtain ⟨wa, hwa⟩ : ∃ W, W = (wr.alloc (.cells #[.int .i64 x, .int .i64 y] 30)) := ⟨_, rfl⟩; rw [<- hwa]; have B : Hid (Blk wa (wr.heap.size) 30 #[.int .i64 x, .int .i64 y]) := by show Blk _ _ _ _; rw [hwa]; exact Blk.new _ _ _
   have hba : Below wr.heap.size wr wa := by rw [hwa]; exact ((Below.refl _ _).alloc (Nat.le_refl _) _)
   obtain ⟨g26, hg26⟩ : ∃ g, g = wr.heap.size := ⟨_, rfl⟩; have HGwa : Hid (g26 = wr.heap.size) := hg26; rw [<- hg26] at B
   try rw [<- hg26]
   clear hwa hg26; have BB := B.out; have zc0 := BB.cell 0; have zf0 := BB.frozen 0; have zc1 := BB.cell 1; have zf1 := BB.frozen 1; simp only [List.getElem?_toArray, List.getElem?_cons_zero, List.getElem?_cons_succ] at zc0 zc1; clear BB; replace hbr := lh (hbr.out.trans (hba.mono hbr.out.size)); clear hba B hidx
   go_wp2_with fail
   refine (HSE.out wa).mono ?_; rintro e wb ⟨rfl, hb⟩; replace hbr := lh (hbr.out.trans (hb.mono hbr.out.size)); clear hb zc0 zc1 zf0 zf1 HSE; go_wp2; go_roundw
   case rel => exact ⟨j + 1, by omega, by go_num, hbr⟩
   case measure => simp [intOf]; omega
  ·obtain rfl : j = 8 := by omega
   have hb := hbr.out; obtain ⟨wL, rfl⟩ : ∃ X, X = wr := ⟨_, rfl⟩; replace HB := lh (HB.out.trans (hb.mono HB.out.size)); replace N := lh (N.out.below hb); replace F := lh (F.out.keep hb); replace T := lh (T.out.keep hb); clear hb; clear U HTI hbr
   go_upto_region 23 with fail
   obtain ⟨wS, hwS⟩ : ∃ W, W = (wL.alloc (.cells #[.int .i64 0, .int .i64 0, .int .i64 100, .int .i64 10, .int .i64 50, .int .i64 80] 166)) := ⟨_, rfl⟩; rw [<- hwS]; have SB : Hid (Blk wS (wL.heap.size) 166 #[.int .i64 0, .int .i64 0, .int .i64 100, .int .i64 10, .int .i64 50, .int .i64 80]) := by show Blk _ _ _ _; rw [hwS]; exact Blk.new _ _ _
   have hb : Below wL.heap.size wL wS := by rw [hwS]; exact ((Below.refl _ _).alloc (Nat.le_refl _) _)
   obtain ⟨gs, hgs⟩ : ∃ g, g = wL.heap.size := ⟨_, rfl⟩; have HGwS : Hid (gs = wL.heap.size) := hgs; rw [<- hgs] at SB
   try rw [<- hgs]
   clear hwS hgs; replace HB := lh (HB.out.trans (hb.mono HB.out.size)); replace N := lh (N.out.below hb); replace F := lh (F.out.keep hb); replace T := lh (T.out.keep hb); clear hb
   go_wp2_with fail
   obtain ⟨wP, hwP⟩ : ∃ W, W = (wS.alloc (.cells #[.int .i64 0, .int .i64 0, .int .i64 10, .int .i64 0, .int .i64 10, .int .i64 5] 30)) := ⟨_, rfl⟩; rw [<- hwP]; have PB : Hid (Blk wP (wS.heap.size) 30 #[.int .i64 0, .int .i64 0, .int .i64 10, .int .i64 0, .int .i64 10, .int .i64 5]) := by show Blk _ _ _ _; rw [hwP]; exact Blk.new _ _ _
   have hb : Below wS.heap.size wS wP := by rw [hwP]; exact ((Below.refl _ _).alloc (Nat.le_refl _) _)
   obtain ⟨gp, hgp⟩ : ∃ g, g = wS.heap.size := ⟨_, rfl⟩; have HGwP : Hid (gp = wS.heap.size) := hgp; rw [<- hgp] at PB
   try rw [<- hgp]
   clear hwP hgp; replace HB := lh (HB.out.trans (hb.mono HB.out.size)); replace N := lh (N.out.below hb); replace F := lh (F.out.keep hb); replace T := lh (T.out.keep hb); replace SB := lh (SB.out.below hb); clear hb; refine (aw_flown (pts_at PB.out) (sps_at SB.out)).mono ?_; rintro e wF ⟨gf, rfl, hfx, hb⟩; have FL := lh hfx; clear hfx PB SB; replace HB := lh (HB.out.trans (hb.mono HB.out.size)); replace N := lh (N.out.below hb); replace F := lh (F.out.keep hb); replace T := lh (T.out.keep hb); clear hb
   go_wp2_with fail
   refine (aw_track wF).mono ?_; rintro e wG ⟨va, rfl, hja, hb⟩; obtain ⟨ga, rfl, ha⟩ := hja.is; have HA := lh ha; clear hja ha; replace HB := lh (HB.out.trans (hb.mono HB.out.size)); replace N := lh (N.out.below hb); replace F := lh (F.out.keep hb); replace T := lh (T.out.keep hb); replace FL := lh (FL.out.keep hb); clear hb
   go_wp2_with fail
   refine (aw_track wG).mono ?_; rintro e wH ⟨vb, rfl, hjb, hb⟩; obtain ⟨gb, rfl, hc⟩ := hjb.is; have HC := lh hc; clear hjb hc; replace HB := lh (HB.out.trans (hb.mono HB.out.size)); replace N := lh (N.out.below hb); replace F := lh (F.out.keep hb); replace T := lh (T.out.keep hb); replace FL := lh (FL.out.keep hb); replace HA := lh (HA.out.keep hb); clear hb
   go_upto_region 25 with fail
   obtain ⟨wI, hwI⟩ : ∃ W, W = (wH.alloc (.cells #[.string ⟨#[111, 110, 101]⟩, .string ⟨#[106, 101, 116]⟩, .slice (some ⟨ga, 0, none⟩) 2 2, .string ⟨#[116, 119, 111]⟩, .string ⟨#[106, 101, 116]⟩, .slice (some ⟨gb, 0, none⟩) 2 2] 168)) := ⟨_, rfl⟩; rw [<- hwI]; have GF : Hid (Blk wI (wH.heap.size) 168 #[.string ⟨#[111, 110, 101]⟩, .string ⟨#[106, 101, 116]⟩, .slice (some ⟨ga, 0, none⟩) 2 2, .string ⟨#[116, 119, 111]⟩, .string ⟨#[106, 101, 116]⟩, .slice (some ⟨gb, 0, none⟩) 2 2]) := by show Blk _ _ _ _; rw [hwI]; exact Blk.new _ _ _
   have hb : Below wH.heap.size wH wI := by rw [hwI]; exact ((Below.refl _ _).alloc (Nat.le_refl _) _)
   obtain ⟨gq, hgq⟩ : ∃ g, g = wH.heap.size := ⟨_, rfl⟩; have HGwI : Hid (gq = wH.heap.size) := hgq; rw [<- hgq] at GF
   try rw [<- hgq]
   clear hwI hgq; replace HB := lh (HB.out.trans (hb.mono HB.out.size)); replace N := lh (N.out.below hb); replace F := lh (F.out.keep hb); replace T := lh (T.out.keep hb); replace FL := lh (FL.out.keep hb); replace HA := lh (HA.out.keep hb); replace HC := lh (HC.out.keep hb); clear hb; have FS := lh (two_fls GF.out HA.out HC.out); clear HA HC GF; refine wp_region_allN 10 rfl (by kernel_rfl) (by kernel_rfl) [GR.jet, GR.tys, GR.eq (.slice (some ⟨gq, 0, none⟩) 2 2), GR.eq (.agg #[.int .i64 4, .int .i64 2, .int .i64 0]), GR.eq (.tuple #[.int .i64 5400, .int .i64 0]), GR.eq (.tuple #[.int .i64 5400, .int .i64 0]), GR.eq (.int .i64 5400), GR.eq (.int .i64 0), GR.eq (.int .i64 5400), GR.eq (.int .i64 0)] 298 rfl (by kernel_rfl) ?_ ?_
   ·refine ⟨?_, ?_, ?_, ?_, ?_, ?_, ?_, ?_, ?_, ?_, trivial⟩
    ·intro a W hE hd ho; refine gs_call (f := 85) (args := #[]) (by go_simp) ?_; refine (aw_jet W).mono ?_; rintro e w' ⟨v, rfl, hj, hb⟩; exact ⟨v, rfl, hb, hj⟩
    ·intro a W hE hd ho; have j0 : JetIs (a.tmps[221]?.getD undef) W := hd 0 221 (by kernel_rfl) (by kernel_rfl); obtain ⟨x0, e221⟩ : ∃ x, a.tmps[221]?.getD undef = x := ⟨_, rfl⟩; rw [e221] at j0; obtain ⟨q1, q2, q5, rfl⟩ := j0.lit; exact gs_val (v := .slice (some ⟨W.heap.size, 0, none⟩) 1 1) (W' := W.alloc (.cells (jetV q1 q2 q5) 42)) (by unfold jetV at e221 ⊢; go_simp) ((Below.refl _ _).alloc (Nat.le_refl _) _) ⟨jetV q1 q2 q5, W.heap.size, rfl, Blk.new _ _ _, j0.keep ((Below.refl _ _).alloc (Nat.le_refl _) _)⟩
    ·intro a W hE hd ho; have e32 : a.tmps[32]?.getD undef = .slice (some ⟨gq, 0, none⟩) 2 2 := ho 32 (by kernel_rfl); exact gs_same (v := .slice (some ⟨gq, 0, none⟩) 2 2) (by go_simp) rfl
    ·intro a W hE hd ho; have e1 : a.tmps[1]?.getD undef = .pointer (some ⟨g1, 0, none⟩) := ho 1 (by kernel_rfl); obtain ⟨k0, k1, k2⟩ := near_cells N.out hE; exact gs_same (v := .agg #[.int .i64 4, .int .i64 2, .int .i64 0]) (by go_simp) rfl
    ·intro a W hE hd ho; have e223 : a.tmps[223]?.getD undef = .slice (some ⟨gq, 0, none⟩) 2 2 := hd 2 223 (by kernel_rfl) (by kernel_rfl); have e224 : a.tmps[224]?.getD undef = .agg #[.int .i64 4, .int .i64 2, .int .i64 0] := hd 3 224 (by kernel_rfl) (by kernel_rfl); have j1 : TysIs (a.tmps[222]?.getD undef) W := hd 1 222 (by kernel_rfl) (by kernel_rfl); obtain ⟨x1, e222⟩ : ∃ x, a.tmps[222]?.getD undef = x := ⟨_, rfl⟩; rw [e222] at j1; refine gs_call (f := 63) (args := #[x1, .slice (some ⟨gq, 0, none⟩) 2 2, .agg #[.int .i64 4, .int .i64 2, .int .i64 0]]) (by go_simp) ?_; refine (aw_total j1 (FS.out.keep hE)).mono ?_; rintro e w' ⟨rfl, hb⟩; exact ⟨_, rfl, hb, rfl⟩
    ·intro a W hE hd ho; have e225 : a.tmps[225]?.getD undef = .tuple #[.int .i64 5400, .int .i64 0] := hd 4 225 (by kernel_rfl) (by kernel_rfl); exact gs_same (v := .tuple #[.int .i64 5400, .int .i64 0]) (by go_simp) rfl
    ·intro a W hE hd ho; have e220 : a.tmps[220]?.getD undef = .tuple #[.int .i64 5400, .int .i64 0] := hd 5 220 (by kernel_rfl) (by kernel_rfl); exact gs_same (v := .int .i64 5400) (by go_simp) rfl
    ·intro a W hE hd ho; have e220 : a.tmps[220]?.getD undef = .tuple #[.int .i64 5400, .int .i64 0] := hd 5 220 (by kernel_rfl) (by kernel_rfl); exact gs_same (v := .int .i64 0) (by go_simp) rfl
    ·intro a W hE hd ho; have e226 : a.tmps[226]?.getD undef = .int .i64 5400 := hd 6 226 (by kernel_rfl) (by kernel_rfl); exact gs_same (v := .int .i64 5400) (by go_simp) rfl
    ·intro a W hE hd ho; have e227 : a.tmps[227]?.getD undef = .int .i64 0 := hd 7 227 (by kernel_rfl) (by kernel_rfl); exact gs_same (v := .int .i64 0) (by go_simp) rfl
   intro vs wJ hE hR; obtain ⟨v0, y0⟩ : ∃ v, vs 0 = v := ⟨_, rfl⟩; obtain ⟨v1, y1⟩ : ∃ v, vs 1 = v := ⟨_, rfl⟩; have y2 : vs 2 = .slice (some ⟨gq, 0, none⟩) 2 2 := hR 2 (by omega); have y3 : vs 3 = .agg #[.int .i64 4, .int .i64 2, .int .i64 0] := hR 3 (by omega); have y4 : vs 4 = .tuple #[.int .i64 5400, .int .i64 0] := hR 4 (by omega); have y5 : vs 5 = .tuple #[.int .i64 5400, .int .i64 0] := hR 5 (by omega); have y6 : vs 6 = .int .i64 5400 := hR 6 (by omega); have y7 : vs 7 = .int .i64 0 := hR 7 (by omega); have y8 : vs 8 = .int .i64 5400 := hR 8 (by omega); have y9 : vs 9 = .int .i64 0 := hR 9 (by omega); simp only [List.range, List.range.loop, List.foldl_cons, List.foldl_nil, y0, y1, y2, y3, y4, y5, y6, y7, y8, y9, List.drop_succ_cons, List.drop_zero]; simp only [dstAt, List.getElem?_toArray, List.getElem?_cons_zero, List.getElem?_cons_succ, Option.bind_some, Act.put, List.setIfInBounds_toArray, List.set_cons_zero, List.set_cons_succ]
   clear y0 y1 y2 y3 y4 y5 y6 y7 y8 y9 hR; have hb := hE; replace HB := lh (HB.out.trans (hb.mono HB.out.size)); replace N := lh (N.out.below hb); replace F := lh (F.out.keep hb); replace T := lh (T.out.keep hb); replace FL := lh (FL.out.keep hb); replace FS := lh (FS.out.keep hb); clear hb; clear hE
   go_upto_region 26 with fail
   refine wp_region_allN 10 rfl (by kernel_rfl) (by kernel_rfl) [GR.jet, GR.tys, GR.eq (.slice (some ⟨gq, 0, none⟩) 2 2), GR.eq (.agg #[.int .i64 4, .int .i64 2, .int .i64 0]), GR.eq (.tuple #[.string oneN, .int .i64 0]), GR.eq (.tuple #[.string oneN, .int .i64 0]), GR.eq (.string oneN), GR.eq (.int .i64 0), GR.eq (.string oneN), GR.eq (.int .i64 0)] 298 rfl (by kernel_rfl) ?_ ?_
   ·refine ⟨?_, ?_, ?_, ?_, ?_, ?_, ?_, ?_, ?_, ?_, trivial⟩
    ·intro a W hE hd ho; refine gs_call (f := 85) (args := #[]) (by go_simp) ?_; refine (aw_jet W).mono ?_; rintro e w' ⟨v, rfl, hj, hb⟩; exact ⟨v, rfl, hb, hj⟩
    ·intro a W hE hd ho; have j0 : JetIs (a.tmps[229]?.getD undef) W := hd 0 229 (by kernel_rfl) (by kernel_rfl); obtain ⟨x0, e229⟩ : ∃ x, a.tmps[229]?.getD undef = x := ⟨_, rfl⟩; rw [e229] at j0; obtain ⟨q1, q2, q5, rfl⟩ := j0.lit; exact gs_val (v := .slice (some ⟨W.heap.size, 0, none⟩) 1 1) (W' := W.alloc (.cells (jetV q1 q2 q5) 42)) (by unfold jetV at e229 ⊢; go_simp) ((Below.refl _ _).alloc (Nat.le_refl _) _) ⟨jetV q1 q2 q5, W.heap.size, rfl, Blk.new _ _ _, j0.keep ((Below.refl _ _).alloc (Nat.le_refl _) _)⟩
    ·intro a W hE hd ho; have e32 : a.tmps[32]?.getD undef = .slice (some ⟨gq, 0, none⟩) 2 2 := ho 32 (by kernel_rfl); exact gs_same (v := .slice (some ⟨gq, 0, none⟩) 2 2) (by go_simp) rfl
    ·intro a W hE hd ho; have e1 : a.tmps[1]?.getD undef = .pointer (some ⟨g1, 0, none⟩) := ho 1 (by kernel_rfl); obtain ⟨k0, k1, k2⟩ := near_cells N.out hE; exact gs_same (v := .agg #[.int .i64 4, .int .i64 2, .int .i64 0]) (by go_simp) rfl
    ·intro a W hE hd ho; have e231 : a.tmps[231]?.getD undef = .slice (some ⟨gq, 0, none⟩) 2 2 := hd 2 231 (by kernel_rfl) (by kernel_rfl); have e232 : a.tmps[232]?.getD undef = .agg #[.int .i64 4, .int .i64 2, .int .i64 0] := hd 3 232 (by kernel_rfl) (by kernel_rfl); have j1 : TysIs (a.tmps[230]?.getD undef) W := hd 1 230 (by kernel_rfl) (by kernel_rfl); obtain ⟨x1, e230⟩ : ∃ x, a.tmps[230]?.getD undef = x := ⟨_, rfl⟩; rw [e230] at j1; refine gs_call (f := 67) (args := #[x1, .slice (some ⟨gq, 0, none⟩) 2 2, .agg #[.int .i64 4, .int .i64 2, .int .i64 0]]) (by go_simp) ?_; refine (aw_loud j1 (FS.out.keep hE)).mono ?_; rintro e w' ⟨rfl, hb⟩; exact ⟨_, rfl, hb, rfl⟩
    ·intro a W hE hd ho; have e233 : a.tmps[233]?.getD undef = .tuple #[.string oneN, .int .i64 0] := hd 4 233 (by kernel_rfl) (by kernel_rfl); exact gs_same (v := .tuple #[.string oneN, .int .i64 0]) (by go_simp) rfl
    ·intro a W hE hd ho; have e228 : a.tmps[228]?.getD undef = .tuple #[.string oneN, .int .i64 0] := hd 5 228 (by kernel_rfl) (by kernel_rfl); exact gs_same (v := .string oneN) (by go_simp) rfl
    ·intro a W hE hd ho; have e228 : a.tmps[228]?.getD undef = .tuple #[.string oneN, .int .i64 0] := hd 5 228 (by kernel_rfl) (by kernel_rfl); exact gs_same (v := .int .i64 0) (by go_simp) rfl
    ·intro a W hE hd ho; have e234 : a.tmps[234]?.getD undef = .string oneN := hd 6 234 (by kernel_rfl) (by kernel_rfl); exact gs_same (v := .string oneN) (by go_simp) rfl
    ·intro a W hE hd ho; have e235 : a.tmps[235]?.getD undef = .int .i64 0 := hd 7 235 (by kernel_rfl) (by kernel_rfl); exact gs_same (v := .int .i64 0) (by go_simp) rfl
   intro vs wK hE hR; obtain ⟨v0, y0⟩ : ∃ v, vs 0 = v := ⟨_, rfl⟩; obtain ⟨v1, y1⟩ : ∃ v, vs 1 = v := ⟨_, rfl⟩; have y2 : vs 2 = .slice (some ⟨gq, 0, none⟩) 2 2 := hR 2 (by omega); have y3 : vs 3 = .agg #[.int .i64 4, .int .i64 2, .int .i64 0] := hR 3 (by omega); have y4 : vs 4 = .tuple #[.string oneN, .int .i64 0] := hR 4 (by omega); have y5 : vs 5 = .tuple #[.string oneN, .int .i64 0] := hR 5 (by omega); have y6 : vs 6 = .string oneN := hR 6 (by omega); have y7 : vs 7 = .int .i64 0 := hR 7 (by omega); have y8 : vs 8 = .string oneN := hR 8 (by omega); have y9 : vs 9 = .int .i64 0 := hR 9 (by omega); simp only [List.range, List.range.loop, List.foldl_cons, List.foldl_nil, y0, y1, y2, y3, y4, y5, y6, y7, y8, y9, List.drop_succ_cons, List.drop_zero]; simp only [dstAt, List.getElem?_toArray, List.getElem?_cons_zero, List.getElem?_cons_succ, Option.bind_some, Act.put, List.setIfInBounds_toArray, List.set_cons_zero, List.set_cons_succ]
   clear y0 y1 y2 y3 y4 y5 y6 y7 y8 y9 hR; have hb := hE; replace HB := lh (HB.out.trans (hb.mono HB.out.size)); replace N := lh (N.out.below hb); replace F := lh (F.out.keep hb); replace T := lh (T.out.keep hb); replace FL := lh (FL.out.keep hb); replace FS := lh (FS.out.keep hb); clear hb; clear hE; clear FS
   go_wp2_with fail
   refine (aw_jet wK).mono ?_; rintro e wM ⟨v, rfl, hj, hb⟩; replace HB := lh (HB.out.trans (hb.mono HB.out.size)); replace N := lh (N.out.below hb); replace F := lh (F.out.keep hb); replace T := lh (T.out.keep hb); replace FL := lh (FL.out.keep hb); clear hb
   go_wp2_with fail
   refine (aw_print hj F.out T.out).mono ?_; rintro e wN ⟨rfl, hb⟩; replace HB := lh (HB.out.trans (hb.mono HB.out.size)); replace N := lh (N.out.below hb); replace FL := lh (FL.out.keep hb); clear hb; clear hj F T
   go_wp2_with fail
   refine (aw_track wN).mono ?_; rintro e wO ⟨v, rfl, hj, hb⟩; replace HB := lh (HB.out.trans (hb.mono HB.out.size)); replace N := lh (N.out.below hb); replace FL := lh (FL.out.keep hb); clear hb
   go_wp2_with fail
   refine (aw_at9 hj).mono ?_; rintro e wP ⟨rfl, hb⟩; replace HB := lh (HB.out.trans (hb.mono HB.out.size)); replace N := lh (N.out.below hb); replace FL := lh (FL.out.keep hb); clear hb; clear hj
   go_upto_region 29 with fail
   obtain ⟨wQ, hwQ⟩ : ∃ W, W = (wP.alloc (.cells #[.int .i64 0, .int .i64 0, .int .i64 0, .int .i64 0, .int .i64 0, .int .i64 0] 46)) := ⟨_, rfl⟩; rw [<- hwQ]; have SX : Hid (Blk wQ (wP.heap.size) 46 #[.int .i64 0, .int .i64 0, .int .i64 0, .int .i64 0, .int .i64 0, .int .i64 0]) := by show Blk _ _ _ _; rw [hwQ]; exact Blk.new _ _ _
   have hb : Below wP.heap.size wP wQ := by rw [hwQ]; exact ((Below.refl _ _).alloc (Nat.le_refl _) _)
   obtain ⟨g39, hg39⟩ : ∃ g, g = wP.heap.size := ⟨_, rfl⟩; have HGwQ : Hid (g39 = wP.heap.size) := hg39; rw [<- hg39] at SX
   try rw [<- hg39]
   clear hwQ hg39; replace HB := lh (HB.out.trans (hb.mono HB.out.size)); replace N := lh (N.out.below hb); replace FL := lh (FL.out.keep hb); clear hb; clear SX N; obtain ⟨z0, z1, z2, z3, z4, z5, z6, z7, z8, z9, z10, z11, z12, z13, z14⟩ := fl_cells FL.out; have j1 := jet_lit1; have j2 := jet_lit2; have j3 := one_lit; clear FL; go_wp2; go_ret; exact ⟨rfl, HB.out⟩
end Go.Proofs.YtmafmebcgmegeaaGreatDoor
