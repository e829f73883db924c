/- Part. -/
import Derived.Test.YtmafmebcgmegeaaGreatDoorGz20
import Derived.Test.YtmafmebcgmegeaaGreatDoorGz21
import Derived.Test.YtmafmebcgmegeaaGreatDoorGz23
import Derived.Test.YtmafmebcgmegeaaGreatDoorGz17
import Derived.Test.YtmafmebcgmegeaaGreatDoorGz7
import Derived.Test.YtmafmebcgmegeaaGreatDoorGz1
import Derived.Test.YtmafmebcgmegeaaGreatDoorGz2
import Derived.Test.YtmafmebcgmegeaaGreatDoorGz11
import Derived.Test.YtmafmebcgmegeaaGreatDoorGz12
import Derived.Test.YtmafmebcgmegeaaGreatDoorGz13
namespace Go.Proofs.YtmafmebcgmegeaaGreatDoor
open Go.RowKit Go.Sort
def jetN : ByteArray := ⟨#[106, 101, 116]⟩
def jetS : List Int := [600, 400]
def jetT : Bell.Ty := ⟨[1000, 1000, 1000, 1000, 500, 500, 500, 500], 500, [0, 100], [(10, [1000, 400]), (20, [2000, 600])]⟩
def trkL : List Bell.Fx := [⟨5, 0, 0, 0, 10⟩, ⟨9, 8, 0, 0, 20⟩]
def nearP : Bell.Pl := ⟨4, 2, 0⟩
def oneN : ByteArray := ⟨#[111, 110, 101]⟩
def twoN : ByteArray := ⟨#[116, 119, 111]⟩
theorem name3 (a b c : UInt8) (ha : okAt a.toNat 0 = true) (hb : okAt b.toNat 1 = true) (hc : okAt c.toNat 2 = true) : nameB ⟨#[a, b, c]⟩ = true :=
 nameB_true ⟨show 1 <= 3 by omega, show 3 <= 24 by omega, fun i h => by
  have h3 : i < 3 := h
  match i, h3 with
  | 0, _ => exact ha
  | 1, _ => exact hb
  | 2, _ => exact hc⟩
theorem jet_name : nameB jetN = true := name3 _ _ _ (by decide) (by decide) (by decide)
theorem one_name : nameB oneN = true := name3 _ _ _ (by decide) (by decide) (by decide)
theorem two_name : nameB twoN = true := name3 _ _ _ (by decide) (by decide) (by decide)
theorem jet_good : GoodT jetS jetT := ⟨rfl, by kernel_rfl⟩
theorem near_good : GoodPl nearP := ⟨by decide, by decide, by decide⟩
theorem trk_zero : trackE trkL = 0 := by kernel_rfl
theorem trk_good : Bell.GoodTr trkL := goodTr_of trk_zero
theorem v_em1 : Bell.emis jetT.sets (Bell.reachOf jetT.squares 99) 15 = 1500 := by kernel_rfl
theorem v_em2 : Bell.emis jetT.sets (Bell.reachOf jetT.squares 100) 15 = 500 := by kernel_rfl
theorem v_em3 : Bell.emis jetT.sets (Bell.reachOf jetT.squares 0) 30 = 2000 := by kernel_rfl
theorem v_st6 : Bell.stAt trkL 6 = ⟨2, 0, 0, 8, 0, 12⟩ := by kernel_rfl
theorem v_ex1 : Bell.expoOf jetT trkL nearP 0 100000000 = 2700 := by kernel_rfl
theorem v_ex2 : Bell.expoOf jetT trkL nearP 6 8 = 1350 := by kernel_rfl
theorem v_mx : Bell.maxF (Bell.heardAt jetT trkL nearP) 5 4 = (850, 8) := by kernel_rfl
theorem v_lo : Bell.encLow jetT trkL nearP 1 = 1000 := by kernel_rfl
theorem v_hi : Bell.encHigh jetT trkL nearP 1 = 8000 := by kernel_rfl
theorem v_b0 : bandAt jetS 101 2 0 = 61 := by kernel_rfl
theorem v_b1 : bandAt jetS 101 2 1 = 40 := by kernel_rfl
theorem v_r2 : Bell.repair 2 trkL = trkL := by kernel_rfl
theorem v_r1 : Bell.repair 1 trkL = [⟨5, 0, 0, 0, 10⟩] := by kernel_rfl
def ptsL : List Bell.Pt := [⟨0, 0⟩, ⟨10, 0⟩, ⟨10, 5⟩]
def spsL : List Bell.Sp := [⟨0, 0, 100⟩, ⟨10, 50, 80⟩]
theorem v_fE : flownE ptsL spsL 4 100 = 0 := by kernel_rfl
theorem v_fF : flownF ptsL spsL 4 100 = 0 := by kernel_rfl
theorem v_fl : Bell.flown ptsL spsL 4 100 = [⟨100, 0, 0, 0, 100⟩, ⟨103, 10, 0, 50, 80⟩, ⟨104, 10, 5, 50, 80⟩] := by kernel_rfl
def jetPr : ByteArray := ⟨#[116, 121, 112, 101, 32, 106, 101, 116, 32, 53, 48, 48, 10, 115, 104, 97, 114, 101, 115, 32, 54, 48, 48, 32, 52, 48, 48, 10, 100, 105, 114, 101, 99, 116, 32, 49, 48, 48, 48, 32, 49, 48, 48, 48, 32, 49, 48, 48, 48, 32, 49, 48, 48, 48, 32, 53, 48, 48, 32, 53, 48, 48, 32, 53, 48, 48, 32, 53, 48, 48, 10, 115, 113, 117, 97, 114, 101, 115, 32, 48, 32, 49, 48, 48, 10, 112, 111, 119, 101, 114, 32, 49, 48, 32, 49, 48, 48, 48, 32, 52, 48, 48, 10, 112, 111, 119, 101, 114, 32, 50, 48, 32, 50, 48, 48, 48, 32, 54, 48, 48, 10]⟩
theorem v_pr : typeB jetN jetS jetT = jetPr := by kernel_rfl
def turnX : List Int := [3, 2, 0, -2, -3, -1, 0, 2]
def turnY : List Int := [1, 2, 5, 2, 0, -1, -4, -2]
theorem v_turn : ∀ n, n < 8 -> Bell.sectorOf 1 0 (turnX.getD n 0) (turnY.getD n 0) = n /\ (-200000 <= turnX.getD n 0 /\ turnX.getD n 0 <= 200000) /\ (-200000 <= turnY.getD n 0 /\ turnY.getD n 0 <= 200000) := by decide
def twoFl (A B : Option Addr) (ca cb : Nat) : List Fl := [⟨oneN, jetN, trkL, A, 2, ca⟩, ⟨twoN, jetN, trkL, B, 2, cb⟩]
def expV (_ : Nat) : Int := 2700
theorem listed_two (t : Tp) (h1 : t.nm = jetN) (h2 : t.T = jetT) (A B : Option Addr) (ca cb : Nat) : Listed [t] 1 (twoFl A B ca cb) 2 nearP expV where
 names := fun i j h1 h2 => by omega
 few := by omega
 fine := by
  have hk : knownB (kesTo [t] 1) jetN = true := by
   have := kesTo_has (ts := [t]) (n := 1) (k := 0) (fun i j h1 h2 => by omega) (by omega); rw [show (tpAt [t] 0).nm = jetN from h1] at this; unfold knownB; rw [this]
   rfl
  have e0 : flAtE (kesTo [t] 1) (twoFl A B ca cb) 0 = 0 := by
   show firstE [nameE oneN, twiceE [] oneN, knownE (knownB (kesTo [t] 1) jetN), trackE trkL] = 0
   rw [hk, trk_zero, show nameE oneN = 0 by unfold nameE; rw [if_pos one_name]]
   rfl
  have e1 : flAtE (kesTo [t] 1) (twoFl A B ca cb) 1 = 0 := by
   show firstE [nameE twoN, twiceE (addN [] oneN) twoN, knownE (knownB (kesTo [t] 1) jetN), trackE trkL] = 0
   rw [hk, trk_zero, show nameE twoN = 0 by unfold nameE; rw [if_pos two_name]]
   have ht : twiceE (addN [] oneN) twoN = 0 := by
    unfold twiceE addN; rw [if_neg (by decide)]
   rw [ht]
   rfl
  show andE 0 (firstR (flAtE (kesTo [t] 1) (twoFl A B ca cb)) 2) = 0
  rw [andE_0 rfl]
  exact firstR_miss fun i hi => by
   match i, hi with
   | 0, _ => exact e0
   | 1, _ => exact e1
 place := near_good
 val := fun i hi => by
  refine ⟨0, by omega, ?_, ?_⟩
  ·match i, hi with
   | 0, _ => exact h1
   | 1, _ => exact h1
  ·rw [show (tpAt [t] 0).T = jetT from h2]
   match i, hi with
   | 0, _ => exact v_ex1.symm
   | 1, _ => exact v_ex1.symm
theorem v_tot : totTo expV 2 = 5400 := by kernel_rfl
theorem v_best : bestTo expV 1 = 0 := by decide
set_option maxHeartbeats 2000000 in
set_option maxRecDepth 100000 in
theorem At_late (b off n c : Nat) (l : List Bell.Fx) (k : Int) (w : World) (hl : FixesAt w b off n l) (hg : Bell.GoodTr l) (h1 : (Bell.fxAt l 0).t <= k) (h2 : (Bell.fxAt l (l.length - 1)).t <= k) :
  Calls Tryz.prog 35 #[.slice (some ⟨b, off, none⟩) n c, .int .i64 k] w fun e w' => e = .returned (.tuple #[.agg #[.int .i64 0, .int .i64 0, .int .i64 0, .int .i64 0, .int .i64 0, .int .i64 0], .int .i64 7]) /\ Below w.heap.size w w' := by
 have hn := hl.1; have n1 := hg.lo; have n2 := hg.hi; obtain ⟨m, rfl⟩ : ∃ m, n = m + 1 := ⟨n - 1, by omega⟩; have HC := lh (fun W (hb : Below w.heap.size w W) => CheckTrack_ok b off (m + 1) c l W (hl.keep hb) hg); have HE := lh (fun W (hb : Below w.heap.size w W) => last_any b off m c l W (hl.keep hb) (by omega)); have H0 := lh (fun W (hb : Below w.heap.size w W) => ((hl.keep hb).2 0 (by omega)).1); rw [hn, Nat.add_sub_cancel] at h2; obtain ⟨A, hA⟩ : ∃ A, A = Bell.fxAt l 0 := ⟨_, rfl⟩; obtain ⟨B, hB⟩ : ∃ B, B = Bell.fxAt l m := ⟨_, rfl⟩; rw [<- hA] at h1 H0; rw [<- hB] at h2 HE; have hd1 : decide (k < A.t) = false := decide_eq_false (by omega); have hd2 : decide (B.t <= k) = true := decide_eq_true h2; have hfl := fix_tick B.t B.x B.y B.z B.p; have hm : 1 <= m := by omega
 clear hl hg h1 h2 hn n1 n2 hA hB
 go_enter Tryz.func35, Tryz.ntmps35
 go_upto_region 1 with fail
 obtain ⟨w1, hw1⟩ : ∃ X, X = w.alloc (.cells #[.int .i64 0, .int .i64 0, .int .i64 0, .int .i64 0, .int .i64 0, .int .i64 0] 46) := ⟨_, rfl⟩; rw [<- hw1]; have HZ : Hid (Blk w1 w.heap.size 46 #[.int .i64 0, .int .i64 0, .int .i64 0, .int .i64 0, .int .i64 0, .int .i64 0]) := by show Blk _ _ _ _; rw [hw1]; exact Blk.new _ _ _
 have HB : Hid (Below w.heap.size w w1) := by show Below _ _ _; rw [hw1]; exact (Below.refl _ _).alloc (Nat.le_refl _) _
 obtain ⟨gz, hgz⟩ : ∃ g, g = w.heap.size := ⟨_, rfl⟩; rw [<- hgz] at HZ ⊢; have HG := lh hgz; clear hw1 hgz
 go_wp2_with fail
 refine (HC.out w1 HB.out).mono ?_; rintro e w2 ⟨rfl, hb2⟩; have HZ2 := lh (HZ.out.below hb2); have HB2 := lh (HB.out.trans (hb2.mono HB.out.size)); clear hb2 HZ HB HC; have c0 := H0.out w2 HB2.out; simp only [Nat.zero_mul, Nat.add_zero] at c0
 go_wp2_with fail
 refine (HE.out w2 HB2.out).mono ?_; rintro e w3 ⟨rfl, hb3⟩; have HZ3 := lh (HZ2.out.below hb3); have HB3 := lh (HB2.out.trans (hb3.mono HB2.out.size)); clear hb3 HZ2 HB2 HE c0 H0; simp only [fxV]; have hlv := (HZ3.out.setRow #[.int .i64 0, .int .i64 0, .int .i64 0, .int .i64 0, .int .i64 0, .int .i64 0]).lv Tryz.prog (T := 46) Tryz.underlying46 rfl (by kernel_rfl); have HLV := lh hlv; clear hlv
 go_wp2_with (refine wpList_store_row rfl 46 _ _ rfl gz #[.int .i64 0, .int .i64 0, .int .i64 0, .int .i64 0, .int .i64 0, .int .i64 0] rfl rfl 46 _ HZ3.out (by kernel_rfl) rfl (by simp [Value.oneCell']) ?_)
 refine bodyPost_ret (v := .tuple #[.agg #[.int .i64 0, .int .i64 0, .int .i64 0, .int .i64 0, .int .i64 0, .int .i64 0], .int .i64 7]) (by simp [results, Tryz.results35, asAddr, HLV.out]) rfl ?_; exact ⟨rfl, HB3.out.setRow' (by rw [HG.out]; exact Nat.le_refl _) _⟩
def JetB (t : Tp) (w : World) : Prop := ∃ g1 g2 g3 g4 g5, t = ⟨jetN, jetS, jetT, some ⟨g1, 0, none⟩, 2, 2, g2, 0, 2, 2, g5, 0, 2, 2⟩ /\ Blk w g1 3 #[.int .i64 600, .int .i64 400] /\ Blk w g2 3 #[.int .i64 0, .int .i64 100] /\ Blk w g3 3 #[.int .i64 1000, .int .i64 400] /\ Blk w g4 3 #[.int .i64 2000, .int .i64 600] /\
 Blk w g5 172 #[.int .i64 10, .slice (some ⟨g3, 0, none⟩) 2 2, .int .i64 20, .slice (some ⟨g4, 0, none⟩) 2 2]
theorem JetB.ok {t : Tp} {W : World} (h : JetB t W) : TpOk W t /\ t.nm = jetN /\ t.sh = jetS /\ t.T = jetT /\ t.sn = 2 := by
 obtain ⟨g1, g2, g3, g4, g5, rfl, F1, F2, F3, F4, F5⟩ := h
 have two : ∀ (g : Nat) (a b : Int), Blk W g 3 #[.int .i64 a, .int .i64 b] -> IntsAt W (some ⟨g, 0, none⟩) 2 [a, b] := fun g a b h => ⟨rfl, fun _ => ⟨g, 0, rfl, fun i hi => by
  match i, hi with
  | 0, _ => exact (h.cell 0).trans rfl
  | 1, _ => exact (h.cell 1).trans rfl⟩⟩
 refine ⟨⟨⟨rfl, two _ _ _ F1, two _ _ _ F2, ⟨rfl, fun k hk => ?_⟩⟩, jet_good, jet_name, (show 3 <= 140737488351232 by omega), ⟨Nat.le_refl _, (show 2 <= 9223372036854775807 by omega)⟩⟩, rfl, rfl, rfl, rfl⟩
 match k, hk with
 | 0, _ => exact ⟨some ⟨g3, 0, none⟩, 2, 2, (F5.cell 0).trans rfl, (F5.cell 1).trans rfl, two _ _ _ F3⟩
 | 1, _ => exact ⟨some ⟨g4, 0, none⟩, 2, 2, (F5.cell 2).trans rfl, (F5.cell 3).trans rfl, two _ _ _ F4⟩
def trkC : Array Value := #[.int .i64 5, .int .i64 0, .int .i64 0, .int .i64 0, .int .i64 10, .int .i64 9, .int .i64 8, .int .i64 0, .int .i64 0, .int .i64 20]
theorem trk_at {w : World} {g : Nat} (B : Blk w g 152 trkC) : FixesAt w g 0 2 trkL := ⟨rfl, fun i hi => by
  match i, hi with
  | 0, _ => exact ⟨(B.cell 0).trans rfl, (B.cell 1).trans rfl, (B.cell 2).trans rfl, (B.cell 3).trans rfl, (B.cell 4).trans rfl⟩
  | 1, _ => exact ⟨(B.cell 5).trans rfl, (B.cell 6).trans rfl, (B.cell 7).trans rfl, (B.cell 8).trans rfl, (B.cell 9).trans rfl⟩⟩
set_option maxHeartbeats 1000000 in
set_option maxRecDepth 100000 in
theorem track_any (w : World) : Calls Tryz.prog 86 #[] w fun e w' => ∃ g, e = .returned (.slice (some ⟨g, 0, none⟩) 2 2) /\ Blk w' g 152 trkC /\ Below w.heap.size w w' := by
 go_enter Tryz.func86, Tryz.ntmps86
 go_wp2
 obtain ⟨w1, hw1⟩ : ∃ W, W = (w.alloc (.cells #[.int .i64 5, .int .i64 0, .int .i64 0, .int .i64 0, .int .i64 10, .int .i64 9, .int .i64 8, .int .i64 0, .int .i64 0, .int .i64 20] 152)) := ⟨_, rfl⟩; rw [<- hw1]; have B : Hid (Blk w1 (w.heap.size) 152 #[.int .i64 5, .int .i64 0, .int .i64 0, .int .i64 0, .int .i64 10, .int .i64 9, .int .i64 8, .int .i64 0, .int .i64 0, .int .i64 20]) := by show Blk _ _ _ _; rw [hw1]; exact Blk.new _ _ _
 have hb1 : Below w.heap.size w w1 := by rw [hw1]; exact ((Below.refl _ _).alloc (Nat.le_refl _) _)
 obtain ⟨g, hg⟩ : ∃ g, g = w.heap.size := ⟨_, rfl⟩; have HGw1 : Hid (g = w.heap.size) := hg; rw [<- hg] at B
 try rw [<- hg]
 clear hw1 hg; have HF : Hid (Blk w1 g 152 trkC) := B; have HB := lh hb1; clear hb1 B; go_ret; exact ⟨g, rfl, HF.out, by rw [HGw1.out]; exact HB.out⟩
set_option maxHeartbeats 1000000 in
set_option maxRecDepth 100000 in
theorem all_any (w : World) : Calls Tryz.prog 79 #[] w fun e w' => e = .returned (.agg #[.int .i64 0, .int .i64 100000000]) /\ Below w.heap.size w w' := by
 go_enter Tryz.func79, Tryz.ntmps79
 go_upto_region 1 with fail
 obtain ⟨w1, hw1⟩ : ∃ W, W = (w.alloc (.cells #[.int .i64 0, .int .i64 0] 93)) := ⟨_, rfl⟩; rw [<- hw1]; have B : Hid (Blk w1 (w.heap.size) 93 #[.int .i64 0, .int .i64 0]) := by show Blk _ _ _ _; rw [hw1]; exact Blk.new _ _ _
 have hb1 : Below w.heap.size w w1 := by rw [hw1]; exact ((Below.refl _ _).alloc (Nat.le_refl _) _)
 obtain ⟨g, hg⟩ : ∃ g, g = w.heap.size := ⟨_, rfl⟩; have HGw1 : Hid (g = w.heap.size) := hg; rw [<- hg] at B
 try rw [<- hg]
 clear hw1 hg; have HB := lh hb1; have hlv := (B.out.setRow #[.int .i64 0, .int .i64 100000000]).lv Tryz.prog (T := 93) Tryz.underlying93 rfl (by kernel_rfl); have HLV := lh hlv; clear hlv hb1
 go_wp2_with (refine wpList_store_row rfl 93 _ _ rfl g #[.int .i64 0, .int .i64 100000000] rfl rfl 93 _ B.out (by kernel_rfl) rfl (by simp [Value.oneCell']) ?_)
 refine bodyPost_ret (v := .agg #[.int .i64 0, .int .i64 100000000]) (by simp [results, Tryz.results79, asAddr]; exact HLV.out) rfl ?_; exact ⟨rfl, HB.out.setRow' (by rw [HGw1.out]; exact Nat.le_refl _) _⟩
set_option maxHeartbeats 1000000 in
set_option maxRecDepth 100000 in
theorem jet_any (w : World) : Calls Tryz.prog 85 #[] w fun e w' => ∃ t : Tp, e = .returned (.agg t.cs) /\ JetB t w' /\ Below w.heap.size w w' := by
 go_enter Tryz.func85, Tryz.ntmps85
 go_upto_region 1 with fail
 obtain ⟨w1, hw1⟩ : ∃ W, W = (w.alloc (.cells #[.string ⟨#[]⟩, .slice none 0 0, .int .i64 0, .int .i64 0, .int .i64 0, .int .i64 0, .int .i64 0, .int .i64 0, .int .i64 0, .int .i64 0, .int .i64 0, .slice none 0 0, .slice none 0 0] 42)) := ⟨_, rfl⟩; rw [<- hw1]; have B0 : Hid (Blk w1 (w.heap.size) 42 #[.string ⟨#[]⟩, .slice none 0 0, .int .i64 0, .int .i64 0, .int .i64 0, .int .i64 0, .int .i64 0, .int .i64 0, .int .i64 0, .int .i64 0, .int .i64 0, .slice none 0 0, .slice none 0 0]) := by show Blk _ _ _ _; rw [hw1]; exact Blk.new _ _ _
 have hb1 : Below w.heap.size w w1 := by rw [hw1]; exact ((Below.refl _ _).alloc (Nat.le_refl _) _)
 obtain ⟨g0, hg0⟩ : ∃ g, g = w.heap.size := ⟨_, rfl⟩; have HGw1 : Hid (g0 = w.heap.size) := hg0; rw [<- hg0] at B0
 try rw [<- hg0]
 clear hw1 hg0; have HB1 := lh hb1; clear hb1
 go_wp2_with (refine wpList_store_row rfl 42 _ _ rfl g0 #[.string ⟨#[106, 101, 116]⟩, .slice (some ⟨w1.heap.size, 0, none⟩) 2 2, .int .i64 1000, .int .i64 1000, .int .i64 1000, .int .i64 1000, .int .i64 500, .int .i64 500, .int .i64 500, .int .i64 500, .int .i64 500, .slice (some ⟨w1.heap.size + 1, 0, none⟩) 2 2, .slice (some ⟨w1.heap.size + 1 + 1 + 1 + 1, 0, none⟩) 2 2] rfl rfl 42 _ (B0.out.below (by exact (((((Below.refl _ _).alloc (Nat.le_refl _) _).alloc (by simp) _).alloc (by simp; omega) _).alloc (by simp; omega) _).alloc (by simp; omega) _)) (by kernel_rfl) rfl (by simp [Value.oneCell']) ?_)
 obtain ⟨w2, hw2⟩ : ∃ W, W = (((((w1.alloc (.cells #[.int .i64 600, .int .i64 400] 3)).alloc (.cells #[.int .i64 0, .int .i64 100] 3)).alloc (.cells #[.int .i64 1000, .int .i64 400] 3)).alloc (.cells #[.int .i64 2000, .int .i64 600] 3)).alloc (.cells #[.int .i64 10, .slice (some ⟨w1.heap.size + 1 + 1, 0, none⟩) 2 2, .int .i64 20, .slice (some ⟨w1.heap.size + 1 + 1 + 1, 0, none⟩) 2 2] 172)) := ⟨_, rfl⟩; rw [<- hw2]; have S1 : Hid (Blk w2 (w1.heap.size) 3 #[.int .i64 600, .int .i64 400]) := by show Blk _ _ _ _; rw [hw2]; exact ((((Blk.new _ _ _).alloc _).alloc _).alloc _).alloc _
 have S2 : Hid (Blk w2 (w1.heap.size + 1) 3 #[.int .i64 0, .int .i64 100]) := by show Blk _ _ _ _; rw [hw2]; exact (((Blk.at_size _ _ (by simp)).alloc _).alloc _).alloc _
 have S3 : Hid (Blk w2 (w1.heap.size + 1 + 1) 3 #[.int .i64 1000, .int .i64 400]) := by show Blk _ _ _ _; rw [hw2]; exact ((Blk.at_size _ _ (by simp)).alloc _).alloc _
 have S4 : Hid (Blk w2 (w1.heap.size + 1 + 1 + 1) 3 #[.int .i64 2000, .int .i64 600]) := by show Blk _ _ _ _; rw [hw2]; exact (Blk.at_size _ _ (by simp)).alloc _
 have S5 : Hid (Blk w2 (w1.heap.size + 1 + 1 + 1 + 1) 172 #[.int .i64 10, .slice (some ⟨w1.heap.size + 1 + 1, 0, none⟩) 2 2, .int .i64 20, .slice (some ⟨w1.heap.size + 1 + 1 + 1, 0, none⟩) 2 2]) := by show Blk _ _ _ _; rw [hw2]; exact Blk.at_size _ _ (by simp)
 have hb2 : Below w1.heap.size w1 w2 := by rw [hw2]; exact ((((((Below.refl _ _).alloc (Nat.le_refl _) _).alloc (by simp) _).alloc (by simp; omega) _).alloc (by simp; omega) _).alloc (by simp; omega) _)
 obtain ⟨g1, hg1⟩ : ∃ g, g = w1.heap.size := ⟨_, rfl⟩; obtain ⟨g2, hg2⟩ : ∃ g, g = w1.heap.size + 1 := ⟨_, rfl⟩; obtain ⟨g3, hg3⟩ : ∃ g, g = w1.heap.size + 1 + 1 := ⟨_, rfl⟩; obtain ⟨g4, hg4⟩ : ∃ g, g = w1.heap.size + 1 + 1 + 1 := ⟨_, rfl⟩; obtain ⟨g5, hg5⟩ : ∃ g, g = w1.heap.size + 1 + 1 + 1 + 1 := ⟨_, rfl⟩; have HGw2 : Hid (g1 = w1.heap.size /\ g2 = w1.heap.size + 1 /\ g3 = w1.heap.size + 1 + 1 /\ g4 = w1.heap.size + 1 + 1 + 1 /\ g5 = w1.heap.size + 1 + 1 + 1 + 1) := ⟨hg1, hg2, hg3, hg4, hg5⟩; rw [<- hg5] at S5
 try rw [<- hg5]
 rw [<- hg4] at S4
 try rw [<- hg4]
 rw [<- hg3] at S3
 try rw [<- hg3]
 rw [<- hg2] at S2
 try rw [<- hg2]
 rw [<- hg1] at S1
 try rw [<- hg1]
 clear hw2 hg1 hg2 hg3 hg4 hg5; rw [<- HGw2.out.2.2.2.1, <- HGw2.out.2.2.1] at S5; have hl := lt_of_block B0.out
 have hne : g1 ≠ g0 /\ g2 ≠ g0 /\ g3 ≠ g0 /\ g4 ≠ g0 /\ g5 ≠ g0 := by
  obtain ⟨e1, e2, e3, e4, e5⟩ := HGw2.out
  omega
 obtain ⟨n1, n2, n3, n4, n5⟩ := hne; obtain ⟨W, hW⟩ : ∃ X, X = w2.setRow g0 #[.string ⟨#[106, 101, 116]⟩, .slice (some ⟨g1, 0, none⟩) 2 2, .int .i64 1000, .int .i64 1000, .int .i64 1000, .int .i64 1000, .int .i64 500, .int .i64 500, .int .i64 500, .int .i64 500, .int .i64 500, .slice (some ⟨g2, 0, none⟩) 2 2, .slice (some ⟨g5, 0, none⟩) 2 2] := ⟨_, rfl⟩; have hlv := ((B0.out.below hb2).setRow #[.string ⟨#[106, 101, 116]⟩, .slice (some ⟨g1, 0, none⟩) 2 2, .int .i64 1000, .int .i64 1000, .int .i64 1000, .int .i64 1000, .int .i64 500, .int .i64 500, .int .i64 500, .int .i64 500, .int .i64 500, .slice (some ⟨g2, 0, none⟩) 2 2, .slice (some ⟨g5, 0, none⟩) 2 2]).lv Tryz.prog (T := 42) Tryz.underlying42 rfl (by kernel_rfl); rw [<- hW] at hlv; have HLV := lh hlv; have F1 : Blk W g1 3 #[.int .i64 600, .int .i64 400] := by rw [hW]; exact S1.out.setRow_far n1 _
 have F2 : Blk W g2 3 #[.int .i64 0, .int .i64 100] := by rw [hW]; exact S2.out.setRow_far n2 _
 have F3 : Blk W g3 3 #[.int .i64 1000, .int .i64 400] := by rw [hW]; exact S3.out.setRow_far n3 _
 have F4 : Blk W g4 3 #[.int .i64 2000, .int .i64 600] := by rw [hW]; exact S4.out.setRow_far n4 _
 have F5 : Blk W g5 172 #[.int .i64 10, .slice (some ⟨g3, 0, none⟩) 2 2, .int .i64 20, .slice (some ⟨g4, 0, none⟩) 2 2] := by rw [hW]; exact S5.out.setRow_far n5 _
 have HT : Hid (JetB ⟨jetN, jetS, jetT, some ⟨g1, 0, none⟩, 2, 2, g2, 0, 2, 2, g5, 0, 2, 2⟩ W) := ⟨g1, g2, g3, g4, g5, rfl, F1, F2, F3, F4, F5⟩
 have HB : Hid (Below w.heap.size w W) := by
  show Below _ _ _
  rw [hW]; exact (HB1.out.trans (hb2.mono HB1.out.size)).setRow' (by rw [HGw1.out]; exact Nat.le_refl _) _
 rw [<- hW]; clear hlv hW hb2 S1 S2 S3 S4 S5 B0 F1 F2 F3 F4 F5 HB1; refine bodyPost_ret (v := .agg #[.string ⟨#[106, 101, 116]⟩, .slice (some ⟨g1, 0, none⟩) 2 2, .int .i64 1000, .int .i64 1000, .int .i64 1000, .int .i64 1000, .int .i64 500, .int .i64 500, .int .i64 500, .int .i64 500, .int .i64 500, .slice (some ⟨g2, 0, none⟩) 2 2, .slice (some ⟨g5, 0, none⟩) 2 2]) (by simp [results, Tryz.results85, asAddr, Act.put]; exact HLV.out) rfl ?_; exact ⟨⟨jetN, jetS, jetT, some ⟨g1, 0, none⟩, 2, 2, g2, 0, 2, 2, g5, 0, 2, 2⟩, rfl, HT.out, HB.out⟩
def Turned (w : World) : Prop := ∀ i, i < 8 -> w.cell? ⟨0, i * 2, none⟩ = some (.int .i64 (turnX.getD i 0)) /\ w.cell? ⟨0, i * 2 + 1, none⟩ = some (.int .i64 (turnY.getD i 0))
theorem Turned.keep {w w' : World} (h : Turned w) (hb : Below w.heap.size w w') : Turned w' := fun i hi => by
 have k : ∀ {j : Nat} {v : Value}, w.cell? ⟨0, j, none⟩ = some v -> w'.cell? ⟨0, j, none⟩ = some v := fun {j v} hc => by
  rw [hb.cell (p := ⟨0, j, none⟩) (World.block_lt_of_cell? _ _ hc)]; exact hc
 exact ⟨k (h i hi).1, k (h i hi).2⟩
def JetIs (v : Value) (w : World) : Prop := ∃ t : Tp, v = .agg t.cs /\ JetB t w
def TrkIs (v : Value) (w : World) : Prop := ∃ g, v = .slice (some ⟨g, 0, none⟩) 2 2 /\ Blk w g 152 trkC
theorem JetIs.is {v : Value} {w : World} (h : JetIs v w) : ∃ t : Tp, v = .agg t.cs /\ TpOk w t /\ t.nm = jetN /\ t.sh = jetS /\ t.T = jetT /\ t.sn = 2 := by
 obtain ⟨t, e, h⟩ := h; exact ⟨t, e, h.ok⟩
theorem TrkIs.is {v : Value} {w : World} (h : TrkIs v w) : ∃ g, v = .slice (some ⟨g, 0, none⟩) 2 2 /\ FixesAt w g 0 2 trkL := by
 obtain ⟨g, e, h⟩ := h; exact ⟨g, e, trk_at h⟩
theorem JetIs.turn {v : Value} {w w' : World} (h : JetIs v w) (k : ∀ g t cs, Blk w g t cs -> t ≠ 100 -> Blk w' g t cs) : JetIs v w' := by
 obtain ⟨t, e, g1, g2, g3, g4, g5, e2, F1, F2, F3, F4, F5⟩ := h; exact ⟨t, e, g1, g2, g3, g4, g5, e2, k _ _ _ F1 (by decide), k _ _ _ F2 (by decide), k _ _ _ F3 (by decide), k _ _ _ F4 (by decide), k _ _ _ F5 (by decide)⟩
theorem TrkIs.turn {v : Value} {w w' : World} (h : TrkIs v w) (k : ∀ g t cs, Blk w g t cs -> t ≠ 100 -> Blk w' g t cs) : TrkIs v w' := by
 obtain ⟨g, e, F⟩ := h; exact ⟨g, e, k _ _ _ F (by decide)⟩
theorem JetIs.keep {v : Value} {w w' : World} (h : JetIs v w) (hb : Below w.heap.size w w') : JetIs v w' := by
 exact h.turn fun g t cs h _ => h.below hb
theorem TrkIs.keep {v : Value} {w w' : World} (h : TrkIs v w) (hb : Below w.heap.size w w') : TrkIs v w' := by
 exact h.turn fun g t cs h _ => h.below hb
def GR.jet : GR := ⟨JetIs, fun h hE => h.keep hE⟩
def GR.trk : GR := ⟨TrkIs, fun h hE => h.keep hE⟩
theorem aw_jet (w : World) : Calls Tryz.prog 85 #[] w fun e w' => ∃ v, e = .returned v /\ JetIs v w' /\ Below w.heap.size w w' :=
 (jet_any w).mono fun e w' ⟨t, h1, h2, h7⟩ => ⟨_, h1, ⟨t, rfl, h2⟩, h7⟩
theorem aw_track (w : World) : Calls Tryz.prog 86 #[] w fun e w' => ∃ v, e = .returned v /\ TrkIs v w' /\ Below w.heap.size w w' :=
 (track_any w).mono fun e w' ⟨g, h1, h2, h3⟩ => ⟨_, h1, ⟨g, rfl, h2⟩, h3⟩
theorem aw_em {v : Value} {w : World} (h : JetIs v w) (p q V : Int) (hp : 1 <= p /\ p <= 100) (hq : 0 <= q /\ q <= 100000000000) (hv : Bell.emis jetT.sets (Bell.reachOf jetT.squares q) p = V) :
  Calls Tryz.prog 15 #[v, .int .i64 p, .int .i64 q] w fun e w' => e = .returned (.tuple #[.int .i64 V, .int .i64 0]) /\ Below w.heap.size w w' := by
 obtain ⟨t, rfl, h1, h2, h3, h4, h5⟩ := h.is; have := Emission_ok p q w h1 hp hq
 rwa [h4, hv] at this
theorem aw_at6 {v : Value} {w : World} (h : TrkIs v w) :
  Calls Tryz.prog 35 #[v, .int .i64 6] w fun e w' => e = .returned (.tuple #[.agg #[.int .i64 2, .int .i64 0, .int .i64 0, .int .i64 8, .int .i64 0, .int .i64 12], .int .i64 0]) /\ Below w.heap.size w w' := by
 obtain ⟨g, rfl, h1⟩ := h.is; have := At_ok g 0 2 2 trkL 6 w h1 trk_good (by decide) (by decide)
 rwa [v_st6] at this
theorem aw_at9 {v : Value} {w : World} (h : TrkIs v w) :
  Calls Tryz.prog 35 #[v, .int .i64 9] w fun e w' => e = .returned (.tuple #[.agg #[.int .i64 0, .int .i64 0, .int .i64 0, .int .i64 0, .int .i64 0, .int .i64 0], .int .i64 7]) /\ Below w.heap.size w w' := by
 obtain ⟨g, rfl, h1⟩ := h.is; exact At_late g 0 2 2 trkL 9 w h1 trk_good (by decide) (by decide)
theorem aw_expo {v u : Value} {w : World} (h : JetIs v w) (k : TrkIs u w) (f t V : Int) (h0 : 0 <= f) (h1 : f <= t) (h2 : t <= 100000000) (hv : Bell.expoOf jetT trkL nearP f t = V) :
  Calls Tryz.prog 55 #[v, u, .agg #[.int .i64 f, .int .i64 t], .agg #[.int .i64 4, .int .i64 2, .int .i64 0]] w fun e w' => e = .returned (.tuple #[.int .i64 V, .int .i64 0]) /\ Below w.heap.size w w' := by
 obtain ⟨T, rfl, a1, a2, a3, a4, a5⟩ := h.is; obtain ⟨g, rfl, b1⟩ := k.is; have := Exposure_ok g 0 2 2 trkL f t nearP w a1 b1 trk_good near_good h0 h1 h2
 rwa [a4, hv] at this
theorem aw_max {v u : Value} {w : World} (h : JetIs v w) (k : TrkIs u w) :
  Calls Tryz.prog 56 #[v, u, .agg #[.int .i64 0, .int .i64 100000000], .agg #[.int .i64 4, .int .i64 2, .int .i64 0]] w fun e w' => e = .returned (.tuple #[.int .i64 850, .int .i64 8, .int .i64 0]) /\ Below w.heap.size w w' := by
 obtain ⟨T, rfl, a1, a2, a3, a4, a5⟩ := h.is; obtain ⟨g, rfl, b1⟩ := k.is; have := Maximum_ok g 0 2 2 trkL 0 100000000 5 9 4 nearP w a1 b1 trk_good near_good (by omega) (by omega) (by omega) (by decide) (by decide) (by decide) (by omega)
 rwa [a4, v_mx] at this
theorem aw_enc {v u : Value} {w : World} (h : JetIs v w) (k : TrkIs u w) :
  Calls Tryz.prog 57 #[v, u, .agg #[.int .i64 4, .int .i64 2, .int .i64 0]] w fun e w' => e = .returned (.tuple #[.agg #[.int .i64 1000, .int .i64 8000], .int .i64 0]) /\ Below w.heap.size w w' := by
 obtain ⟨T, rfl, a1, a2, a3, a4, a5⟩ := h.is; obtain ⟨g, rfl, b1⟩ := k.is; have := Enclosed_ok g 0 2 2 trkL nearP w a1 b1 trk_good near_good (Nat.le_refl _) (by omega)
 rwa [a4, show trkL.length - 1 = 1 from rfl, v_lo, v_hi] at this
theorem aw_band {v : Value} {w : World} (h : JetIs v w) :
  Calls Tryz.prog 19 #[v, .int .i64 101] w fun e w' => ∃ g, e = .returned (.tuple #[.slice (some ⟨g, 0, none⟩) 2 2, .int .i64 0]) /\ IntsAt w' (some ⟨g, 0, none⟩) 2 [61, 40] /\ Below w.heap.size w w' := by
 obtain ⟨t, rfl, a1, a2, a3, a4, a5⟩ := h.is; have := Banded_ok 101 w a1 (by omega); rw [a5, a3] at this; refine this.mono fun e w' ⟨g, e1, hc, hb⟩ => ⟨g, e1, ⟨rfl, fun _ => ⟨g, 0, rfl, fun i hi => ?_⟩⟩, hb⟩
 rw [Nat.zero_add, hc i hi]
 match i, hi with
 | 0, _ => rw [v_b0]; rfl
 | 1, _ => rw [v_b1]; rfl
theorem aw_rep2 {v : Value} {w : World} (h : TrkIs v w) :
  Calls Tryz.prog 37 #[v, .int .i64 2] w fun e w' => ∃ g, e = .returned (.tuple #[.slice (some ⟨g, 0, none⟩) 2 2, .int .i64 0]) /\ Below w.heap.size w w' := by
 obtain ⟨g, rfl, h1⟩ := h.is; refine (Repaired_any g 0 2 2 trkL 2 w h1 trk_good (Nat.le_refl _) (by omega)).mono fun e w' ⟨h, hb⟩ => ?_
 obtain ⟨g', e1, _⟩ := (h.2 (by decide)).2 (by rw [v_r2]; decide); rw [v_r2] at e1; exact ⟨g', e1, hb⟩
theorem aw_rep1 {v : Value} {w : World} (h : TrkIs v w) :
  Calls Tryz.prog 37 #[v, .int .i64 1] w fun e w' => e = .returned (.tuple #[.slice none 0 0, .int .i64 16]) /\ Below w.heap.size w w' := by
 obtain ⟨g, rfl, h1⟩ := h.is; exact (Repaired_any g 0 2 2 trkL 1 w h1 trk_good (Nat.le_refl _) (by omega)).mono fun e w' ⟨h, hb⟩ => ⟨(h.2 (by decide)).1 (by rw [v_r1]; decide), hb⟩
end Go.Proofs.YtmafmebcgmegeaaGreatDoor
namespace Go.Proofs.YtmafmebcgmegeaaGreatDoor
open Go.RowKit
def allB (ops : Array Oper) : Bool := (List.range ops.size).all fun i => match ops[i]? with
 | none => false
 | some o => o.guard.isNone && (o.after.all fun e => !Region.binds .any e || decide (e.on < i)) && (match o.dst with | none => false | some t => (List.range ops.size).all fun j => decide (j = i) || decide (dstAt ops j ≠ some t))
theorem allB_spec {ops : Array Oper} (h : allB ops = true) : (∀ i, i < ops.size -> ∃ o t, ops[i]? = some o /\ o.guard = none /\ o.dst = some t /\ (∀ j, j < ops.size -> j ≠ i -> dstAt ops j ≠ some t) /\ ∀ e, e ∈ o.after -> Region.binds .any e = true -> e.on < i) := by
 intro i hi; unfold allB at h; have h1 := List.all_eq_true.1 h i (by simpa using hi)
 cases ho : ops[i]? with
 | none => rw [ho] at h1; simp at h1
 | some o =>
   rw [ho] at h1; simp only [Bool.and_eq_true] at h1; obtain ⟨⟨h2, h4⟩, h3⟩ := h1
   cases hd : o.dst with
   | none => rw [hd] at h3; simp at h3
   | some t =>
     rw [hd] at h3; refine ⟨o, t, rfl, by simpa using h2, hd, fun j hj hji => ?_, fun e he hb => ?_⟩
     ·have := List.all_eq_true.1 h3 j (by simpa using hj)
      simpa [hji] using this
     ·have := Array.all_eq_true_iff_forall_mem.1 h4 e he
      simpa [hb] using this
theorem allReady {ops : Array Oper} {seen : Array Bool} (hB : allB ops = true) (inv : HeadInv .any ops ops.size seen) : ∀ {i : Nat}, i < ops.size -> seen.getD i true = false -> ∃ k, k < ops.size /\ k ∈ Region.ready .any ops seen := by
 intro i
 induction i using Nat.strongRecOn with
 | _ i ih =>
   intro hi hun; obtain ⟨o, t, ho, _, _, _, hb⟩ := allB_spec hB i hi
   by_cases hall : ∀ e, e ∈ o.after -> Region.binds .any e = true -> seen.getD e.on false = true
   ·exact ⟨i, hi, mem_ready.2 ⟨hun, o, ho, hall⟩⟩
   ·simp only [Classical.not_forall] at hall; obtain ⟨e, he, hbe, hne⟩ := hall; have h1 := hb e he hbe; have hlt : i < ops.size := (Array.getElem?_eq_some_iff.1 ho).1; exact ih e.on h1 (by omega) (getD_in (by rw [inv.size]; omega) (by simpa using hne))
theorem wp_region_all {P : Program} {id : Nat} {Q : Exit -> Act -> World -> Prop} {f : Act} {w : World} {l : List Oper} (hm : P.follows .mixedOrders = true) (hB : allB l.toArray = true) (Rs : List GR) (size : Nat) (hsz : f.tmps.size = size) (hfB : dstB l.toArray l.length size = true)
  (hstep : growSteps P Q l.toArray f w Rs l.length l 0)
  (h : ∀ (vs : Nat -> Value) (W : World), Ext w W -> (∀ i, i < l.length -> (GR.at Rs i).r (vs i) W) -> wpList P l.toArray Q [] ((List.range l.length).foldl (fun a i => a.put (dstAt l.toArray i) (vs i)) f) W) : (Code.region id l.toArray true).wp P Q f w := by
 obtain ⟨n, hn⟩ : ∃ n, n = l.length := ⟨_, rfl⟩; rw [<- hn] at hfB hstep h
 have hf : ∀ i t, i < n -> dstAt l.toArray i = some t -> t < f.tmps.size := fun i t hi ht => by
  have := List.all_eq_true.1 hfB i (by simpa using hi); rw [ht] at this; rw [hsz]
  simpa using this
 have hspec := allB_spec hB; have hnz : l.toArray.size = n := by rw [hn]; simp
 have hspec : ∀ i, i < n -> ∃ o t, l.toArray[i]? = some o /\ o.guard = none /\ o.dst = some t /\ (∀ j, j < n -> j ≠ i -> dstAt l.toArray j ≠ some t) /\ ∀ e, e ∈ o.after -> Region.binds .any e = true -> e.on < i := by
  rw [<- hnz]; exact hspec
 have hdl : ([] : List Oper).length = l.toArray.size - n := by rw [hnz]; simp
 refine wp_region_any hm ?_
 -- the count of operations of the head that are still to come
 have main : ∀ (g : Nat) (seen : Array Bool) (vs : Nat -> Value) (W : World), ((List.range n).filter fun i => !seen.getD i true).length = g -> HeadInv .any l.toArray n seen -> Ext w W -> (∀ i, i < n -> seen.getD i false = true -> (GR.at Rs i).r (vs i) W) ->
   wpAny P .any l.toArray Q (g + (l.toArray.size - n)) seen (fillA l.toArray vs seen (List.range n) f) W := by
  intro g
  induction g with
  | zero =>
    intro seen vs W hg inv hE hR
    have hall : ∀ i, i < n -> seen.getD i true = true := fun i hi => by
     have := List.eq_nil_of_length_eq_zero hg; rw [List.filter_eq_nil_iff] at this
     simpa using this i (by simpa using hi)
    have hsz := inv.size
    have hall' : ∀ i, i < n -> seen.getD i false = true := fun i hi => by
     have h1 : i < seen.size := by rw [hsz]; omega
     have h2 := hall i hi
     simp [h1] at h2 ⊢; exact h2
    have hseen : seen = (Array.replicate n true) ++ (Array.replicate (l.toArray.size - n) false) := by
     refine Array.ext (by simp [hsz]; omega) fun i h1 h2 => ?_
     rcases Nat.lt_or_ge i n with hi | hi
     ·have h3 := hall i hi
      simp [h1] at h3
      rw [h3, Array.getElem_append_left (by simpa using hi)]
      simp
     ·have h3 := inv.tail i hi (by rw [<- hsz]; exact h1)
      simp [h1] at h3
      rw [h3, Array.getElem_append_right (by simpa using hi)]
      simp
    have hfill : fillA l.toArray vs seen (List.range n) f = (List.range n).foldl (fun a i => a.put (dstAt l.toArray i) (vs i)) f := by
     have : ∀ (t : List Nat) (f : Act), (∀ i, i ∈ t -> i < n) -> fillA l.toArray vs seen t f = t.foldl (fun a i => a.put (dstAt l.toArray i) (vs i)) f := by
      intro t
      induction t with
      | nil => intro f _; rfl
      | cons k t ih =>
        intro f ht; rw [fillA_cons, List.foldl_cons, if_pos (hall' k (ht k (by simp)))]; exact ih _ fun i hi => ht i (List.mem_cons_of_mem _ hi)
     exact this _ _ fun i hi => by simpa using hi
    rw [hfill, Nat.zero_add]
    have := wpAny_of_seq (md := .any) (Q' := Q) ([] : List Oper) n seen _ W (fun j => by simp [hn]) (by
     show (Region.ready .any l.toArray seen).isEmpty = true
     rw [List.isEmpty_iff, List.eq_nil_iff_forall_not_mem]; intro j hj; obtain ⟨h1, o, h2, _⟩ := mem_ready.1 hj; have h3 := hall j (by rw [<- hnz]; exact (Array.getElem?_eq_some_iff.1 h2).1); rw [h3] at h1
     cases h1) (h vs W hE fun i hi => hR i hi (hall' i hi))
    rwa [hdl] at this
  | succ g ih =>
    intro seen vs W hg inv hE hR
    obtain ⟨i0, hi0⟩ : ∃ i, i ∈ (List.range n).filter fun i => !seen.getD i true := by
     cases hl : (List.range n).filter fun i => !seen.getD i true with
     | nil => rw [hl] at hg; simp at hg
     | cons b t => exact ⟨b, by simp⟩
    rw [List.mem_filter] at hi0; have hi1 : i0 < n := by simpa using hi0.1
    have hi2 : seen.getD i0 true = false := by simpa using hi0.2
    have early : ∀ j, j ∈ Region.ready .any l.toArray seen -> j < n := fun j hj => by
     obtain ⟨_, o, ho, _⟩ := mem_ready.1 hj; rw [<- hnz]; exact (Array.getElem?_eq_some_iff.1 ho).1
    rw [show g + 1 + (l.toArray.size - n) = (g + (l.toArray.size - n)) + 1 by omega]; refine ⟨fun hnil => ?_, fun i hi => ?_⟩
    ·-- some operation of the head is ready: the first of those that are still to come by the order of its waits
     exfalso
     have hmin : ∃ i, i < n /\ i ∈ Region.ready .any l.toArray seen := by
      have h9 := allReady hB (by rw [hnz]; exact inv) (by rw [hnz]; exact hi1) hi2; rw [hnz] at h9; exact h9
     obtain ⟨i, _, hir⟩ := hmin; rw [hnil] at hir
     cases hir
    ·have hin := early i hi; obtain ⟨hun, o', ho', hall⟩ := mem_ready.1 hi; obtain ⟨o, t, ho, hgd, hdst, hdis, _⟩ := hspec i hin; have : o' = o := Option.some.inj (ho'.symm.trans ho); subst this; have hdi : dstAt l.toArray i = some t := by simp [dstAt, ho, hdst]
     have hlo : l[i]? = some o' := by simpa using ho
     have st := growSteps_at l 0 hstep i o' hlo; rw [Nat.zero_add] at st; have hnd : (List.range n).Nodup := List.nodup_range; have hisz : i < seen.size := by rw [inv.size]; omega
     have hus : seen.getD i false = false := getD_both hun; unfold wpOp; simp only [ho]; rw [if_pos (by simp [Region.wanted, hgd])]; refine Or.inl (Oper.wp_mono ?_ (st _ W hE ?_ ?_))
     ·rintro a' W' ⟨v, rfl, hE', hr⟩; rw [hdst, <- hdi, <- fillA_put (vs := vs) (v := v) hus hisz (List.range n) f (by simpa using hin) hnd (fun j hj hji d hd => by rw [hdi]; intro e; exact hdis j (by simpa using hj) hji (hd.trans e.symm))]; refine ih _ _ _ ?_ (inv.set hi hin) (hE.trans hE') fun j hj hsj => ?_
      ·have hlen := filter_set hisz hun n hin
       omega
      ·by_cases hji : i = j
       ·subst hji; rw [show updN vs i v i = v by simp [updN]]; exact hr
       ·rw [getD_set_ne false hji] at hsj; rw [show updN vs i v j = vs j by simp [updN, Ne.symm hji]]; exact (GR.at Rs j).keep (hR j hj hsj) hE'
     ·intro j t' hj hd; obtain ⟨e, he, hh⟩ := Array.any_eq_true'.1 hj; simp only [Bool.and_eq_true, decide_eq_true_eq] at hh; obtain ⟨hb, rfl⟩ := hh; have hsj := hall e he hb
      have hjn : e.on < n := by
       rcases Nat.lt_or_ge e.on n with h1 | h1
       ·exact h1
       ·exfalso
        rcases Nat.lt_or_ge e.on l.toArray.size with h2 | h2
        ·have h3 := getD_both (inv.tail e.on h1 h2); rw [h3] at hsj; cases hsj
        ·rw [Array.getD_eq_getD_getElem?, Array.getElem?_eq_none (by rw [inv.size]; exact h2)] at hsj
         simp at hsj
      rw [<- eval_getD, fillA_at hsj hd (List.range n) f (hf _ _ hjn hd) (by simpa using hjn) hnd (fun k hk hkj hk2 => by
       obtain ⟨o2, t2, ho2, _, hd2, hdis2, _⟩ := hspec e.on hjn; have e2 : dstAt l.toArray e.on = some t2 := by simp [dstAt, ho2, hd2]
       rw [e2] at hd; exact hdis2 k (by simpa using hk) hkj (by rw [hk2, hd]))]
      exact hR _ hjn hsj
     ·intro t' hx; rw [<- eval_getD, <- eval_getD]; refine fillA_other (List.range n) f fun j hj => ?_
      have := List.all_eq_true.1 hx j hj
      simpa using this
 have h0 := main n (Array.replicate l.toArray.size false) (fun _ => undef) w.drew ?_ ⟨by simp, fun j oj _ hl => (by rw [getD_replicate_false] at hl; cases hl), fun t _ ht => getD_in (by simpa using ht) (getD_replicate_false _ _)⟩ (Ext.drew w) (fun i _ hl => by rw [getD_replicate_false] at hl; cases hl)
 ·have hfill : fillA l.toArray (fun _ => undef) (Array.replicate l.toArray.size false) (List.range n) f = f := by
   have : ∀ (t : List Nat) (f : Act), fillA l.toArray (fun _ => undef) (Array.replicate l.toArray.size false) t f = f := by
    intro t
    induction t with
    | nil => intro f; rfl
    | cons k t ih =>
      intro f; rw [fillA_cons, if_neg (by rw [getD_replicate_false]; decide)]; exact ih f
   exact this _ _
  rw [hfill, show n + (l.toArray.size - n) = l.toArray.size by omega] at h0; exact h0
 ·have : (List.range n).filter (fun i => !(Array.replicate l.toArray.size false).getD i true) = List.range n := by
   rw [List.filter_eq_self]; intro i hi; have : i < n := by simpa using hi
   have : i < l.length := by omega
   simp [this]
  rw [this]
  simp
theorem wp_region_allN {P : Program} {id : Nat} {Q : Exit -> Act -> World -> Prop} {f : Act} {w : World} {l : List Oper} (n : Nat) (hn : l.length = n) (hm : P.follows .mixedOrders = true) (hB : allB l.toArray = true) (Rs : List GR) (size : Nat) (hsz : f.tmps.size = size) (hfB : dstB l.toArray n size = true)
  (hstep : growSteps P Q l.toArray f w Rs n l 0)
  (h : ∀ (vs : Nat -> Value) (W : World), Ext w W -> (∀ i, i < n -> (GR.at Rs i).r (vs i) W) -> wpList P l.toArray Q [] ((List.range n).foldl (fun a i => a.put (dstAt l.toArray i) (vs i)) f) W) : (Code.region id l.toArray true).wp P Q f w := by
 subst hn; exact wp_region_all hm hB Rs size hsz hfB hstep h
end Go.Proofs.YtmafmebcgmegeaaGreatDoor
