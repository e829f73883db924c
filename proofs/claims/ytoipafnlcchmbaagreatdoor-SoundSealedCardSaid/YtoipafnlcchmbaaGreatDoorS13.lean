/- SoundSealed, walked. -/
import Derived.Test.YtoipafnlcchmbaaGreatDoorQPx
import Derived.Test.YtoipafnlcchmbaaGreatDoorQK
import Derived.Test.YtoipafnlcchmbaaGreatDoorQA
import Derived.Test.YtoipafnlcchmbaaGreatDoorR12
import Derived.Test.YtoipafnlcchmbaaGreatDoorR8
import Derived.Test.YtoipafnlcchmbaaGreatDoorS11
import Derived.Test.YtoipafnlcchmbaaGreatDoorU6
import Derived.Test.YtoipafnlcchmbaaGreatDoorU4
import Derived.Deep.RegionHeld3
import Derived.Lib.QuietBelow
import Derived.Deep.DeepCutAuto
namespace Go.Proofs.YtoipafnlcchmbaaGreatDoor
open Go.RowKit Go.Sort

/-- The other bytes, without marks. -/
def noMark (os : List Int) : List Int := os.map fun b => if b = 93 then 0 else b
theorem noMark_len (os : List Int) : (noMark os).length = os.length := by unfold noMark; rw [List.length_map]
theorem noMark_at (os : List Int) (i : Nat) (h : i < os.length) : (noMark os).getD i 0 = if os.getD i 0 = 93 then 0 else os.getD i 0 := by
  simp [noMark, List.getD_eq_getElem?_getD, List.getElem?_eq_getElem h]
theorem noMark_ne (os : List Int) (i : Nat) (h : i < (noMark os).length) : (noMark os).getD i 0 ≠ 93 := by
  rw [noMark_len] at h
  rw [noMark_at os i h]
  split <;> omega
theorem noMark_all (os : List Int) (h : AllB os) : AllB (noMark os) := fun i hi => by
  rw [noMark_len] at hi
  rw [noMark_at os i hi]
  have := h i hi
  split <;> omega

theorem pksCells_one (l : List Pk) : ∀ u ∈ pksCells l, u.oneCell' = true := fun u hu => by
  obtain ⟨p, _, hp⟩ := List.mem_flatMap.1 hu
  have := Array.all_eq_true'.1 (pkA_one p.st p.kd p.ct p.ln p.ps) u (by simpa [Pk.cells] using hp)
  simpa using this
theorem own_base {w : World} {base base' : Nat} {e : TypeId} {size : Nat} {v : Value} {n : Nat} {xs : List Value} (h : w.ownsRow base e size v n xs) (hb : base' ≤ base) : w.ownsRow base' e size v n xs :=
  ⟨h.1, h.2.imp id (fun ⟨g, cap, cur, a, b, c⟩ => ⟨g, cap, cur, a, Nat.le_trans hb b, c⟩)⟩
/-- A row of one's own that is not empty. -/
theorem own_row {w : World} {base : Nat} {e : TypeId} {size : Nat} {v : Value} {n : Nat} {xs : List Value} (h : w.ownsRow base e size v n xs) (hn : 0 < n) : ∃ G cap, v = .slice (some ⟨G, 0, none⟩) n cap ∧ base ≤ G ∧ G < w.heap.size ∧ n ≤ cap := by
  rcases h.2 with ⟨hv, hn0⟩ | ⟨g, cap, cur, hv, hb, hg, hnc, _⟩
  · omega
  · exact ⟨g, cap, hv, hb, (h.lt g (by rw [hv]; rfl)).2, hnc⟩
theorem own_pks {w : World} {base G cap m : Nat} {e : TypeId} {L : List Pk} (h : w.ownsRow base e 22 (.slice (some ⟨G, 0, none⟩) m cap) m (pksCells L)) (hl : L.length = m) (ha : All18 L) : PksAt w (some ⟨G, 0, none⟩) m L := by
  refine ⟨hl, fun i hi => ha i (by omega), fun _ => ⟨G, 0, rfl, fun i hi j hj => ?_⟩⟩
  rw [Nat.zero_add, World.ownsRow.cellAt h (i * 22 + j) (by omega)]
  exact pksCells_at L ha i (by omega) j hj
theorem own_cell0 {w : World} {base G cap m : Nat} {e : TypeId} {xs : List Value} {u : Value} (h : w.ownsRow base e 22 (.slice (some ⟨G, 0, none⟩) m cap) m xs) (hm : 0 < m) (h0 : xs[0]? = some u) : w.cell? ⟨G, 0, none⟩ = some u := by
  rw [World.ownsRow.cellAt h 0 (by omega)]; exact h0
theorem own_cell02 {w : World} {base G cap m : Nat} {e : TypeId} {xs : List Value} {u v : Value} (h : w.ownsRow base e 22 (.slice (some ⟨G, 0, none⟩) m cap) m xs) (hm : 0 < m) (h0 : xs[0]? = some u) (h2 : xs[2]? = some v) : w.cell? ⟨G, 0, none⟩ = some u ∧ w.cell? ⟨G, 2, none⟩ = some v := by
  rw [World.ownsRow.cellAt h 0 (by omega), World.ownsRow.cellAt h 2 (by omega)]; exact ⟨h0, h2⟩
theorem heard_keep {w w' : World} {A : Option Addr} {n : Nat} {xs : List (Int × Int)} (h : HeardAt w A n xs) (hb : Below w.heap.size w w') : HeardAt w' A n xs := h.keep hb
theorem heard_one (w : World) (a b : Int) : HeardAt (w.alloc (.cells #[.int .i64 a, .int .i64 b] 184)) (some ⟨w.heap.size, 0, none⟩) 1 [(a, b)] := by
  have B := Blk.new w 184 #[.int .i64 a, .int .i64 b]
  refine ⟨rfl, fun _ => ⟨w.heap.size, 0, rfl, fun i hi => ?_⟩⟩
  obtain rfl : i = 0 := by omega
  exact ⟨B.cell 0, B.cell 1⟩
set_option maxHeartbeats 20000000 in
set_option maxRecDepth 100000 in
theorem sealed_good (ks : List Int) (k0 k1 k2 k3 k4 k5 k6 k7 : Int) (HKS : Hid (ks = [k0, k1, k2, k3, k4, k5, k6, k7])) (l : List Pk) (B : Option Addr) (m d : Nat) (os : List Int) (A : Option Addr) (n c : Nat) (wh ab yb : Int) (w : World)
    (hkb : AllB ks) (hp : PksAt w B m l) (hpb : ∀ i, i < m → AllB (l.getD i Pk.none).ps) (hz : BytesAt w A n os) (hob : AllB os) (hn : n ≤ 20) (hm1 : 1 ≤ m) (hm6 : m ≤ 6) (hchk : checkPacketsE l = 0)
    (hwh : 0 ≤ wh ∧ wh ≤ 255) (hab : 0 ≤ ab ∧ ab ≤ 255) (hyb : 0 ≤ yb ∧ yb ≤ 255) (hst : Steps w) (ht : Tab w) :
    Calls Tryz.prog 15 #[.agg #[.int .u8 k0, .int .u8 k1, .int .u8 k2, .int .u8 k3, .int .u8 k4, .int .u8 k5, .int .u8 k6, .int .u8 k7], .slice B m d, .agg #[.slice A n c, .int .u8 wh, .int .u8 ab, .int .u8 yb]] w fun x w' => x = .returned (.bool true) ∧ Below w.heap.size w w' := by
  have HKB := Lib.hid hkb
  have HP := Lib.hid hp
  have HPB := Lib.hid hpb
  have HZ := Lib.hid hz
  have HOB := Lib.hid hob
  have HST := Lib.hid hst
  have HT := Lib.hid ht
  have HCHK := Lib.hid hchk
  have HWH := Lib.hid hwh
  have HAB := Lib.hid hab
  have HYB := Lib.hid hyb
  have hB : ∃ b off, B = some ⟨b, off, none⟩ ∧ ∀ i, i < m → ∀ j, j < 22 → w.cell? ⟨b, off + i * 22 + j, none⟩ = (l.getD i Pk.none).cells[j]? := hp.2.2 (by omega)
  obtain ⟨bb, bo, rfl, hbc⟩ := hB
  have HBC := Lib.hid hbc
  have i1 : decide ((m : Int) < 1) = false := decide_eq_false (by omega)
  have i2 : decide ((6 : Int) < (m : Int)) = false := decide_eq_false (by omega)
  have i3 : decide ((20 : Int) < (n : Int)) = false := decide_eq_false (by omega)
  clear hkb hp hpb hz hob hst ht hchk hwh hab hyb hbc
  go_enter Tryz.func15, Tryz.ntmps15
  go_upto_region 1 with fail
  obtain ⟨W0, hW0⟩ : ∃ X, X = (w.alloc (.cells #[.int .u8 k0, .int .u8 k1, .int .u8 k2, .int .u8 k3, .int .u8 k4, .int .u8 k5, .int .u8 k6, .int .u8 k7] 94)).alloc (.cells #[.slice A n c, .int .u8 wh, .int .u8 ab, .int .u8 yb] 182) := ⟨_, rfl⟩
  rw [← hW0]
  have HK0 : Hid (Blk W0 w.heap.size 94 #[.int .u8 k0, .int .u8 k1, .int .u8 k2, .int .u8 k3, .int .u8 k4, .int .u8 k5, .int .u8 k6, .int .u8 k7]) := by show Blk _ _ _ _; rw [hW0]; exact (Blk.new _ _ _).alloc _
  have HX0 : Hid (Blk W0 (w.heap.size + 1) 182 #[.slice A n c, .int .u8 wh, .int .u8 ab, .int .u8 yb]) := by show Blk _ _ _ _; rw [hW0]; exact Blk.at_size _ _ (by simp)
  have HB0 : Hid (Below w.heap.size w W0) := by show Below _ _ _; rw [hW0]; exact ((Below.refl _ _).alloc (Nat.le_refl _) _).alloc (by simp) _
  have HS0 : Hid (w.heap.size + 1 < W0.heap.size) := by show _ < _; rw [hW0]; simp
  obtain ⟨gk, hgk⟩ : ∃ g, g = w.heap.size := ⟨_, rfl⟩
  obtain ⟨gx, hgx⟩ : ∃ g, g = w.heap.size + 1 := ⟨_, rfl⟩
  rw [← hgx] at HX0 ⊢
  rw [← hgk] at HK0 ⊢
  have HGX : Hid (gk < W0.heap.size ∧ gx < W0.heap.size) := by show _ ∧ _; have := HS0.out; omega
  have HGK := Lib.hid hgk
  clear hW0 hgx hgk HS0
  have x0 : W0.cell? ⟨gx, 0, none⟩ = some (.slice A n c) := HX0.out.cell 0
  go_wp2_with fail
  refine Calls.mono (refCheckPackets_any _ m d l _ (by omega) (HP.out.keep HB0.out)) ?_
  rintro x W1 ⟨rfl, hb⟩
  rw [HCHK.out]
  have HB1 := Lib.hid (HB0.out.trans (Below.mono hb HB0.out.size))
  have HK1 := Lib.hid (HK0.out.below hb)
  have HX1 := Lib.hid (HX0.out.below hb)
  have HG1 : Hid (gk < W1.heap.size ∧ gx < W1.heap.size) := by show _ ∧ _; have := hb.size; have := HGX.out; omega
  clear hb HB0 HK0 HX0 HGX x0
  obtain ⟨i0, hi, hz0, hz1, hz2⟩ := info_parts infoPkR
  have hl : l.length = m := HP.out.1
  have HA18 : Hid (All18 l) := fun i hi => HP.out.2.1 i (by rw [← HP.out.1]; exact hi)
  have hpl : (pksCells l).length = m * 22 := by rw [pksCells_length l HA18.out, hl]
  have hcell : ∀ j u, (pksCells l)[j]? = some u → (W1.alloc (.cells #[] 97)).cell? ((⟨bb, bo, none⟩ : Addr).add j) = some u := fun j u hu => by
    have hj : j < m * 22 := by have := (List.getElem?_eq_some_iff.1 hu).1; omega
    have e : j = j / 22 * 22 + j % 22 := by omega
    have hc := HBC.out (j / 22) (by omega) (j % 22) (by omega)
    have hu2 : (pksCells l)[j / 22 * 22 + j % 22]? = some u := by rw [← e]; exact hu
    rw [pksCells_at l HA18.out (j / 22) (by omega) (j % 22) (by omega)] at hu2
    rw [hu2, Nat.add_assoc, ← e] at hc
    rw [addr_add]
    rw [((HB1.out).alloc HB1.out.size _).cell (p := ⟨bb, bo + j, none⟩) (World.block_lt_of_cell? _ _ hc)]
    exact hc
  have HCELL := Lib.hid hcell
  have HONE : Hid (∀ u ∈ pksCells l, u.oneCell' = true) := pksCells_one l
  have HPL := Lib.hid hpl
  clear hcell hpl
  go_upto_region 4 with (at_builtin; refine wpList_append_arg _ rfl _ _ 114 rfl 97 i0 (.agg #[.int .i64 0, .int .i64 0, .int .i64 0, .int .i64 0, .int .u8 0, .int .u8 0, .int .u8 0, .int .u8 0, .int .u8 0, .int .u8 0, .int .u8 0, .int .u8 0, .int .u8 0, .int .u8 0, .int .u8 0, .int .u8 0, .int .u8 0, .int .u8 0, .int .u8 0, .int .u8 0, .int .u8 0, .int .u8 0]) 22 56 Tryz.underlying114 hi hz0 hz1 hz2 rfl (by decide) W1.heap.size 0 0 0 [] rfl rfl (fun j u h => by simp at h) ⟨bb, bo, none⟩ m d (pksCells l) rfl HPL.out HCELL.out HONE.out (fun h => by omega) (by unfold maxLen; omega) (by omega) (fun h => by omega) ?_; intro _ v1 w2 hown hgrow)
  have HG2 : Hid (Below W1.heap.size W1 w2) := Below.grown ((Below.refl _ _).alloc (Nat.le_refl _) _) hgrow (by simp) (fun k hk => by cases hk)
  have hown2 : w2.ownsRow W1.heap.size 97 22 v1 m (pksCells l) := by
    have h0 := hown
    rw [Nat.zero_add, List.nil_append] at h0
    exact own_base h0 (by simp)
  obtain ⟨G, cap, rfl, hGlo, hGb, hmc⟩ := own_row hown2 (by omega)
  have HR2 := Lib.hid hown2
  have HB2 := Lib.hid (HB1.out.trans (HG2.out.mono HB1.out.size))
  have HK2 := Lib.hid (HK1.out.below HG2.out)
  have HX2 := Lib.hid (HX1.out.below HG2.out)
  have HGG : Hid (gk < G ∧ gx < G ∧ G < w2.heap.size) := by show _ ∧ _ ∧ _; have := HG1.out; omega
  clear hown hgrow hown2 HG2 HB1 HK1 HX1 HG1 HCELL hGlo hGb hi hz0 hz1 hz2
  have x0 : w2.cell? ⟨gx, 0, none⟩ = some (.slice A n c) := HX2.out.cell 0
  obtain ⟨ib, hib, hib0, hib1, hib2⟩ := info_parts infoB
  go_wp2
  go_loopw [7, 66] (fun v i wr => ∃ k : Nat, k ≤ n ∧ i = .int .i64 k ∧ OwnB wr w2.heap.size v ((noMark os).take k) ∧ Below w2.heap.size w2 wr) (fun _ i _ => n - (intOf i).toNat)
  case atStart => exact ⟨0, Nat.zero_le _, rfl, World.ownsRow_nil _ _ _ _, Below.refl _ _⟩
  case round =>
    obtain ⟨k, hk, rfl, hown, hb⟩ := hrel
    by_cases hlt : k < n
    · obtain ⟨b, off, rfl, hcc⟩ := (HZ.out.keep (HB2.out.trans (hb.mono HB2.out.size))).2.2 (by omega)
      obtain ⟨x, hx⟩ : ∃ x, x = os.getD k 0 := ⟨_, rfl⟩
      have h0 := hcc k hlt
      rw [← hx] at h0
      have hnk : (noMark os).getD k 0 = if x = 93 then 0 else x := by rw [noMark_at os k (by rw [HZ.out.1]; exact hlt), ← hx]
      have htk := take_snocI (noMark os) k (by rw [noMark_len, HZ.out.1]; exact hlt)
      rw [hnk] at htk
      have hown0 : wr.ownsRow w2.heap.size 5 1 u7 k (((noMark os).take k).map (Value.int .u8)) := by
        have h1 := hown
        unfold OwnB at h1
        rwa [List.length_take, noMark_len, HZ.out.1, Nat.min_eq_left hk] at h1
      have HO := Lib.hid hown0
      have HB := Lib.hid hb
      have HTK := Lib.hid htk
      clear hcc hx hnk htk hown hown0 hb
      have hsz1 := HB.out.size
      by_cases h93 : x = 93
      · subst h93
        rw [if_pos rfl] at HTK
        go_wp2_with (at_builtin; refine wpList_append_own _ rfl _ _ 106 rfl w2.heap.size 5 ib (.int .u8 0) 1 1 Tryz.underlying106 hib hib0 hib1 hib2 rfl (by decide) _ _ _ rfl (World.ownsRow.alloc HO.out _) ⟨wr.heap.size, 0, none⟩ 1 1 [.int .u8 0] rfl rfl (cells_one_new _ _ _) (by simp [Value.oneCell']) (by unfold maxLen; omega) (by omega) (by simp; omega) ?_; intro v' w4 hown' hgrow _)
        have R : OwnB w4 w2.heap.size v' ((noMark os).take (k + 1)) := by
          unfold OwnB
          rw [HTK.out, List.length_append, List.length_take, noMark_len, HZ.out.1, Nat.min_eq_left hk, List.map_append]
          exact hown'
        have B1 : Below w2.heap.size w2 w4 := Below.grown (HB.out.alloc hsz1 _) hgrow (by simp; omega) (fun j hj => (HO.out.lt j hj).1)
        clear hown' hgrow
        go_wp2
        go_roundw
        case rel => exact ⟨k + 1, by omega, by go_num, R, B1⟩
        case measure => simp [intOf]; omega
      · rw [if_neg h93] at HTK
        have e93 : (x == 93) = false := by simp [h93]
        go_wp2_with (at_builtin; refine wpList_append_own _ rfl _ _ 106 rfl w2.heap.size 5 ib (.int .u8 0) 1 1 Tryz.underlying106 hib hib0 hib1 hib2 rfl (by decide) _ _ _ rfl (World.ownsRow.alloc HO.out _) ⟨wr.heap.size, 0, none⟩ 1 1 [.int .u8 x] rfl rfl (cells_one_new _ _ _) (by simp [Value.oneCell']) (by unfold maxLen; omega) (by omega) (by simp; omega) ?_; intro v' w4 hown' hgrow _)
        have R : OwnB w4 w2.heap.size v' ((noMark os).take (k + 1)) := by
          unfold OwnB
          rw [HTK.out, List.length_append, List.length_take, noMark_len, HZ.out.1, Nat.min_eq_left hk, List.map_append]
          exact hown'
        have B1 : Below w2.heap.size w2 w4 := Below.grown (HB.out.alloc hsz1 _) hgrow (by simp; omega) (fun j hj => (HO.out.lt j hj).1)
        clear hown' hgrow
        go_wp2
        go_roundw
        case rel => exact ⟨k + 1, by omega, by go_num, R, B1⟩
        case measure => simp [intOf]; omega
    · obtain rfl : k = n := by omega
      have ht : (noMark os).take k = noMark os := List.take_of_length_le (by rw [noMark_len, HZ.out.1]; exact Nat.le_refl _)
      rw [ht] at hown
      have hol : (noMark os).length = k := by rw [noMark_len, HZ.out.1]
      have hown1 : wr.ownsRow w2.heap.size 5 1 u7 k ((noMark os).map (Value.int .u8)) := by
        have h1 := hown
        unfold OwnB at h1
        rwa [hol] at h1
      have hlen7 : ∃ A7 c7, u7 = .slice A7 k c7 := by
        rcases hown1.2 with ⟨h1, h2⟩ | ⟨g, cp, cur, h1, _⟩
        · exact ⟨none, 0, by rw [h1, h2]⟩
        · exact ⟨_, cp, h1⟩
      obtain ⟨A7, c7, rfl⟩ := hlen7
      -- the letters of the second loop
      obtain ⟨st, hst⟩ : ∃ st, st = (l.getD 0 Pk.none).st := ⟨_, rfl⟩
      obtain ⟨c0, hc0⟩ : ∃ c0, c0 = (l.getD 0 Pk.none).ct := ⟨_, rfl⟩
      have hgood : ∀ i, i < l.length → (l.getD i Pk.none).ps.length = 18 ∧ (l.getD i Pk.none).err = 0 ∧ AllB (l.getD i Pk.none).ps := fun i hi => by
        have hch : firstInP l = 0 := by rw [← checkPacketsE_few l (by omega)]; exact HCHK.out
        exact ⟨HA18.out i hi, firstInP_zero l hch i hi, HPB.out i (by omega)⟩
      have HGOOD := Lib.hid hgood
      have hbd := packetE_bd (l.getD 0 Pk.none) (hgood 0 (by omega)).2.1
      rw [← hst, ← hc0] at hbd
      have HSTB : Hid (0 ≤ st ∧ st ≤ 255) := hbd.1
      have HC0 : Hid (0 ≤ c0 ∧ c0 ≤ 65535) := hbd.2.2.1
      have HSD := Lib.hid hst
      have HCD := Lib.hid hc0
      have HCON : Hid (∀ p ∈ conL st c0 l, p.ps.length = 18 ∧ p.err = 0 ∧ AllB p.ps) := con_good st c0 l hbd.1 hgood
      have HCF : Hid (∀ j, j ≤ m → (pksCells (mixL st c0 l j))[0]? = some (.int .i64 st) ∧ (pksCells (mixL st c0 l j))[2]? = some (.int .i64 c0)) := fun j hj => mix_first l HA18.out (by omega) st c0 hst.symm hc0.symm hbd.2.2.1 j (by omega)
      have HB3 := Lib.hid hb
      have HO3 := Lib.hid hown
      have HOL := Lib.hid hol
      have ka8 : Hid ((Tryz.prog.info? 94).map (·.size) = some (#[.int .u8 k0, .int .u8 k1, .int .u8 k2, .int .u8 k3, .int .u8 k4, .int .u8 k5, .int .u8 k6, .int .u8 k7] : Array Value).size) := by show _ = _; kernel_rfl
      have HKB8 : Hid ((.agg #[.int .u8 k0, .int .u8 k1, .int .u8 k2, .int .u8 k3, .int .u8 k4, .int .u8 k5, .int .u8 k6, .int .u8 k7] : Value) = .agg (bytesA ks)) := by show _ = _; rw [HKS.out]; rfl
      have HK8L : Hid (ks.length = 8) := by show _ = _; rw [HKS.out]; rfl
      clear hown hown1 hb ht hgood hbd hst hc0 hol x0
      go_wp2_with fail
      go_loopw [7, 81] (fun v i wx => ∃ j : Nat, j ≤ m ∧ i = .int .i64 j ∧ OwnB wx w2.heap.size v (streamL ks (noMark os) ((conL st c0 l).take j)) ∧ wx.ownsRow W1.heap.size 97 22 (.slice (some ⟨G, 0, none⟩) m cap) m (pksCells (mixL st c0 l j)) ∧ Below G w2 wx ∧ w2.heap.size ≤ wx.heap.size) (fun _ i _ => m - (intOf i).toNat)
      case atStart =>
        refine ⟨0, Nat.zero_le _, rfl, ?_, ?_, ?_, HB3.out.size⟩
        · rw [List.take_zero]
          show OwnB _ _ _ (noMark os ++ [])
          rw [List.append_nil]
          exact HO3.out
        · rw [mixL_zero]
          exact ownsRow_block HR2.out (fun g hg => by
            have : g = G := by simpa [Value.ownBlock] using hg.symm
            subst this
            exact HB3.out.block g HGG.out.2.2)
        · exact HB3.out.mono (by have := HGG.out; omega)
      case round =>
        obtain ⟨j, hj, rfl, hO, hR, hb, hs⟩ := hrel
        by_cases hjl : j < m
        · have hjle : j ≤ l.length := by omega
          obtain ⟨cp, hcp⟩ : ∃ p, p = conP st c0 j (l.getD j Pk.none) := ⟨_, rfl⟩
          have hcL : (conL st c0 l).getD j Pk.none = cp := by rw [conL_at st c0 l j (by omega), hcp]
          have hcg := HCON.out cp (by rw [← hcL]; exact getD_memU _ j _ (by rw [conL_len]; omega))
          have HCG := Lib.hid hcg
          obtain ⟨cs, hcs⟩ : ∃ cs, cs = cp.cells := ⟨_, rfl⟩
          obtain ⟨fa, hfa⟩ : ∃ fa, fa = bytesA (frameL ks cp) := ⟨_, rfl⟩
          have cs22 : Hid (cs.size = 22) := by show _ = _; rw [hcs]; exact Pk.size hcg.1
          have cs1 : Hid (cs.all (·.oneCell') = true) := by show _ = _; rw [hcs]; exact pkA_one ..
          have fa32 : Hid (fa.size = 32) := by show _ = _; rw [hfa, bytesA_size, frameL_len ks cp hcg.1]
          have fa1 : Hid (fa.all (·.oneCell') = true) := by show _ = _; rw [hfa]; exact bytesA_one _
          have ifa : Hid ((Tryz.prog.info? 98).map (·.size) = some fa.size) := by show _ = _; rw [fa32.out]; kernel_rfl
          have ics : Hid ((Tryz.prog.info? 101).map (·.size) = some cs.size) := by show _ = _; rw [cs22.out]; kernel_rfl
          have icsz : Hid ((#[.int .i64 0, .int .i64 0, .int .i64 0, .int .i64 0, .int .u8 0, .int .u8 0, .int .u8 0, .int .u8 0, .int .u8 0, .int .u8 0, .int .u8 0, .int .u8 0, .int .u8 0, .int .u8 0, .int .u8 0, .int .u8 0, .int .u8 0, .int .u8 0, .int .u8 0, .int .u8 0, .int .u8 0, .int .u8 0] : Array Value).size = cs.size) := by show _ = _; rw [cs22.out]; rfl
          have HENC : Hid (∀ W : World, Calls Tryz.prog 67 #[.agg #[.int .u8 k0, .int .u8 k1, .int .u8 k2, .int .u8 k3, .int .u8 k4, .int .u8 k5, .int .u8 k6, .int .u8 k7], .agg cs] W fun e w' => e = .returned (.tuple #[.agg fa, .int .i64 0]) ∧ Below W.heap.size W w') := fun W => by
            have h1 := Encode_any ks cp W HK8L.out HKB.out hcg.1 hcg.2.2
            rw [encodeA_ok ks cp hcg.2.1, hcg.2.1, ← hfa, ← hcs, ← HKB8.out] at h1
            exact h1
          have HDEC : Hid (∀ W : World, Calls Tryz.prog 68 #[.agg #[.int .u8 k0, .int .u8 k1, .int .u8 k2, .int .u8 k3, .int .u8 k4, .int .u8 k5, .int .u8 k6, .int .u8 k7], .agg fa] W fun e w' => e = .returned (.tuple #[.agg cs, .int .i64 0]) ∧ Below W.heap.size W w') := fun W => by
            have h1 := Decode_any ks (frameL ks cp) W HK8L.out HKB.out (frameL_len ks cp hcg.1) (frame_all ks cp HK8L.out HKB.out hcg.1 hcg.2.2 hcg.2.1)
            have h2 := decode_frame ks cp hcg.1 hcg.2.1
            have h3 : decodeA ks (frameL ks cp) = cs := by unfold decodeA; rw [if_pos h2, read_frame ks cp hcg.1, hcs]
            rw [h2, h3, ← hfa, ← HKB8.out] at h1
            exact h1
          have HNE : Hid (∀ W : World, (binOp .neq 97 (.agg cs) (.agg cs)).run Tryz.prog W = .ok (.bool false) W) := fun W => by rw [hcs]; exact neq_sameR cp hcg.1 W
          have HFA := Lib.hid hfa
          have HCSC := Lib.hid hcs
          have HCL := Lib.hid hcL
          have HO := Lib.hid hO
          have HR := Lib.hid hR
          have HB := Lib.hid hb
          have HSZ := Lib.hid hs
          clear hcp hcL hcg hcs hfa hO hR hb hs
          go_upto_region 16 with fail
          refine set_r16 W1.heap.size G m cap j st c0 (pksCells (mixL st c0 l j)) wr _ _ rfl rfl rfl hjl hm6 HC0.out HR.out (HCF.out j hj).1 (HCF.out j hj).2 (fun c a d v w h => by cases d <;> exact h) ?_
          simp only [Act.put, List.setIfInBounds_toArray, List.set_cons_zero, List.set_cons_succ]
          obtain ⟨w3, hw3⟩ : ∃ X, X = (wr.drew.setCell ⟨G, j * 22, none⟩ (.int .i64 st)).setCell ⟨G, j * 22 + 2, none⟩ (.int .i64 ((c0 + 2 * (j : Int)) % 65536)) := ⟨_, rfl⟩
          rw [← hw3]
          have q1 := World.ownsRow.stored (w := wr.drew) HR.out (j * 22) (.int .i64 st)
          have q2 := World.ownsRow.stored q1.1 (j * 22 + 2) (.int .i64 ((c0 + 2 * (j : Int)) % 65536))
          rw [← hw3, mix_step st c0 l HA18.out j (by omega)] at q2
          have HR3 := Lib.hid q2.1
          have hsame : ∀ g, g < wr.heap.size → g ≠ G → w3.heap[g]? = wr.heap[g]? := fun g hg hne => by
            rw [q2.2.block g (Nat.lt_of_lt_of_le hg q1.2.size) (fun e => hne (Option.some.inj e))]
            exact q1.2.block g hg (fun e => hne (Option.some.inj e))
          have HO3b : Hid (OwnB w3 w2.heap.size u7 (streamL ks (noMark os) ((conL st c0 l).take j))) := ownsRow_block HO.out (fun g hg => by
            have h1 := World.ownsRow.lt HO.out g hg
            exact hsame g h1.2 (by have := HGG.out; omega))
          have HBG3 : Hid (Below G w2 w3) := by
            show Below _ _ _
            rw [hw3]
            exact ((HB.out.drew).setCell (p := ⟨G, j * 22, none⟩) (Nat.le_refl G) _).setCell (p := ⟨G, j * 22 + 2, none⟩) (Nat.le_refl G) _
          have HSZ3 : Hid (w2.heap.size ≤ w3.heap.size) := Nat.le_trans HSZ.out (Nat.le_trans q1.2.size q2.2.size)
          clear hw3 q1 q2 hsame HO HR HB HSZ
          go_upto_region 17 with fail
          have HK3 : Hid (Blk w3 gk 94 #[.int .u8 k0, .int .u8 k1, .int .u8 k2, .int .u8 k3, .int .u8 k4, .int .u8 k5, .int .u8 k6, .int .u8 k7]) := (HBG3.out.block gk HGG.out.1).trans HK2.out
          have HC3 : Hid (w3.rangeAt G (j * 22) cs.toList) := fun x v hv => by
            have hx : x < 22 := by have := (List.getElem?_eq_some_iff.1 hv).1; rw [Array.length_toList, cs22.out] at this; exact this
            have a1 := World.ownsRow.cellAt HR3.out (j * 22 + x) (by omega)
            rw [pksCells_at _ (mix18 st c0 l HA18.out (j + 1) (by omega)) j (by rw [mixL_len st c0 l _ (by omega)]; omega) x hx, mixL_at st c0 l (j + 1) j (by omega), if_pos (by omega), HCL.out, ← HCSC.out] at a1
            rw [a1, ← hv]; simp
          refine enc_r17 gk G m cap j #[.int .u8 k0, .int .u8 k1, .int .u8 k2, .int .u8 k3, .int .u8 k4, .int .u8 k5, .int .u8 k6, .int .u8 k7] cs fa w3 _ _ rfl rfl rfl rfl hjl HK3.out ka8.out HC3.out cs22.out HENC.out fa32.out fa1.out (fun c a d v w h => by cases d <;> exact h) ?_
          intro gf w4 hgf hF4 hb4
          simp only [Act.put, List.setIfInBounds_toArray, List.set_cons_zero, List.set_cons_succ]
          have HK4 := Lib.hid (HK3.out.below hb4)
          have HF4 := Lib.hid hF4
          have HR4 := Lib.hid (own_below HR3.out hb4)
          have HO4 := Lib.hid (HO3b.out.below hb4)
          have HBG4 : Hid (Below G w2 w4) := HBG3.out.trans (hb4.mono (by have := HBG3.out.size; have := HGG.out; omega))
          have HSZ4 : Hid (w2.heap.size ≤ w4.heap.size) := Nat.le_trans HSZ3.out hb4.size
          clear hgf hF4 hb4 HK3 HR3 HO3b HBG3 HSZ3 HC3 HENC
          go_wp2_with (first
            | (refine wpList_load_row rfl 94 _ rfl gk rfl 94 #[.int .u8 k0, .int .u8 k1, .int .u8 k2, .int .u8 k3, .int .u8 k4, .int .u8 k5, .int .u8 k6, .int .u8 k7] (0, 0) _ HK4.out Tryz.underlying94 rfl ka8.out ?_)
            | (refine wpList_load_row rfl 98 _ rfl gf rfl 98 fa (0, 0) _ HF4.out Tryz.underlying98 rfl ifa.out ?_))
          refine Calls.mono (HDEC.out _) ?_
          rintro x w5 ⟨rfl, hb5⟩
          have HK5 := Lib.hid (HK4.out.below hb5)
          have HF5 := Lib.hid (HF4.out.below hb5)
          have HR5 := Lib.hid (own_below HR4.out hb5)
          have HO5 := Lib.hid (HO4.out.below hb5)
          have HBG5 : Hid (Below G w2 w5) := HBG4.out.trans (hb5.mono (by have := HBG4.out.size; have := HGG.out; omega))
          clear hb5 HK4 HF4 HR4 HO4 HBG4 HSZ4 HDEC
          go_upto_region 19 with (refine wpList_store_row rfl 101 _ _ rfl w5.heap.size cs rfl rfl 101 _ (Blk.new _ _ _) ics.out icsz.out cs1.out ?_)
          obtain ⟨w6, hw6⟩ : ∃ X, X = (w5.alloc (.cells #[.int .i64 0, .int .i64 0, .int .i64 0, .int .i64 0, .int .u8 0, .int .u8 0, .int .u8 0, .int .u8 0, .int .u8 0, .int .u8 0, .int .u8 0, .int .u8 0, .int .u8 0, .int .u8 0, .int .u8 0, .int .u8 0, .int .u8 0, .int .u8 0, .int .u8 0, .int .u8 0, .int .u8 0, .int .u8 0] 101)).setRow w5.heap.size cs := ⟨_, rfl⟩
          rw [← hw6]
          have hf6 := box_facts_row (W := w5) #[.int .i64 0, .int .i64 0, .int .i64 0, .int .i64 0, .int .u8 0, .int .u8 0, .int .u8 0, .int .u8 0, .int .u8 0, .int .u8 0, .int .u8 0, .int .u8 0, .int .u8 0, .int .u8 0, .int .u8 0, .int .u8 0, .int .u8 0, .int .u8 0, .int .u8 0, .int .u8 0, .int .u8 0, .int .u8 0] cs 101 rfl w6 hw6
          obtain ⟨gp, hgp⟩ : ∃ g, g = w5.heap.size := ⟨_, rfl⟩
          rw [← hgp] at hf6 ⊢
          have hb6 : Below w5.heap.size w5 w6 := by rw [← hgp]; exact hf6.2
          have HP6 := Lib.hid hf6.1
          have HF6 := Lib.hid (HF5.out.below hb6)
          have HR6 := Lib.hid (own_below HR5.out hb6)
          have HO6 := Lib.hid (HO5.out.below hb6)
          have HBG6 : Hid (Below G w2 w6) := HBG5.out.trans (hb6.mono (by have := HBG5.out.size; have := HGG.out; omega))
          clear hf6 hb6 hw6 hgp HK5 HF5 HR5 HO5 HBG5
          have L1 : ∀ d os, (loadVar 101 ⟨gp, 0, none⟩).run Tryz.prog (grow (redrawn w6 d) os) = .ok (.agg cs) (grow (redrawn w6 d) os) := fun d os => run_loadVar_row _ gp 101 101 cs (0, 0) _ (HP6.out.below (below_regrown w6 d os)) Tryz.underlying101 rfl ics.out
          have L2 : ∀ d os, (loadVar 97 ⟨G, j * 22, none⟩).run Tryz.prog (grow (redrawn w6 d) os) = .ok (.agg cs) (grow (redrawn w6 d) os) := fun d os => load_pkR w6 G (j * 22) cs cs22.out (fun x hx => by
            rw [cs22.out] at hx
            have a1 := World.ownsRow.cellAt HR6.out (j * 22 + x) (by omega)
            rw [pksCells_at _ (mix18 st c0 l HA18.out (j + 1) (by omega)) j (by rw [mixL_len st c0 l _ (by omega)]; omega) x hx, mixL_at st c0 l (j + 1) j (by omega), if_pos (by omega), HCL.out, ← HCSC.out] at a1
            exact a1) d os
          have m2 : Tryz.prog.eqGuardType Tryz.prog.depth 97 = false := by kernel_rfl
          have hne := HNE.out
          have j1 : (0 : Int) ≤ (j : Int) := by omega
          have j2 : (j : Int) < (m : Int) := by omega
          refine wp_region_quiet_below (by kernel_rfl) (by kernel_rfl) ?_
          iterate 7 (quiet_step (fail))
          refine wpQuiet_rowAt _ _ rfl (by rfl) ⟨gp, 0, none⟩ cs rfl L1 ?_
          iterate 3 (quiet_step (fail))
          refine wpQuiet_rowAt _ _ rfl (by rfl) ⟨G, j * 22, none⟩ cs rfl L2 ?_
          repeat (quiet_step (fail))
          refine wpQuiet_nil ?_
          intro _ hw'
          obtain ⟨⟨dq, osq⟩, hw''⟩ := hw'
          subst hw''
          obtain ⟨w7, hw7⟩ : ∃ X, X = grow (redrawn w6 dq) osq := ⟨_, rfl⟩
          dsimp only
          rw [← hw7]
          have hb7 : Below w6.heap.size w6 w7 := by rw [hw7]; exact below_regrown w6 dq osq
          have HF7 := Lib.hid (HF6.out.below hb7)
          have HR7 := Lib.hid (own_below HR6.out hb7)
          have HO7 := Lib.hid (HO6.out.below hb7)
          have HBG7 : Hid (Below G w2 w7) := HBG6.out.trans (hb7.mono (by have := HBG6.out.size; have := HGG.out; omega))
          clear hb7 hw7 L1 L2 m2 hne HNE HP6 HF6 HR6 HO6 HBG6
          have hslen : (streamL ks (noMark os) ((conL st c0 l).take j)).length = k + 32 * j := by
            rw [streamL_len _ _ _ (fun p hp => (HCON.out p (List.mem_of_mem_take hp)).1), HOL.out, List.length_take, conL_len, Nat.min_eq_left (by omega)]
          have HON : Hid (w7.ownsRow w2.heap.size 5 1 u7 (k + 32 * j) ((streamL ks (noMark os) ((conL st c0 l).take j)).map (Value.int .u8))) := by
            have h1 := HO7.out
            unfold OwnB at h1
            rw [hslen] at h1
            exact h1
          have HNL : Hid (((frameL ks cp).map (Value.int .u8)).length = 32 * 1) := by show _ = _; rw [List.length_map, frameL_len ks cp HCG.out.1]
          have HNW : Hid (∀ x u, ((frameL ks cp).map (Value.int .u8))[x]? = some u → w7.cell? ((⟨gf, 0, none⟩ : Addr).add x) = some u) := fun x u hu => by
            rw [addr_add, Nat.zero_add, HF7.out.cell x, HFA.out, ← hu]
            simp [bytesA]
          have HN1 : Hid (∀ u ∈ (frameL ks cp).map (Value.int .u8), u.oneCell' = true) := fun u hu => by
            obtain ⟨z, _, rfl⟩ := List.mem_map.1 hu
            rfl
          have hs7 := HBG7.out.size
          have HSL := Lib.hid hslen
          clear hslen
          go_wp2_with (at_builtin; refine wpList_append_own _ rfl _ _ 106 rfl w2.heap.size 5 ib (.int .u8 0) 1 1 Tryz.underlying106 hib hib0 hib1 hib2 rfl (by decide) _ _ _ rfl HON.out ⟨gf, 0, none⟩ 32 32 ((frameL ks cp).map (Value.int .u8)) rfl HNL.out HNW.out HN1.out (by unfold maxLen; omega) (by omega) hs7 ?_; intro v9 w9 hown9 hgrow9 _)
          have R9 : OwnB w9 w2.heap.size v9 (streamL ks (noMark os) ((conL st c0 l).take (j + 1))) := by
            unfold OwnB
            rw [stream_snoc ks (noMark os) (conL st c0 l) j (by rw [conL_len]; omega), HCL.out, List.length_append, HSL.out, frameL_len ks cp HCG.out.1, List.map_append]
            exact hown9
          have R9b : w9.ownsRow W1.heap.size 97 22 (.slice (some ⟨G, 0, none⟩) m cap) m (pksCells (mixL st c0 l (j + 1))) := World.ownsRow.kept HR7.out hgrow9 (Or.inr (fun e => by
            have h1 := (World.ownsRow.lt HON.out G e.symm).1
            have := HGG.out
            omega))
          have R9c : Below G w2 w9 := Below.grown HBG7.out hgrow9 (by have := HGG.out; omega) (fun x hx => by
            have h1 := (World.ownsRow.lt HON.out x hx).1
            have := HGG.out
            omega)
          have R9d : w2.heap.size ≤ w9.heap.size := R9c.size
          clear hown9 hgrow9
          go_wp2
          go_roundw
          case rel => exact ⟨j + 1, by omega, by go_num, R9, R9b, R9c, R9d⟩
          case measure => simp [intOf]; omega
        · obtain rfl : j = m := by omega
          have htk : (conL st c0 l).take j = conL st c0 l := List.take_of_length_le (by rw [conL_len, hl]; exact Nat.le_refl _)
          have hmx : mixL st c0 l j = conL st c0 l := by rw [← hl]; exact mixL_all st c0 l
          rw [htk] at hO
          rw [hmx] at hR
          obtain ⟨W8, hW8⟩ : ∃ X, X = wr := ⟨_, rfl⟩
          rw [← hW8] at hO hR hb hs ⊢
          have HO8 := Lib.hid hO
          have HR8 := Lib.hid hR
          have HBG8 := Lib.hid hb
          clear hO hR hb hs hW8 htk hmx
          go_upto_region 23 with fail
          have hslen : (streamL ks (noMark os) (conL st c0 l)).length = k + 32 * j := by
            rw [streamL_len _ _ _ (fun p hp => (HCON.out p hp).1), HOL.out, conL_len, hl]
          have hsall : AllB (streamL ks (noMark os) (conL st c0 l)) := stream_all ks _ _ HK8L.out HKB.out (noMark_all os HOB.out) HCON.out
          have hup := stream_upto ks (noMark os) (conL st c0 l) (fun p hp => ⟨(HCON.out p hp).1, (HCON.out p hp).2.1⟩) (by rw [conL_len, hl]; omega) (noMark_ne os)
          have hrec := stream_recv ks (noMark os) (conL st c0 l) (fun p hp => ⟨(HCON.out p hp).1, (HCON.out p hp).2.1⟩)
          rw [HOL.out, conL_len, hl] at hup hrec
          obtain ⟨S, hS⟩ : ∃ S, S = streamL ks (noMark os) (conL st c0 l) := ⟨_, rfl⟩
          rw [← hS] at hslen hsall hup hrec
          have hO8 := HO8.out
          rw [← hS] at hO8
          have hown8 : W8.ownsRow w2.heap.size 5 1 u7 (k + 32 * j) (S.map (Value.int .u8)) := by
            have h1 := hO8
            unfold OwnB at h1
            rwa [hslen] at h1
          obtain ⟨gs, c8, rfl, _, _, hc8⟩ := own_row hown8 (by omega)
          have hz8 : BytesAt W8 (some ⟨gs, 0, none⟩) (k + 32 * j) S := OwnB.at_ hO8 hsall
          obtain ⟨ys, sp, E, hr1, _, hr3, hrc⟩ := Received_law ks k0 k1 k2 k3 k4 k5 k6 k7 HKS S (k + 32 * j) hslen HKB.out (by omega)
          obtain ⟨hE, hsp, kk, hu, hkk⟩ := hr1 (by omega)
          have hys : ys = placesL k j := hu.only hup (by rw [hslen]; exact hkk) (by rw [hslen]; omega)
          subst hE hsp hys
          rw [skipL_places k j (by omega)] at hrc
          have HZ8 : Hid (BytesAt W8.drew (some ⟨gs, 0, none⟩) (k + 32 * j) S) := hz8.keep (Below.refl _ _).drew
          have HREC := Lib.hid hrc
          have HRL := Lib.hid hrec
          have HR38 := Lib.hid hr3
          have HK8 : Hid (Blk W8 gk 94 #[.int .u8 k0, .int .u8 k1, .int .u8 k2, .int .u8 k3, .int .u8 k4, .int .u8 k5, .int .u8 k6, .int .u8 k7]) := (HBG8.out.block gk HGG.out.1).trans HK2.out
          have HPL2 : Hid ((placesL k j).length = j) := by show _ = _; simp [placesL]
          clear hslen hsall hup hrec hO8 hown8 hz8 hr1 hr3 hrc hu hkk HO8 hS
          go_region_held3 (fun W => (W.cell? ⟨gk, 0, none⟩ = some (.int .u8 k0) ∧ W.cell? ⟨gk, 1, none⟩ = some (.int .u8 k1) ∧ W.cell? ⟨gk, 2, none⟩ = some (.int .u8 k2) ∧ W.cell? ⟨gk, 3, none⟩ = some (.int .u8 k3) ∧ W.cell? ⟨gk, 4, none⟩ = some (.int .u8 k4) ∧ W.cell? ⟨gk, 5, none⟩ = some (.int .u8 k5) ∧ W.cell? ⟨gk, 6, none⟩ = some (.int .u8 k6) ∧ W.cell? ⟨gk, 7, none⟩ = some (.int .u8 k7))) (first | with_reducible exact results8 HK8.out.drew | with_reducible exact results8 (HK8.out.drew.below G1.out) | with_reducible exact results8 ((HK8.out.drew.below G1.out).below G2.out))
            (first
              | (go_at_call 70; refine (bytes_cap _ _ _ S _ HZ8.out (fun h => by cases h) (by omega)).mono ?_; rintro e w9 ⟨A1, c1, rfl, hI, hcp, hb1⟩; have HI1 := Lib.hid hI; have HC1 := Lib.hid hcp; have G1 := Lib.hid hb1; clear hI hcp hb1)
              | (go_at_call 76; refine (HREC.out A1 c1 _ HC1.out HI1.out).mono ?_; rintro e w10 ⟨vl, vs, rfl, ho1, ho2, hb2⟩; have O1 := Lib.hid ho1; have O2 := Lib.hid ho2; have G2 := Lib.hid hb2; clear ho1 ho2 hb2))
          have hg : Below W8.heap.size W8 w10 := (Below.refl _ W8).drew.trans (G1.out.trans (G2.out.mono G1.out.size))
          have HBG10 : Hid (Below G w2 w10) := HBG8.out.trans (hg.mono (by have := HBG8.out.size; have := HGG.out; omega))
          have HR10 := Lib.hid (own_below HR8.out hg)
          obtain ⟨a1, d1, hv1, hI1⟩ := pks_of O1.out HR38.out
          rw [HRL.out, HPL2.out] at hI1
          rw [HPL2.out] at hv1
          subst hv1
          obtain ⟨a2, d2, hv2, hH2⟩ := spans_of O2.out
          subst hv2
          have HI10 := Lib.hid hI1
          have HH10 := Lib.hid hH2
          clear hg hI1 hH2 HI1 HC1 G1 G2 O1 O2 HZ8 HREC HRL HR38 HK8 HR8 HBG8 HPL2
          as_aux_lemma =>
          go_upto_region 24 with fail
          have HCP : Hid (PksAt w10 (some ⟨G, 0, none⟩) j (conL st c0 l)) := own_pks HR10.out (by rw [conL_len, hl]) (con18 st c0 l HA18.out)
          obtain ⟨sk, hsk⟩ : ∃ s : List (Int × Int), s = (if 0 < k then [(0, (k : Int))] else []) := ⟨_, rfl⟩
          rw [← hsk] at HH10 ⊢
          have HSK := Lib.hid hsk
          clear hsk
          go_cut [173] (fun v wx => v = .bool false ∧ Below w10.heap.size w10 wx)
          case first =>
            by_cases hk0 : 0 < k
            · have HSE : Hid (sk = [(0, (k : Int))]) := by show _ = _; rw [HSK.out, if_pos hk0]
              have hskl : sk.length = 1 := by rw [HSE.out]; rfl
              have e3 : ((sk.length : Int) == 0) = false := by rw [hskl]; rfl
              clear hskl
              have e1 : ((k : Int) == 0) = false := by simp; omega
              have e2 : decide ((0 : Int) < (k : Int)) = true := decide_eq_true (by omega)
              go_wp2_with fail
              refine Calls.mono (back_any a1 j d1 (conL st c0 l) _ HI10.out (by omega)) ?_
              rintro x w11 ⟨a3, d3, rfl, hI3, hb1⟩
              have HI3 := Lib.hid hI3
              have HB1 := Lib.hid hb1
              clear hI3 hb1
              go_wp2_with fail
              refine Calls.mono (samePackets_same a3 _ j d3 cap (conL st c0 l) _ (by omega) HI3.out (HCP.out.keep HB1.out)) ?_
              rintro x w12 ⟨rfl, hb2⟩
              have HB2b : Hid (Below w10.heap.size w10 w12) := HB1.out.trans (hb2.mono HB1.out.size)
              have HH12 := Lib.hid (heard_keep HH10.out HB2b.out)
              clear hb2 HI3 HB1
              go_wp2_with fail
              have hA1 : HeardAt (w12.alloc (.cells #[.int .i64 0, .int .i64 (k : Int)] 184)) a2 sk.length sk := heard_keep HH12.out ((Below.refl w12.heap.size w12).alloc (Nat.le_refl _) _)
              have hA2 := heard_one w12 0 (k : Int)
              refine Calls.mono (sameSpans_any a2 (some ⟨w12.heap.size, 0, none⟩) sk.length 1 d2 1 sk [(0, (k : Int))] (w12.alloc (.cells #[.int .i64 0, .int .i64 (k : Int)] 184)) (by rw [HSE.out]; simp) (by omega) hA1 hA2) ?_
              clear hA1 hA2
              rintro x w13 ⟨rfl, qd, hq⟩
              rw [decide_eq_true HSE.out]
              have HB3b : Hid (Below w10.heap.size w10 w13) := by show Below _ _ _; rw [hq]; exact below_drewN' (HB2b.out.alloc HB2b.out.size _) qd
              clear hq
              go_wp2_with fail
              go_meet
              exact ⟨rfl, HB3b.out⟩
            · have HSE : Hid (sk = []) := by show _ = _; rw [HSK.out, if_neg hk0]
              have hskl : sk.length = 0 := by rw [HSE.out]; rfl
              have e3 : ((sk.length : Int) == 0) = true := by rw [hskl]; rfl
              clear hskl
              have e1 : ((k : Int) == 0) = true := by simp; omega
              have e2 : decide ((0 : Int) < (k : Int)) = false := decide_eq_false (by omega)
              go_wp2_with fail
              refine Calls.mono (back_any a1 j d1 (conL st c0 l) _ HI10.out (by omega)) ?_
              rintro x w11 ⟨a3, d3, rfl, hI3, hb1⟩
              have HI3 := Lib.hid hI3
              have HB1 := Lib.hid hb1
              clear hI3 hb1
              go_wp2_with fail
              refine Calls.mono (samePackets_same a3 _ j d3 cap (conL st c0 l) _ (by omega) HI3.out (HCP.out.keep HB1.out)) ?_
              rintro x w12 ⟨rfl, hb2⟩
              have HB2b : Hid (Below w10.heap.size w10 w12) := HB1.out.trans (hb2.mono HB1.out.size)
              clear hb2 HI3 HB1
              go_wp2_with fail
              go_meet
              exact ⟨rfl, HB2b.out⟩
          case rest =>
          obtain ⟨rfl, hb11⟩ := hcut
          have HBG11 : Hid (Below G w2 wc) := HBG10.out.trans (hb11.mono (by have := HBG10.out.size; have := HGG.out; omega))
          have HR11 := Lib.hid (own_below HR10.out hb11)
          have hlaw := lost_law st c0 l HSTB.out (by omega) (by omega) (fun i hi => (HGOOD.out i hi).2.1)
          rw [hl] at hlaw
          have HLOST : Hid (∀ (A : Option Addr) (c : Nat) (W : World), PksAt W A j (conL st c0 l) → Calls Tryz.prog 77 #[.slice A j c, .int .i64 st] W fun e w' => ∃ v, e = .returned (.tuple #[v, .int .i64 0]) ∧ OwnI w' W.heap.size v (gapsL c0 (j - 1)) ∧ Below W.heap.size W w') := fun A c W h => by
            have h1 := Lost_any A j c (conL st c0 l) st W (by omega) h
            rw [hlaw.1, hlaw.2] at h1
            exact h1
          have HX0c : Hid ((pksCells (conL st c0 l))[0]? = some (.int .i64 st)) := by
            have h1 := (HCF.out j (Nat.le_refl _)).1
            rw [show mixL st c0 l j = conL st c0 l by rw [← hl]; exact mixL_all st c0 l] at h1
            exact h1
          have HX2c : Hid ((pksCells (conL st c0 l))[2]? = some (.int .i64 c0)) := by
            have h1 := (HCF.out j (Nat.le_refl _)).2
            rw [show mixL st c0 l j = conL st c0 l by rw [← hl]; exact mixL_all st c0 l] at h1
            exact h1
          have hj0 : 0 < j := by omega
          have j3 : (0 : Int) < (j : Int) := by omega
          clear hb11 hlaw HBG10 HR10 HI10 HH10 HCP
          go_upto_region 26 with fail
          have HRd : Hid (wc.drew.ownsRow W1.heap.size 97 22 (.slice (some ⟨G, 0, none⟩) j cap) j (pksCells (conL st c0 l))) := HR11.out
          have HCP : Hid (PksAt wc.drew (some ⟨G, 0, none⟩) j (conL st c0 l)) := own_pks HRd.out (by rw [conL_len, hl]) (con18 st c0 l HA18.out)
          go_region_held3 (fun W => (W.cell? ⟨G, 0, none⟩ = some (.int .i64 st) ∧ W.cell? ⟨G, 2, none⟩ = some (.int .i64 c0))) (first | with_reducible exact own_cell02 HRd.out hj0 HX0c.out HX2c.out | with_reducible exact own_cell02 (own_below HRd.out G3.out) hj0 HX0c.out HX2c.out | with_reducible exact own_cell02 (own_below (own_below HRd.out G3.out) G4.out) hj0 HX0c.out HX2c.out)
            (first
              | (go_at_call 78; refine (packets_any _ j cap (conL st c0 l) _ HCP.out (by omega)).mono ?_; rintro e w13 ⟨A3, c3, rfl, hI, hb1⟩; have HI3 := Lib.hid hI; have G3 := Lib.hid hb1; clear hI hb1)
              | (go_at_call 77; refine (HLOST.out A3 c3 _ HI3.out).mono ?_; rintro e w14 ⟨v19, rfl, ho, hb2⟩; have O4 := Lib.hid ho; have G4 := Lib.hid hb2; clear ho hb2))
          have hg : Below wc.heap.size wc w14 := (Below.refl _ wc).drew.trans (G3.out.trans (G4.out.mono G3.out.size))
          have HBG14 : Hid (Below G w2 w14) := HBG11.out.trans (hg.mono (by have := HBG11.out.size; have := HGG.out; omega))
          have HR14 := Lib.hid (own_below HR11.out hg)
          obtain ⟨a5, d5, hv5, hJ⟩ := own_form O4.out
          rw [gapsL_len] at hv5 hJ
          subst hv5
          have HJ := Lib.hid hJ
          clear hg hJ G3 G4 O4 HI3 HRd HCP HLOST HBG11 HR11
          as_aux_lemma =>
          obtain ⟨r, hr⟩ : ∃ r, r = j - 1 := ⟨_, rfl⟩
          rw [← hr] at HJ ⊢
          have r1 : IntKind.i64.wrap ((j : Int) - 1) = (r : Int) := by rw [IntWalk.i64_in _ (by omega)]; omega
          have x2 : w14.cell? ⟨G, 2, none⟩ = some (.int .i64 c0) := by rw [World.ownsRow.cellAt HR14.out 2 (by omega)]; exact HX2c.out
          have hc00 := HC0.out.1
          have hc01 := HC0.out.2
          go_wp2_with fail
          go_loop [196] (fun i => ∃ x : Nat, x ≤ r ∧ i = .int .i64 x) (fun i => r - (intOf i).toNat)
          case atStart => exact ⟨0, Nat.zero_le _, rfl⟩
          case round =>
            obtain ⟨x, hx, rfl⟩ := hrel
            by_cases hxr : x < r
            · obtain ⟨b5, o5, rfl, hcc⟩ := HJ.out.2 (by omega)
              have h0 := hcc x hxr
              rw [gapsL_at c0 r x hxr] at h0
              clear hcc
              have wr1 : IntKind.i64.wrap (2 * (x : Int)) = 2 * (x : Int) := IntWalk.i64_in _ (by omega)
              have wr2 : IntKind.i64.wrap (c0 + 2 * (x : Int)) = c0 + 2 * (x : Int) := IntWalk.i64_in _ (by omega)
              have wr3 : IntKind.i64.wrap (c0 + 2 * (x : Int) + 1) = c0 + 2 * (x : Int) + 1 := IntWalk.i64_in _ (by omega)
              have tm : (c0 + 2 * (x : Int) + 1).tmod 65536 = (c0 + 2 * (x : Int) + 1) % 65536 := Int.tmod_eq_emod_of_nonneg (by omega)
              go_wp2
              go_round
              case rel => exact ⟨x + 1, by omega, by go_num⟩
              case measure => simp [intOf]; omega
            · obtain rfl : x = r := by omega
              go_upto_region 35 with fail
              have hxr : (x : Int) = (j : Int) - 1 := by omega
              have HX14 : Hid (Blk w14 gx 182 #[.slice A k c, .int .u8 wh, .int .u8 ab, .int .u8 yb]) := (HBG14.out.block gx HGG.out.2.1).trans HX2.out
              have HK14 : Hid (Blk w14 gk 94 #[.int .u8 k0, .int .u8 k1, .int .u8 k2, .int .u8 k3, .int .u8 k4, .int .u8 k5, .int .u8 k6, .int .u8 k7]) := (HBG14.out.block gk HGG.out.1).trans HK2.out
              obtain ⟨kk, hkk⟩ : ∃ q : Nat, (q : Int) = wh % (j : Int) := ⟨(wh % (j : Int)).toNat, Int.toNat_of_nonneg (Int.emod_nonneg _ (by omega))⟩
              have hkj : kk < j := by have := Int.emod_lt_of_pos wh (show (0 : Int) < (j : Int) by omega); omega
              obtain ⟨ai, hat⟩ : ∃ q : Nat, (q : Int) = ab % 32 := ⟨(ab % 32).toNat, by omega⟩
              have hat32 : ai < 32 := by omega
              obtain ⟨bz, hbz⟩ : ∃ b : Int, b = 1 + yb % 255 := ⟨_, rfl⟩
              have hbz1 : 1 ≤ bz ∧ bz ≤ 255 := by omega
              have t1 : wh.tmod (j : Int) = (kk : Int) := by rw [Int.tmod_eq_emod_of_nonneg HWH.out.1, hkk]
              have t2 : ab.tmod 32 = (ai : Int) := by rw [Int.tmod_eq_emod_of_nonneg HAB.out.1, hat]
              have t3 : yb.tmod 255 = yb % 255 := Int.tmod_eq_emod_of_nonneg HYB.out.1
              have t4 : IntKind.i64.wrap (1 + yb % 255) = bz := by rw [IntWalk.i64_in _ (by omega), hbz]
              have v1 : IntKind.i64.wrap wh = wh := IntWalk.i64_in _ (by have := HWH.out; omega)
              have v2 : IntKind.i64.wrap ab = ab := IntWalk.i64_in _ (by have := HAB.out; omega)
              have v3 : IntKind.i64.wrap yb = yb := IntWalk.i64_in _ (by have := HYB.out; omega)
              have jz : ((j : Int) == 0) = false := by simp; omega
              have jn : ¬ (j : Int) = 0 := by omega
              have jn2 : ¬ j = 0 := by omega
              have y1 : ∀ d os, (grow (redrawn w14 d) os).cell? ⟨gx, 1, none⟩ = some (.int .u8 wh) := fun d os => cell_regrown ((HX14.out.cell 1).trans rfl) d os
              have y2 : ∀ d os, (grow (redrawn w14 d) os).cell? ⟨gx, 2, none⟩ = some (.int .u8 ab) := fun d os => cell_regrown ((HX14.out.cell 2).trans rfl) d os
              have y3 : ∀ d os, (grow (redrawn w14 d) os).cell? ⟨gx, 3, none⟩ = some (.int .u8 yb) := fun d os => cell_regrown ((HX14.out.cell 3).trans rfl) d os
              refine wp_region_quiet_below (by kernel_rfl) (by kernel_rfl) ?_
              repeat (quiet_step (fail))
              refine wpQuiet_nil ?_
              intro _ hw'
              obtain ⟨⟨dq, osq⟩, hw''⟩ := hw'
              subst hw''
              obtain ⟨w15, hw15⟩ : ∃ X, X = grow (redrawn w14 dq) osq := ⟨_, rfl⟩
              dsimp only
              rw [← hw15, ← hkk, ← hat, ← hbz]
              have hb15 : Below w14.heap.size w14 w15 := by rw [hw15]; exact below_regrown w14 dq osq
              have HX15 := Lib.hid (HX14.out.below hb15)
              have HK15 := Lib.hid (HK14.out.below hb15)
              have HR15 := Lib.hid (own_below HR14.out hb15)
              have HB15 : Hid (Below w.heap.size w w15) := by
                have h1 := HB2.out
                have h2 : Below G w2 w15 := HBG14.out.trans (hb15.mono (by have := HBG14.out.size; have := HGG.out; omega))
                exact h1.trans (h2.mono (by have := HGG.out; have := HGK.out; omega))
              have HAT := Lib.hid hat
              have HBZ := Lib.hid hbz1
              clear hb15 hw15 HX14 HK14 HR14 HBG14 y1 y2 y3 t1 t2 t3 t4 v1 v2 v3 jz jn jn2 x2 r1 hxr HJ hkk hat hbz hbz1
              as_aux_lemma =>
              -- the packet whose frame is changed
              obtain ⟨cp, hcp⟩ : ∃ p, p = (conL st c0 l).getD kk Pk.none := ⟨_, rfl⟩
              have hcg := HCON.out cp (by rw [hcp]; exact getD_memU _ kk _ (by rw [conL_len]; omega))
              have HCG := Lib.hid hcg
              obtain ⟨cs, hcs⟩ : ∃ cs, cs = cp.cells := ⟨_, rfl⟩
              obtain ⟨fa, hfa⟩ : ∃ fa, fa = bytesA (frameL ks cp) := ⟨_, rfl⟩
              have cs22 : Hid (cs.size = 22) := by show _ = _; rw [hcs]; exact Pk.size hcg.1
              have fa32 : Hid (fa.size = 32) := by show _ = _; rw [hfa, bytesA_size, frameL_len ks cp hcg.1]
              have fa1 : Hid (fa.all (·.oneCell') = true) := by show _ = _; rw [hfa]; exact bytesA_one _
              have ifa : Hid ((Tryz.prog.info? 98).map (·.size) = some fa.size) := by show _ = _; rw [fa32.out]; kernel_rfl
              have ifaz : Hid ((#[.int .u8 0, .int .u8 0, .int .u8 0, .int .u8 0, .int .u8 0, .int .u8 0, .int .u8 0, .int .u8 0, .int .u8 0, .int .u8 0, .int .u8 0, .int .u8 0, .int .u8 0, .int .u8 0, .int .u8 0, .int .u8 0, .int .u8 0, .int .u8 0, .int .u8 0, .int .u8 0, .int .u8 0, .int .u8 0, .int .u8 0, .int .u8 0, .int .u8 0, .int .u8 0, .int .u8 0, .int .u8 0, .int .u8 0, .int .u8 0, .int .u8 0, .int .u8 0] : Array Value).size = fa.size) := by show _ = _; rw [fa32.out]; rfl
              have HENC : Hid (∀ W : World, Calls Tryz.prog 67 #[.agg #[.int .u8 k0, .int .u8 k1, .int .u8 k2, .int .u8 k3, .int .u8 k4, .int .u8 k5, .int .u8 k6, .int .u8 k7], .agg cs] W fun e w' => e = .returned (.tuple #[.agg fa, .int .i64 0]) ∧ Below W.heap.size W w') := fun W => by
                have h1 := Encode_any ks cp W HK8L.out HKB.out hcg.1 hcg.2.2
                rw [encodeA_ok ks cp hcg.2.1, hcg.2.1, ← hfa, ← hcs, ← HKB8.out] at h1
                exact h1
              have HFA := Lib.hid hfa
              have HC15 : Hid (w15.rangeAt G (kk * 22) cs.toList) := fun x v hv => by
                have hx : x < 22 := by have := (List.getElem?_eq_some_iff.1 hv).1; rw [Array.length_toList, cs22.out] at this; exact this
                have a1 := World.ownsRow.cellAt HR15.out (kk * 22 + x) (by omega)
                rw [pksCells_at _ (con18 st c0 l HA18.out) kk (by rw [conL_len]; omega) x hx, ← hcp, ← hcs] at a1
                rw [a1, ← hv]; simp
              clear hcp hcg hcs hfa
              go_upto_region 36 with fail
              refine enc_r36 gk G j cap kk #[.int .u8 k0, .int .u8 k1, .int .u8 k2, .int .u8 k3, .int .u8 k4, .int .u8 k5, .int .u8 k6, .int .u8 k7] cs fa w15 _ _ rfl rfl rfl rfl hkj HK15.out ka8.out HC15.out cs22.out HENC.out fa32.out fa1.out (fun c a d v w h => by cases d <;> exact h) ?_
              intro gf w16 hgf hF16 hb16
              simp only [Act.put, List.setIfInBounds_toArray, List.set_cons_zero, List.set_cons_succ]
              have HF16 := Lib.hid hF16
              have HK16 := Lib.hid (HK15.out.below hb16)
              have HX16 := Lib.hid (HX15.out.below hb16)
              have HB16 : Hid (Below w.heap.size w w16) := HB15.out.trans (hb16.mono HB15.out.size)
              clear hgf hF16 hb16 HK15 HX15 HR15 HB15 HC15 HENC cs22
              go_upto_region 38 with (first
                | (refine wpList_load_row rfl 98 _ rfl gf rfl 98 fa (0, 0) _ HF16.out Tryz.underlying98 rfl ifa.out ?_)
                | (refine wpList_store_row rfl 98 _ _ rfl w16.heap.size fa rfl rfl 98 _ (Blk.new _ _ _) ifa.out ifaz.out fa1.out ?_))
              obtain ⟨w17, hw17⟩ : ∃ X, X = (w16.alloc (.cells #[.int .u8 0, .int .u8 0, .int .u8 0, .int .u8 0, .int .u8 0, .int .u8 0, .int .u8 0, .int .u8 0, .int .u8 0, .int .u8 0, .int .u8 0, .int .u8 0, .int .u8 0, .int .u8 0, .int .u8 0, .int .u8 0, .int .u8 0, .int .u8 0, .int .u8 0, .int .u8 0, .int .u8 0, .int .u8 0, .int .u8 0, .int .u8 0, .int .u8 0, .int .u8 0, .int .u8 0, .int .u8 0, .int .u8 0, .int .u8 0, .int .u8 0, .int .u8 0] 98)).setRow w16.heap.size fa := ⟨_, rfl⟩
              rw [← hw17]
              have hf17 := box_facts_row (W := w16) #[.int .u8 0, .int .u8 0, .int .u8 0, .int .u8 0, .int .u8 0, .int .u8 0, .int .u8 0, .int .u8 0, .int .u8 0, .int .u8 0, .int .u8 0, .int .u8 0, .int .u8 0, .int .u8 0, .int .u8 0, .int .u8 0, .int .u8 0, .int .u8 0, .int .u8 0, .int .u8 0, .int .u8 0, .int .u8 0, .int .u8 0, .int .u8 0, .int .u8 0, .int .u8 0, .int .u8 0, .int .u8 0, .int .u8 0, .int .u8 0, .int .u8 0, .int .u8 0] fa 98 rfl w17 hw17
              obtain ⟨gb, hgb⟩ : ∃ g, g = w16.heap.size := ⟨_, rfl⟩
              rw [← hgb] at hf17 ⊢
              have hb17 : Below w16.heap.size w16 w17 := by rw [← hgb]; exact hf17.2
              have HBK17 := Lib.hid hf17.1
              have hlt16 := lt_of_block HF16.out
              have HNEB : Hid (gf ≠ gb ∧ gk ≠ gb ∧ gx ≠ gb) := by show _ ∧ _ ∧ _; have a1 := lt_of_block HK16.out; have a2 := lt_of_block HX16.out; omega
              have HGB : Hid (w.heap.size ≤ gb) := by show _ ≤ _; have := HB16.out.size; have := HB16.out.size; rw [hgb]; exact HB16.out.size
              have HF17 := Lib.hid (HF16.out.below hb17)
              have HK17 := Lib.hid (HK16.out.below hb17)
              have HX17 := Lib.hid (HX16.out.below hb17)
              have HB17 : Hid (Below w.heap.size w w17) := HB16.out.trans (hb17.mono HB16.out.size)
              clear hf17 hb17 hw17 hgb hlt16 HF16 HK16 HX16 HB16
              obtain ⟨fv, hfv⟩ : ∃ v, v = (frameL ks cp).getD ai 0 := ⟨_, rfl⟩
              have hfvb : 0 ≤ fv ∧ fv ≤ 255 := by rw [hfv]; exact frame_all ks cp HK8L.out HKB.out HCG.out.1 HCG.out.2.2 HCG.out.2.1 ai (by rw [frameL_len ks cp HCG.out.1]; exact hat32)
              obtain ⟨nv, hnv⟩ : ∃ v, v = (fv + bz) % 256 := ⟨_, rfl⟩
              have hcell : w17.cell? ⟨gb, ai, none⟩ = some (.int .u8 fv) := by rw [HBK17.out.cell ai, HFA.out, bytesA_at _ ai (by rw [frameL_len ks cp HCG.out.1]; exact hat32), ← hfv]
              have hfroz := HBK17.out.frozen ai
              have q0 : (0 : Int) ≤ (ai : Int) := by omega
              have q1 : (ai : Int) < 32 := by omega
              have q2 : IntKind.i64.wrap fv = fv := IntWalk.i64_in _ (by omega)
              have q3 : IntKind.i64.wrap (fv + bz) = fv + bz := IntWalk.i64_in _ (by have := HBZ.out; omega)
              have q4 : (fv + bz).tmod 256 = nv := by rw [Int.tmod_eq_emod_of_nonneg (by have := HBZ.out; omega), hnv]
              have q5 : IntKind.u8.wrap nv = nv := by rw [IntKind.wrap_u8]; omega
              have HFV := Lib.hid hfv
              have HNVE := Lib.hid hnv
              have HFVB := Lib.hid hfvb
              clear hfv hnv hfvb
              go_upto_region 39 with fail
              obtain ⟨w18, hw18⟩ : ∃ X, X = w17.setCell ⟨gb, ai, none⟩ (.int .u8 nv) := ⟨_, rfl⟩
              rw [← hw18]
              have HF18 : Hid (Blk w18 gf 98 fa) := by
                show Blk _ _ _ _
                rw [hw18]
                exact (heap_setCell_other w17 ⟨gb, ai, none⟩ gf (.int .u8 nv) HNEB.out.1).trans HF17.out
              have HK18 : Hid (Blk w18 gk 94 #[.int .u8 k0, .int .u8 k1, .int .u8 k2, .int .u8 k3, .int .u8 k4, .int .u8 k5, .int .u8 k6, .int .u8 k7]) := by
                show Blk _ _ _ _
                rw [hw18]
                exact (heap_setCell_other w17 ⟨gb, ai, none⟩ gk (.int .u8 nv) HNEB.out.2.1).trans HK17.out
              have HX18 : Hid (Blk w18 gx 182 #[.slice A k c, .int .u8 wh, .int .u8 ab, .int .u8 yb]) := by
                show Blk _ _ _ _
                rw [hw18]
                exact (heap_setCell_other w17 ⟨gb, ai, none⟩ gx (.int .u8 nv) HNEB.out.2.2).trans HX17.out
              have HBK18 : Hid (Blk w18 gb 98 (bytesA ((frameL ks cp).set ai nv))) := by
                show Blk _ _ _ _
                rw [hw18, ← bytesA_set, ← HFA.out]
                exact HBK17.out.set_ ai _
              have HB18 : Hid (Below w.heap.size w w18) := by
                show Below _ _ _
                rw [hw18]
                exact HB17.out.setCell (p := ⟨gb, ai, none⟩) HGB.out _
              have hnv := HNVE.out
              have hfv := HFV.out
              have hfvb := HFVB.out
              have hnb : nv ≠ fv := by have := HBZ.out; omega
              have hnvb : 0 ≤ nv ∧ nv ≤ 255 := by omega
              have hbrk := decode_broken ks cp ai nv HCG.out.1 HCG.out.2.2 HCG.out.2.1 hat32 hnvb (by rw [← hfv]; exact hnb)
              have hbl : ((frameL ks cp).set ai nv).length = 32 := by rw [List.length_set, frameL_len ks cp HCG.out.1]
              have hball : AllB ((frameL ks cp).set ai nv) := allB_set _ ai nv (frame_all ks cp HK8L.out HKB.out HCG.out.1 HCG.out.2.2 HCG.out.2.1) hnvb
              obtain ⟨E2, hE2⟩ : ∃ e : Int, e = if ai = 0 then 1 else 27 := ⟨_, rfl⟩
              rw [← hE2] at hbrk
              obtain ⟨ba, hba⟩ : ∃ b, b = bytesA ((frameL ks cp).set ai nv) := ⟨_, rfl⟩
              rw [← hba] at HBK18
              have ba32 : ba.size = 32 := by rw [hba, bytesA_size, hbl]
              have iba : Hid ((Tryz.prog.info? 98).map (·.size) = some ba.size) := by show _ = _; rw [ba32]; kernel_rfl
              have hpn : pkNone.size = 22 := by unfold pkNone; rw [pkA_size]; rfl
              have ipn : Hid ((Tryz.prog.info? 101).map (·.size) = some pkNone.size) := by show _ = _; rw [hpn]; kernel_rfl
              have ipz : Hid ((#[.int .i64 0, .int .i64 0, .int .i64 0, .int .i64 0, .int .u8 0, .int .u8 0, .int .u8 0, .int .u8 0, .int .u8 0, .int .u8 0, .int .u8 0, .int .u8 0, .int .u8 0, .int .u8 0, .int .u8 0, .int .u8 0, .int .u8 0, .int .u8 0, .int .u8 0, .int .u8 0, .int .u8 0, .int .u8 0] : Array Value).size = pkNone.size) := by show _ = _; rw [hpn]; rfl
              have pn1 : Hid (pkNone.all (·.oneCell') = true) := pkA_one ..
              have HD2 : Hid (∀ W : World, Calls Tryz.prog 68 #[.agg #[.int .u8 k0, .int .u8 k1, .int .u8 k2, .int .u8 k3, .int .u8 k4, .int .u8 k5, .int .u8 k6, .int .u8 k7], .agg ba] W fun e w' => e = .returned (.tuple #[.agg pkNone, .int .i64 E2]) ∧ Below W.heap.size W w') := fun W => by
                have h1 := Decode_any ks _ W HK8L.out HKB.out hbl hball
                have h3 : decodeA ks ((frameL ks cp).set ai nv) = pkNone := by unfold decodeA; rw [if_neg (by rw [hbrk, hE2]; split <;> omega)]
                rw [hbrk, h3, ← hba, ← HKB8.out] at h1
                exact h1
              have HE2 := Lib.hid hE2
              have HNV := Lib.hid hnvb
              clear hw18 HF17 HK17 HX17 HBK17 HB17 HNEB HGB hcell hfroz q0 q1 q2 q3 q4 q5 hbrk hbl hball hba ba32 hpn hE2 hnvb hnb hnv hfv hfvb
              as_aux_lemma =>
              go_wp2_with (first
                | (refine wpList_load_row rfl 94 _ rfl gk rfl 94 #[.int .u8 k0, .int .u8 k1, .int .u8 k2, .int .u8 k3, .int .u8 k4, .int .u8 k5, .int .u8 k6, .int .u8 k7] (0, 0) _ HK18.out Tryz.underlying94 rfl ka8.out ?_)
                | (refine wpList_load_row rfl 98 _ rfl gb rfl 98 ba (0, 0) _ HBK18.out Tryz.underlying98 rfl iba.out ?_))
              refine Calls.mono (HD2.out _) ?_
              rintro x w19 ⟨rfl, hb19⟩
              have HF19 := Lib.hid (HF18.out.below hb19)
              have HK19 := Lib.hid (HK18.out.below hb19)
              have HX19 := Lib.hid (HX18.out.below hb19)
              have HB19 : Hid (Below w.heap.size w w19) := HB18.out.trans (hb19.mono HB18.out.size)
              clear hb19 HF18 HK18 HX18 HB18 HBK18 HD2
              go_upto_region 40 with (refine wpList_store_row rfl 101 _ _ rfl w19.heap.size pkNone rfl rfl 101 _ (Blk.new _ _ _) ipn.out ipz.out pn1.out ?_)
              obtain ⟨w20, hw20⟩ : ∃ X, X = (w19.alloc (.cells #[.int .i64 0, .int .i64 0, .int .i64 0, .int .i64 0, .int .u8 0, .int .u8 0, .int .u8 0, .int .u8 0, .int .u8 0, .int .u8 0, .int .u8 0, .int .u8 0, .int .u8 0, .int .u8 0, .int .u8 0, .int .u8 0, .int .u8 0, .int .u8 0, .int .u8 0, .int .u8 0, .int .u8 0, .int .u8 0] 101)).setRow w19.heap.size pkNone := ⟨_, rfl⟩
              rw [← hw20]
              have hb20 := (box_facts_row (W := w19) #[.int .i64 0, .int .i64 0, .int .i64 0, .int .i64 0, .int .u8 0, .int .u8 0, .int .u8 0, .int .u8 0, .int .u8 0, .int .u8 0, .int .u8 0, .int .u8 0, .int .u8 0, .int .u8 0, .int .u8 0, .int .u8 0, .int .u8 0, .int .u8 0, .int .u8 0, .int .u8 0, .int .u8 0, .int .u8 0] pkNone 101 rfl w20 hw20).2
              have HF20 := Lib.hid (HF19.out.below hb20)
              have HK20 := Lib.hid (HK19.out.below hb20)
              have HX20 := Lib.hid (HX19.out.below hb20)
              have HB20 : Hid (Below w.heap.size w w20) := HB19.out.trans (hb20.mono HB19.out.size)
              clear hb20 hw20 HF19 HK19 HX19 HB19
              have k81 : Hid (((#[.int .u8 k0, .int .u8 k1, .int .u8 k2, .int .u8 k3, .int .u8 k4, .int .u8 k5, .int .u8 k6, .int .u8 k7] : Array Value)).all (·.oneCell') = true) := by show _ = _; simp [Value.oneCell']
              have k8z : Hid (((#[.int .u8 0, .int .u8 0, .int .u8 0, .int .u8 0, .int .u8 0, .int .u8 0, .int .u8 0, .int .u8 0] : Array Value)).size = (#[.int .u8 k0, .int .u8 k1, .int .u8 k2, .int .u8 k3, .int .u8 k4, .int .u8 k5, .int .u8 k6, .int .u8 k7] : Array Value).size) := rfl
              go_upto_region 41 with (first
                | (refine wpList_load_row rfl 94 _ rfl gk rfl 94 #[.int .u8 k0, .int .u8 k1, .int .u8 k2, .int .u8 k3, .int .u8 k4, .int .u8 k5, .int .u8 k6, .int .u8 k7] (0, 0) _ HK20.out Tryz.underlying94 rfl ka8.out ?_)
                | (refine wpList_store_row rfl 94 _ _ rfl w20.heap.size #[.int .u8 k0, .int .u8 k1, .int .u8 k2, .int .u8 k3, .int .u8 k4, .int .u8 k5, .int .u8 k6, .int .u8 k7] rfl rfl 94 _ (Blk.new _ _ _) ka8.out k8z.out k81.out ?_))
              obtain ⟨w21, hw21⟩ : ∃ X, X = (w20.alloc (.cells #[.int .u8 0, .int .u8 0, .int .u8 0, .int .u8 0, .int .u8 0, .int .u8 0, .int .u8 0, .int .u8 0] 94)).setRow w20.heap.size #[.int .u8 k0, .int .u8 k1, .int .u8 k2, .int .u8 k3, .int .u8 k4, .int .u8 k5, .int .u8 k6, .int .u8 k7] := ⟨_, rfl⟩
              rw [← hw21]
              have hf21 := box_facts_row (W := w20) #[.int .u8 0, .int .u8 0, .int .u8 0, .int .u8 0, .int .u8 0, .int .u8 0, .int .u8 0, .int .u8 0] #[.int .u8 k0, .int .u8 k1, .int .u8 k2, .int .u8 k3, .int .u8 k4, .int .u8 k5, .int .u8 k6, .int .u8 k7] 94 rfl w21 hw21
              obtain ⟨gq, hgq⟩ : ∃ g, g = w20.heap.size := ⟨_, rfl⟩
              rw [← hgq] at hf21 ⊢
              have hb21 : Below w20.heap.size w20 w21 := by rw [← hgq]; exact hf21.2
              have HQ21 := Lib.hid hf21.1
              have HNEQ : Hid (gf ≠ gq ∧ gk ≠ gq) := by show _ ∧ _; have a0 := lt_of_block HF20.out; have a1 := lt_of_block HK20.out; omega
              have HGQ : Hid (w.heap.size ≤ gq) := by show _ ≤ _; rw [hgq]; exact HB20.out.size
              have HF21 := Lib.hid (HF20.out.below hb21)
              have HK21 := Lib.hid (HK20.out.below hb21)
              have HX21 := Lib.hid (HX20.out.below hb21)
              have HB21 : Hid (Below w.heap.size w w21) := HB20.out.trans (hb21.mono HB20.out.size)
              clear hf21 hb21 hw21 hgq HF20 HK20 HX20 HB20
              have hk8a : (#[.int .u8 k0, .int .u8 k1, .int .u8 k2, .int .u8 k3, .int .u8 k4, .int .u8 k5, .int .u8 k6, .int .u8 k7] : Array Value) = bytesA ks := Value.agg.inj HKB8.out
              obtain ⟨j8, hj8⟩ : ∃ q : Nat, (q : Int) = ab % 8 := ⟨(ab % 8).toNat, by omega⟩
              obtain ⟨kv, hkv⟩ : ∃ v, v = ks.getD j8 0 := ⟨_, rfl⟩
              have hkvb : 0 ≤ kv ∧ kv ≤ 255 := by rw [hkv]; exact HKB.out j8 (by rw [HK8L.out]; omega)
              obtain ⟨nk, hnk⟩ : ∃ v, v = (kv + bz) % 256 := ⟨_, rfl⟩
              have HJ8 : Hid (j8 < 8) := by show _ < _; omega
              have hcell : w21.cell? ⟨gq, j8, none⟩ = some (.int .u8 kv) := by rw [HQ21.out.cell j8, hk8a, bytesA_at ks j8 (by rw [HK8L.out]; exact HJ8.out), ← hkv]
              have hfroz := HQ21.out.frozen j8
              have hx2 : w21.cell? ⟨gx, 2, none⟩ = some (.int .u8 ab) := (HX21.out.cell 2).trans rfl
              have p0 : (0 : Int) ≤ (j8 : Int) := by omega
              have p1 : (j8 : Int) < 8 := by omega
              have p2 : IntKind.u8.wrap bz = bz := by rw [IntKind.wrap_u8]; have := HBZ.out; omega
              have p3 : IntKind.u8.wrap (kv + bz) = nk := by rw [IntKind.wrap_u8, hnk]
              have p4 : IntKind.i64.wrap ab = ab := IntWalk.i64_in _ (by have := HAB.out; omega)
              have p5 : ab.tmod 8 = (j8 : Int) := by rw [Int.tmod_eq_emod_of_nonneg HAB.out.1, hj8]
              have HKV := Lib.hid hkv
              have HNKE := Lib.hid hnk
              have HKVB := Lib.hid hkvb
              clear hj8 hkv hnk hkvb hk8a
              go_upto_region 42 with fail
              obtain ⟨w22, hw22⟩ : ∃ X, X = w21.setCell ⟨gq, j8, none⟩ (.int .u8 nk) := ⟨_, rfl⟩
              rw [← hw22]
              have hk8a : (#[.int .u8 k0, .int .u8 k1, .int .u8 k2, .int .u8 k3, .int .u8 k4, .int .u8 k5, .int .u8 k6, .int .u8 k7] : Array Value) = bytesA ks := Value.agg.inj HKB8.out
              have HQ22 : Hid (Blk w22 gq 94 (bytesA (ks.set j8 nk))) := by
                show Blk _ _ _ _
                rw [hw22, ← bytesA_set, ← hk8a]
                exact HQ21.out.set_ j8 _
              have HF22 : Hid (Blk w22 gf 98 fa) := by
                show Blk _ _ _ _
                rw [hw22]
                exact (heap_setCell_other w21 ⟨gq, j8, none⟩ gf (.int .u8 nk) HNEQ.out.1).trans HF21.out
              have HK22 : Hid (Blk w22 gk 94 #[.int .u8 k0, .int .u8 k1, .int .u8 k2, .int .u8 k3, .int .u8 k4, .int .u8 k5, .int .u8 k6, .int .u8 k7]) := by
                show Blk _ _ _ _
                rw [hw22]
                exact (heap_setCell_other w21 ⟨gq, j8, none⟩ gk (.int .u8 nk) HNEQ.out.2).trans HK21.out
              have HB22 : Hid (Below w.heap.size w w22) := by
                show Below _ _ _
                rw [hw22]
                exact HB21.out.setCell (p := ⟨gq, j8, none⟩) HGQ.out _
              have hnkb : 0 ≤ nk ∧ nk ≤ 255 := by have := HNKE.out; omega
              have hoth := decode_other ks cp j8 nk HK8L.out HKB.out HCG.out.1 HJ8.out hnkb (by rw [← HKV.out]; have := HNKE.out; have := HBZ.out; have := HKVB.out; omega)
              obtain ⟨oa, hoa⟩ : ∃ b, b = bytesA (ks.set j8 nk) := ⟨_, rfl⟩
              rw [← hoa] at HQ22
              have oa8 : oa.size = 8 := by rw [hoa, bytesA_size, List.length_set, HK8L.out]
              have ioa : Hid ((Tryz.prog.info? 94).map (·.size) = some oa.size) := by show _ = _; rw [oa8]; kernel_rfl
              have HD3 : Hid (∀ W : World, Calls Tryz.prog 68 #[.agg oa, .agg fa] W fun e w' => e = .returned (.tuple #[.agg pkNone, .int .i64 27]) ∧ Below W.heap.size W w') := fun W => by
                have h1 := Decode_any (ks.set j8 nk) (frameL ks cp) W (by rw [List.length_set, HK8L.out]) (allB_set ks j8 nk HKB.out hnkb) (frameL_len ks cp HCG.out.1) (frame_all ks cp HK8L.out HKB.out HCG.out.1 HCG.out.2.2 HCG.out.2.1)
                have h3 : decodeA (ks.set j8 nk) (frameL ks cp) = pkNone := by unfold decodeA; rw [if_neg (by rw [hoth]; omega)]
                rw [hoth, h3, ← hoa, ← HFA.out] at h1
                exact h1
              clear hw22 HQ21 HF21 HK21 HX21 HB21 HNEQ HGQ hcell hfroz hx2 p0 p1 p2 p3 p4 p5 hnkb hoth hoa oa8 hk8a
              as_aux_lemma =>
              go_wp2_with (first
                | (refine wpList_load_row rfl 94 _ rfl gq rfl 94 oa (0, 0) _ HQ22.out Tryz.underlying94 rfl ioa.out ?_)
                | (refine wpList_load_row rfl 98 _ rfl gf rfl 98 fa (0, 0) _ HF22.out Tryz.underlying98 rfl ifa.out ?_))
              refine Calls.mono (HD3.out _) ?_
              rintro x w23 ⟨rfl, hb23⟩
              have HF23 := Lib.hid (HF22.out.below hb23)
              have HK23 := Lib.hid (HK22.out.below hb23)
              have HB23 : Hid (Below w.heap.size w w23) := HB22.out.trans (hb23.mono HB22.out.size)
              clear hb23 HF22 HK22 HB22 HQ22 HD3
              go_upto_region 43 with (refine wpList_store_row rfl 101 _ _ rfl w23.heap.size pkNone rfl rfl 101 _ (Blk.new _ _ _) ipn.out ipz.out pn1.out ?_)
              obtain ⟨w24, hw24⟩ : ∃ X, X = (w23.alloc (.cells #[.int .i64 0, .int .i64 0, .int .i64 0, .int .i64 0, .int .u8 0, .int .u8 0, .int .u8 0, .int .u8 0, .int .u8 0, .int .u8 0, .int .u8 0, .int .u8 0, .int .u8 0, .int .u8 0, .int .u8 0, .int .u8 0, .int .u8 0, .int .u8 0, .int .u8 0, .int .u8 0, .int .u8 0, .int .u8 0] 101)).setRow w23.heap.size pkNone := ⟨_, rfl⟩
              rw [← hw24]
              have hb24 := (box_facts_row (W := w23) #[.int .i64 0, .int .i64 0, .int .i64 0, .int .i64 0, .int .u8 0, .int .u8 0, .int .u8 0, .int .u8 0, .int .u8 0, .int .u8 0, .int .u8 0, .int .u8 0, .int .u8 0, .int .u8 0, .int .u8 0, .int .u8 0, .int .u8 0, .int .u8 0, .int .u8 0, .int .u8 0, .int .u8 0, .int .u8 0] pkNone 101 rfl w24 hw24).2
              have HF24 := Lib.hid (HF23.out.below hb24)
              have HK24 := Lib.hid (HK23.out.below hb24)
              have HB24 : Hid (Below w.heap.size w w24) := HB23.out.trans (hb24.mono HB23.out.size)
              clear hb24 hw24 HF23 HK23 HB23
              go_cut [292] (fun v wx => v = .bool false ∧ wx = w24)
              case first =>
                by_cases h0 : ai = 0
                · have h1 : E2 = 1 := by rw [HE2.out, if_pos h0]
                  subst h1
                  have e1 : ((ai : Int) == 0) = true := by simp; omega
                  have e2 : decide ((0 : Int) < (ai : Int)) = false := decide_eq_false (by omega)
                  have HA0 : Hid (ai = 0) := h0
                  clear h0
                  go_wp2_with fail
                  all_goals first | (exfalso; have := HA0.out; omega) | (go_meet; exact ⟨rfl, rfl⟩)
                · have h1 : E2 = 27 := by rw [HE2.out, if_neg h0]
                  subst h1
                  have e1 : ((ai : Int) == 0) = false := by simp; omega
                  have e2 : decide ((0 : Int) < (ai : Int)) = true := decide_eq_true (by omega)
                  have HA0 : Hid (0 < ai) := by show _ < _; omega
                  clear h0
                  go_wp2_with fail
                  all_goals first | (exfalso; have := HA0.out; omega) | (go_meet; exact ⟨rfl, rfl⟩)
              case rest =>
              obtain ⟨rfl, rfl⟩ := hcut
              go_upto_region 45 with fail
              have HBA : Hid (AllB (bodyL cp)) := fun i hi => bodyL_bd cp HCG.out.1 HCG.out.2.2 HCG.out.2.1 i (by rw [bodyL_len cp HCG.out.1] at hi; exact hi)
              have HBL : Hid ((bodyL cp).length = 24) := bodyL_len cp HCG.out.1
              have HBYf : Hid (∀ W : World, Blk W gf 98 fa → BytesAt W (some ⟨gf, 0, none⟩) 24 (bodyL cp)) := fun W hW => by
                rw [HFA.out] at hW
                have h1 := bytesAt_head hW 24 (by rw [frameL_len ks cp HCG.out.1]; omega) (frame_all ks cp HK8L.out HKB.out HCG.out.1 HCG.out.2.2 HCG.out.2.1)
                rwa [frame_take ks cp HCG.out.1] at h1
              have HSEAL : Hid (∀ (bs : List Int) (A : Option Addr) (c : Nat) (W : World), BytesAt W A 24 bs → Calls Tryz.prog 69 #[.agg #[.int .u8 k0, .int .u8 k1, .int .u8 k2, .int .u8 k3, .int .u8 k4, .int .u8 k5, .int .u8 k6, .int .u8 k7], .slice A 24 c] W fun e w' => e = .returned (.tuple #[.agg (bytesA (sealL ks bs)), .int .i64 0]) ∧ Below W.heap.size W w') := fun bs A c W h => by
                have hk8 : Key8 k0 k1 k2 k3 k4 k5 k6 k7 := fun i hi => by have := HKB.out i (by rw [HK8L.out]; exact hi); rw [HKS.out] at this; exact this
                have h1 := Seal_any k0 k1 k2 k3 k4 k5 k6 k7 A 24 c bs W (by omega) hk8 h
                have e : bytesA (sealL ks bs) = #[.int .u8 (sealAt 0 k0 bs), .int .u8 (sealAt 1 k1 bs), .int .u8 (sealAt 2 k2 bs), .int .u8 (sealAt 3 k3 bs), .int .u8 (sealAt 4 k4 bs), .int .u8 (sealAt 5 k5 bs), .int .u8 (sealAt 6 k6 bs), .int .u8 (sealAt 7 k7 bs)] := by rw [HKS.out]; rfl
                rw [e]
                exact h1
              obtain ⟨sa, hsa⟩ : ∃ s, s = bytesA (sealL ks (bodyL cp)) := ⟨_, rfl⟩
              have sa8 : sa.size = 8 := by rw [hsa, bytesA_size, sealL_len]
              have sa1 : sa.all (·.oneCell') = true := by rw [hsa]; exact bytesA_one _
              refine seal_r45 gk gf #[.int .u8 k0, .int .u8 k1, .int .u8 k2, .int .u8 k3, .int .u8 k4, .int .u8 k5, .int .u8 k6, .int .u8 k7] sa (bodyL cp) wc _ _ rfl rfl rfl HK24.out ka8.out (HBYf.out _ HF24.out) (fun A c W h => by rw [hsa]; exact HSEAL.out _ A c W h) sa8 sa1 (fun c a d v w h => by cases d <;> exact h) ?_
              intro gs1 A1 c1 w25 hgs hS25 hb25
              simp only [Act.put, List.setIfInBounds_toArray, List.set_cons_zero, List.set_cons_succ]
              have HS25 := Lib.hid hS25
              have HSA := Lib.hid hsa
              have HF25 := Lib.hid (HF24.out.below hb25)
              have HK25 := Lib.hid (HK24.out.below hb25)
              have HB25 : Hid (Below w.heap.size w w25) := HB24.out.trans (hb25.mono HB24.out.size)
              clear hgs hS25 hb25 hsa sa8 sa1 HF24 HK24 HB24
              go_wp2_with fail
              refine Calls.mono (bytes_own _ 24 32 (bodyL cp) _ (HBYf.out _ HF25.out) (by omega) (by omega)) ?_
              rintro x w26 ⟨v36, rfl, ho, hb26⟩
              have hown26 : w26.ownsRow w25.heap.size 5 1 v36 24 ((bodyL cp).map (Value.int .u8)) := by
                have h1 := ho
                unfold OwnB at h1
                rwa [HBL.out] at h1
              obtain ⟨gc, cc, rfl, hgc, _, _⟩ := own_row hown26 (by omega)
              have HO26 := Lib.hid hown26
              have HNEC : Hid (gk ≠ gc ∧ gs1 ≠ gc) := by show _ ∧ _; have a0 := lt_of_block HK25.out; have a1 := lt_of_block HS25.out; omega
              have HGC : Hid (w.heap.size ≤ gc) := Nat.le_trans HB25.out.size hgc
              have HS26 := Lib.hid (HS25.out.below hb26)
              have HK26 := Lib.hid (HK25.out.below hb26)
              have HB26 : Hid (Below w.heap.size w w26) := HB25.out.trans (hb26.mono HB25.out.size)
              clear ho hown26 hgc hb26 HS25 HK25 HB25 HF25
              obtain ⟨bi, hbi⟩ : ∃ q : Nat, (q : Int) = (ai : Int) % 24 := ⟨ai % 24, by omega⟩
              have HBI : Hid (bi < 24) := by show _ < _; omega
              obtain ⟨bv, hbv⟩ : ∃ v, v = (bodyL cp).getD bi 0 := ⟨_, rfl⟩
              have hbvb : 0 ≤ bv ∧ bv ≤ 255 := by rw [hbv]; exact HBA.out bi (by rw [HBL.out]; exact HBI.out)
              obtain ⟨nb, hnb⟩ : ∃ v, v = (bv + bz) % 256 := ⟨_, rfl⟩
              have hcell : w26.cell? ⟨gc, bi, none⟩ = some (.int .u8 bv) := by
                rw [World.ownsRow.cellAt HO26.out bi (by have := HBI.out; omega), hbv, List.getElem?_map, List.getElem?_eq_getElem (by rw [HBL.out]; exact HBI.out), List.getD_eq_getElem?_getD, List.getElem?_eq_getElem (by rw [HBL.out]; exact HBI.out)]
                rfl
              have hfroz := World.ownsRow.frozenAt HO26.out bi
              have p0 : (0 : Int) ≤ (bi : Int) := by omega
              have p1 : (bi : Int) < 24 := by omega
              have p2 : IntKind.i64.wrap bv = bv := IntWalk.i64_in _ (by omega)
              have p3 : IntKind.i64.wrap (bv + bz) = bv + bz := IntWalk.i64_in _ (by have := HBZ.out; omega)
              have p4 : (bv + bz).tmod 256 = nb := by rw [Int.tmod_eq_emod_of_nonneg (by have := HBZ.out; omega), hnb]
              have p5 : IntKind.u8.wrap nb = nb := by rw [IntKind.wrap_u8]; omega
              have p6 : (ai : Int).tmod 24 = (bi : Int) := by rw [Int.tmod_eq_emod_of_nonneg (by omega), hbi]
              have HBV := Lib.hid hbv
              have HNBE := Lib.hid hnb
              have HBVB := Lib.hid hbvb
              clear hbi hbv hnb hbvb
              go_upto_region 48 with fail
              obtain ⟨w27, hw27⟩ : ∃ X, X = w26.setCell ⟨gc, bi, none⟩ (.int .u8 nb) := ⟨_, rfl⟩
              rw [← hw27]
              have hnbb : 0 ≤ nb ∧ nb ≤ 255 := by have := HNBE.out; omega
              have hstored := (World.ownsRow.stored HO26.out bi (.int .u8 nb)).1
              rw [← hw27, ← List.map_set] at hstored
              have hall27 : AllB ((bodyL cp).set bi nb) := allB_set _ bi nb HBA.out hnbb
              have hz27 : BytesAt w27 (some ⟨gc, 0, none⟩) 24 ((bodyL cp).set bi nb) := by
                refine OwnB.at_ (base := w25.heap.size) (c := cc) ?_ hall27
                unfold OwnB
                rw [List.length_set, HBL.out]
                exact hstored
              have HZ27 := Lib.hid hz27
              have HK27 : Hid (Blk w27 gk 94 #[.int .u8 k0, .int .u8 k1, .int .u8 k2, .int .u8 k3, .int .u8 k4, .int .u8 k5, .int .u8 k6, .int .u8 k7]) := by
                show Blk _ _ _ _
                rw [hw27]
                exact (heap_setCell_other w26 ⟨gc, bi, none⟩ gk (.int .u8 nb) HNEC.out.1).trans HK26.out
              have HS27 : Hid (Blk w27 gs1 94 sa) := by
                show Blk _ _ _ _
                rw [hw27]
                exact (heap_setCell_other w26 ⟨gc, bi, none⟩ gs1 (.int .u8 nb) HNEC.out.2).trans HS26.out
              have HB27 : Hid (Below w.heap.size w w27) := by
                show Below _ _ _
                rw [hw27]
                exact HB26.out.setCell (p := ⟨gc, bi, none⟩) HGC.out _
              have HDIF : Hid (∀ j, j < 8 → sealAt j (ks.getD j 0) ((bodyL cp).set bi nb) ≠ sealAt j (ks.getD j 0) (bodyL cp)) := fun j hj => seal_differs ks (bodyL cp) bi j nb hj (by rw [HBL.out]; exact HBI.out) hnbb (by rw [← HBV.out]; exact HBVB.out) (by rw [← HBV.out]; have := HNBE.out; have := HBZ.out; have := HBVB.out; omega)
              obtain ⟨sb, hsb⟩ : ∃ s, s = bytesA (sealL ks ((bodyL cp).set bi nb)) := ⟨_, rfl⟩
              have sb8 : sb.size = 8 := by rw [hsb, bytesA_size, sealL_len]
              have isb : Hid ((Tryz.prog.info? 94).map (·.size) = some sb.size) := by show _ = _; rw [sb8]; kernel_rfl
              have isbz : Hid ((#[.int .u8 0, .int .u8 0, .int .u8 0, .int .u8 0, .int .u8 0, .int .u8 0, .int .u8 0, .int .u8 0] : Array Value).size = sb.size) := by show _ = _; rw [sb8]; rfl
              have sb1 : Hid (sb.all (·.oneCell') = true) := by show _ = _; rw [hsb]; exact bytesA_one _
              have HSB := Lib.hid hsb
              clear hw27 hnbb hstored hall27 hz27 hsb sb8 hcell hfroz p0 p1 p2 p3 p4 p5 p6 HO26 HS26 HK26 HB26 HNEC HGC
              go_wp2_with (refine wpList_load_row rfl 94 _ rfl gk rfl 94 #[.int .u8 k0, .int .u8 k1, .int .u8 k2, .int .u8 k3, .int .u8 k4, .int .u8 k5, .int .u8 k6, .int .u8 k7] (0, 0) _ HK27.out Tryz.underlying94 rfl ka8.out ?_)
              refine Calls.mono (HSEAL.out _ _ _ _ HZ27.out) ?_
              rw [← HSB.out]
              rintro x w28 ⟨rfl, hb28⟩
              have HS28 := Lib.hid (HS27.out.below hb28)
              have HB28 : Hid (Below w.heap.size w w28) := HB27.out.trans (hb28.mono HB27.out.size)
              clear hb28 HS27 HB27 HK27 HZ27 HSEAL
              go_upto_region 49 with (refine wpList_store_row rfl 94 _ _ rfl w28.heap.size sb rfl rfl 94 _ (Blk.new _ _ _) isb.out isbz.out sb1.out ?_)
              obtain ⟨w29, hw29⟩ : ∃ X, X = (w28.alloc (.cells #[.int .u8 0, .int .u8 0, .int .u8 0, .int .u8 0, .int .u8 0, .int .u8 0, .int .u8 0, .int .u8 0] 94)).setRow w28.heap.size sb := ⟨_, rfl⟩
              rw [← hw29]
              have hf29 := box_facts_row (W := w28) #[.int .u8 0, .int .u8 0, .int .u8 0, .int .u8 0, .int .u8 0, .int .u8 0, .int .u8 0, .int .u8 0] sb 94 rfl w29 hw29
              obtain ⟨gs2, hgs2⟩ : ∃ g, g = w28.heap.size := ⟨_, rfl⟩
              rw [← hgs2] at hf29 ⊢
              have hb29 : Below w28.heap.size w28 w29 := by rw [← hgs2]; exact hf29.2
              have HT29 := Lib.hid hf29.1
              have HS29 := Lib.hid (HS28.out.below hb29)
              have HB29 : Hid (Below w.heap.size w w29) := HB28.out.trans (hb29.mono HB28.out.size)
              clear hf29 hb29 hw29 hgs2 HS28 HB28
              as_aux_lemma =>
              go_wp2_with fail
              go_loopw [328] (fun i wx => ∃ x : Nat, x ≤ 8 ∧ i = .int .i64 x ∧ Below w29.heap.size w29 wx) (fun i _ => 8 - (intOf i).toNat)
              case atStart => exact ⟨0, Nat.zero_le _, rfl, Below.refl _ _⟩
              case round =>
                obtain ⟨x, hx, rfl, hb⟩ := hrel
                by_cases hx8 : x < 8
                · obtain ⟨sv, hsv⟩ : ∃ v, v = sealAt x (ks.getD x 0) (bodyL cp) := ⟨_, rfl⟩
                  obtain ⟨tv, htv⟩ : ∃ v, v = sealAt x (ks.getD x 0) ((bodyL cp).set bi nb) := ⟨_, rfl⟩
                  have hne : (sv == tv) = false := by
                    have h1 := HDIF.out x hx8
                    rw [← hsv, ← htv] at h1
                    simp only [beq_eq_false_iff_ne]
                    exact fun e => h1 e.symm
                  have hc1 : wr.cell? ⟨gs1, x, none⟩ = some (.int .u8 sv) := by rw [(HS29.out.below hb).cell x, HSA.out, bytesA_at _ x (by rw [sealL_len]; exact hx8), sealL_at _ _ x hx8, ← hsv]
                  have hc2 : wr.cell? ⟨gs2, x, none⟩ = some (.int .u8 tv) := by rw [(HT29.out.below hb).cell x, HSB.out, bytesA_at _ x (by rw [sealL_len]; exact hx8), sealL_at _ _ x hx8, ← htv]
                  have y1 : ∀ d os, (grow (redrawn wr d) os).cell? ⟨gs1, x, none⟩ = some (.int .u8 sv) := fun d os => cell_regrown hc1 d os
                  have y2 : ∀ d os, (grow (redrawn wr d) os).cell? ⟨gs2, x, none⟩ = some (.int .u8 tv) := fun d os => cell_regrown hc2 d os
                  have z0 : (0 : Int) ≤ (x : Int) := by omega
                  have z1 : (x : Int) < 8 := by omega
                  have HB := Lib.hid hb
                  clear hsv htv hc1 hc2 hb
                  go_upto_region 54 with fail
                  refine wp_region_quiet_below (by kernel_rfl) (by kernel_rfl) ?_
                  repeat (quiet_step (fail))
                  refine wpQuiet_nil ?_
                  intro _ hw'
                  obtain ⟨⟨dq, osq⟩, hw''⟩ := hw'
                  subst hw''
                  have HBx : Below w29.heap.size w29 (grow (redrawn wr dq) osq) := HB.out.trans ((below_regrown wr dq osq).mono HB.out.size)
                  go_wp2
                  go_roundw
                  case rel => exact ⟨x + 1, by omega, by go_num, HBx⟩
                  case measure => simp [intOf]; omega
                · obtain rfl : x = 8 := by omega
                  have HBe : Hid (Below w.heap.size w wr) := HB29.out.trans (hb.mono HB29.out.size)
                  clear hb
                  go_wp2_with fail
                  refine Calls.mono (awake_any _ (HST.out.keep HBe.out) (HT.out.keep HBe.out)) ?_
                  rintro x w99 ⟨rfl, hb⟩
                  have HB99 := Lib.hid (HBe.out.trans (Below.mono hb HBe.out.size))
                  clear hb
                  go_wp2
                  go_ret
                  exact ⟨rfl, HB99.out⟩
end Go.Proofs.YtoipafnlcchmbaaGreatDoor
