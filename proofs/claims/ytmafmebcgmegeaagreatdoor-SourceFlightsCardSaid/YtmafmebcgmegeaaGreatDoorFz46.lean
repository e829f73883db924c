/- Texts Xx Wg Ff of the proof. -/
import Derived.Test.YtmafmebcgmegeaaGreatDoorFz45
import Derived.Test.YtmafmebcgmegeaaGreatDoorFz38
import Derived.Test.YtmafmebcgmegeaaGreatDoorFz34
namespace Go.Proofs.YtmafmebcgmegeaaGreatDoor
open Go.RowKit Go.Sort
theorem own_addr {w : World} {base size n c : Nat} {t : TypeId} {A : Option Addr} {xs : List Value} (h : w.ownsRow base t size (.slice A n c) n xs) (hn : 0 < n) : ∃ g, A = some ⟨g, 0, none⟩ := by
  rcases h.2 with ⟨_, h0⟩ | ⟨g, cap, cur, h1, _⟩
  · omega
  · injection h1 with e
    exact ⟨g, e⟩
theorem rtyG_own {W : World} {base base2 sn c1 c2 qn k c3 : Nat} {A1 A2 A3 : Option Addr} {nm : ByteArray} {sh : List Int} {T : Bell.Ty} {tw : Array Value} {P : List (Int × Value)} {t : TypeId} (hw : tw = tyW nm (.slice A1 sn c1) T (.slice A2 qn c2) (.slice A3 k c3)) (hA : OwnI0 W base (.slice A1 sn c1) sn sh) (hB : OwnI0 W base (.slice A2 qn c2) qn T.squares)
    (hR : W.ownsRow base2 t 2 (.slice A3 k c3) k (stCells P)) (hP : P.length = k) (hE : ∀ j, j < k → (P.getD j (0, undef)).1 = Bell.ePow T.sets j ∧ OwnI0 W base (P.getD j (0, undef)).2 ((T.sets.getD j (0, [])).2).length ((T.sets.getD j (0, [])).2)) (hl : T.sets.length = k) :
    RTy W tw nm sh T A1 sn c1 A2 qn c2 A3 k c3 := by
  refine ⟨hw, hA.at_, hB.at_, hl, fun h0 => ?_⟩; obtain ⟨gS, rfl⟩ := own_addr hR h0; refine ⟨gS, 0, rfl, hl, fun j hj => ?_⟩; obtain ⟨e1, e2⟩ := hE j hj; obtain ⟨A, c, hv⟩ := e2.sl; have e2' := e2; rw [hv] at e2'; have p0 := (stCells_at P j (by rw [hP]; exact hj)).1; have p1 := (stCells_at P j (by rw [hP]; exact hj)).2; refine ⟨A, _, c, ?_, ?_, e2'.at_⟩
  · rw [Nat.zero_add, World.ownsRow.cellAt hR (j * 2) (by omega), p0, e1]
  · rw [Nat.zero_add, World.ownsRow.cellAt hR (j * 2 + 1) (by omega), p1, hv]
end Go.Proofs.YtmafmebcgmegeaaGreatDoor

namespace Go.Proofs.YtmafmebcgmegeaaGreatDoor
open Go.RowKit Go.Sort
theorem lawF2 (g c : Nat) (x y : Int) (w : World) (h0 : w.cell? ⟨g, 0, none⟩ = some (.int .i64 x)) (h1 : w.cell? ⟨g, 1, none⟩ = some (.int .i64 y)) :
    Calls Tryz.prog 21 #[.slice (some ⟨g, 0, none⟩) 2 c] w fun e w' => e = .returned (.int .i64 (firstE [x, y])) ∧ w = w' := by
  have H := Lib.hid (refFirst2 g c x y w h0 h1); clear h0 h1
  go_enter Tryz.func21, Tryz.ntmps21
  go_wp2_with fail
  refine H.out.mono ?_; rintro e w' ⟨rfl, rfl⟩; go_wp2; go_ret; exact ⟨rfl, rfl⟩
theorem rty_ok {w : World} {cs : Array Value} {nm : ByteArray} {sh : List Int} {T : Bell.Ty} {sa : Option Addr} {sn sc : Nat} {qa : Option Addr} {qn qc : Nat} {ga : Option Addr} {gn gc : Nat} (h : RTy w cs nm sh T sa sn sc qa qn qc ga gn gc) (hd : T.direct.length = 8) (h0 : Bell.tyE (nameE nm) sh T = 0) : ∃ qb qo gb go, qa = some ⟨qb, qo, none⟩ ∧ ga = some ⟨gb, go, none⟩ ∧ TyAt w cs nm sh T sa sn sc qb qo qn qc gb go gn gc ∧ GoodT sh T := by
  obtain ⟨e1, e2⟩ := tyE_split h0; have hG : GoodT sh T := ⟨hd, e2⟩; obtain ⟨⟨c1, c2⟩, c3, c4⟩ := hG.cnt; obtain ⟨qb, qo, rfl, hq⟩ := h.squares.2 (by rw [← h.squares.1]; exact c3); obtain ⟨gb, go, rfl, hs⟩ := h.sets.2 (by rw [← h.sets.1]; exact c1); exact ⟨qb, qo, gb, go, rfl, rfl, ⟨h.cells, h.shares, h.squares, hs⟩, hG⟩
end Go.Proofs.YtmafmebcgmegeaaGreatDoor

namespace Go.Proofs.YtmafmebcgmegeaaGreatDoor
open Go.RowKit Go.Sort
theorem fixI_ix {ts : List Tq} {n : Nat} {s : ByteArray} (h : tyIx ts n s < n) : fixI (fun k => (tqAt ts k).nm) n s = (tyIx ts n s : Int) := by
  unfold tyIx at h ⊢; unfold fixI
  cases hf : (List.range n).find? (fun k => decide ((tqAt ts k).nm = s)) with
  | none => rw [hf] at h; exact absurd h (Nat.lt_irrefl _)
  | some k => rfl
theorem ints_of_row {w : World} {base n : Nat} {v : Value} {V : Nat → Int} (h : w.ownsRow base 3 1 v n (vRow V n)) : ∃ A c, v = .slice A n c ∧ IntsAt w A n ((List.range n).map V) := by
  rcases h.2 with ⟨hv, h0⟩ | ⟨g, cap, cur, rfl, hbg, hblk, hle, hmx, hcz, _⟩
  · subst h0; exact ⟨none, 0, hv, ⟨rfl, fun h => absurd h (by omega)⟩⟩
  · refine ⟨_, cap, rfl, ?_⟩; refine ⟨by simp, fun _ => ⟨g, 0, rfl, fun i hi => ?_⟩⟩; rw [Nat.zero_add, World.ownsRow.cellAt h i (by omega)]
    simp [vRow, List.getD_eq_getElem?_getD, List.getElem?_map, List.getElem?_range hi]
set_option maxHeartbeats 4000000 in
set_option maxRecDepth 100000 in
theorem refParts_any (A : Option Addr) (n c : Nat) (ts : List Tq) (FA : Option Addr) (fn fc : Nat) (fs : List Fl) (r : Bell.Pl) (w : World) (hts : RqsAt w A n ts) (hS : ∀ i, i < n → TqS (tqAt ts i)) (hfs : FlsAt w FA fn fs) (h1 : namedE ts n = 0) (h2 : flsE (kqTo ts n) fs = 0) (hr : GoodPl r) :
    Calls Tryz.prog 70 #[.slice A n c, .slice FA fn fc, .agg (plV r)] w fun e w' => ∃ B m, e = .returned (.slice B fn m) ∧ IntsAt w' B fn ((List.range fn).map (exV ts n fs r)) ∧ Below w.heap.size w w' := by
  obtain ⟨i0, hi, hz0, hz1, hz2⟩ := info_parts infoInt; have HTS := Lib.hid hts; have HS := Lib.hid hS; have HFS := Lib.hid hfs; have HK := Lib.hid (fls_known hfs.1 h2); have HTY := Lib.hid (fun i (hi : i < n) => (andE_zero (firstR_zero (andE_zero h1).2 i hi)).1)
  have HN8 : Hid (n ≤ 8) := by
    have ha := (andE_zero h1).1
    show _ ≤ _
    unfold atMostE at ha
    split at ha <;> omega
  have HR := Lib.hid hr; have hfn := HK.out.1; obtain ⟨V, hV⟩ : ∃ V, V = exV ts n fs r := ⟨_, rfl⟩; have HV := Lib.hid hV; rw [← hV]; obtain ⟨rv, hrv⟩ : ∃ v, v = plV r := ⟨_, rfl⟩; have ir : Hid ((Tryz.prog.info? 28).map (·.size) = some rv.size) := by show _ = _; rw [hrv]; kernel_rfl
  have HRV := Lib.hid hrv; rw [← hrv]; clear hts hS hfs h1 h2 hr hV hrv
  go_enter Tryz.func70, Tryz.ntmps70
  go_upto_region 1 with fail
  obtain ⟨w1, hw1⟩ : ∃ W, W = (w.alloc (.cells rv 28)) := ⟨_, rfl⟩; rw [← hw1]; have B5 : Hid (Blk w1 (w.heap.size) 28 rv) := by show Blk _ _ _ _; rw [hw1]; exact Blk.new _ _ _
  have hb1 : Below w.heap.size w w1 := by rw [hw1]; exact ((Below.refl _ _).alloc (Nat.le_refl _) _)
  obtain ⟨g5, hg5⟩ : ∃ g, g = w.heap.size := ⟨_, rfl⟩; have HGw1 : Hid (g5 = w.heap.size) := hg5; rw [← hg5] at B5
  try rw [← hg5]
  clear hw1 hg5; have HB : Hid (Below w.heap.size w w1) := hb1; clear hb1; go_wp2
  go_loopw [7, 8] (fun v i wr => ∃ k : Nat, k ≤ fn ∧ i = .int .i64 k ∧ Hid (wr.ownsRow w1.heap.size 3 1 v k (vRow V k)) ∧ Hid (Below w1.heap.size w1 wr)) (fun _ i _ => fn - (intOf i).toNat)
  case atStart => exact ⟨0, Nat.zero_le _, rfl, World.ownsRow_nil _ _ _ _, Below.refl _ _⟩
  case round =>
    obtain ⟨j, hj, rfl, hown, hbw⟩ := hrel; have vj : IntKind.i64.wrap ((j : Int) + 1) = ((j + 1 : Nat) : Int) := by rw [IntWalk.i64_in _ (by omega)]; omega
    by_cases hlt : j < fn
    · have hd : decide ((j : Int) < (fn : Int)) = true := decide_eq_true (by omega); have pj : (j : Int) < (fn : Int) := by omega
      have HBx := Lib.hid (HB.out.trans (hbw.out.mono HB.out.size)); have B5x := Lib.hid (B5.out.below hbw.out); have hq := HFS.out.keep HBx.out; have ht := HTS.out.keep HBx.out; obtain ⟨hix, hgt⟩ := HK.out.2 j hlt; have HNM := Lib.hid (rq_names ht); obtain ⟨bf, of, rfl, hc⟩ := hq.2 (by omega); obtain ⟨⟨c0, c1, c2⟩, hok⟩ := hc j hlt; obtain ⟨b, o, rfl, hct⟩ := ht.2 (by omega); obtain ⟨hrg, hrt⟩ := hct _ hix; obtain ⟨hd8, hsh⟩ := HS.out _ hix; have hfi := fixI_ix hix; have hty := HTY.out _ hix; have HVJ : Hid (V j = Bell.expoOf (tqAt ts (tyIx ts n (flAt fs j).ty)).T (flAt fs j).tr r 0 100000000) := by show _ = _; rw [HV.out]; rfl
      obtain ⟨K, hK⟩ : ∃ k, k = tyIx ts n (flAt fs j).ty := ⟨_, rfl⟩; rw [← hK] at hix hrg hrt hd8 hsh hfi hty HVJ; obtain ⟨G, hG⟩ : ∃ G, G = flAt fs j := ⟨_, rfl⟩; rw [← hG] at c0 c1 c2 hok hfi hgt HVJ; obtain ⟨T, hT⟩ : ∃ T, T = tqAt ts K := ⟨_, rfl⟩; rw [← hT] at hrg hrt hd8 hsh hty HVJ; obtain ⟨x, hx⟩ : ∃ x, x = V j := ⟨_, rfl⟩; rw [← hx] at HVJ; have pk : (K : Int) < (n : Int) := by omega
      have HFT := Lib.hid (fun W (hE : Below wr.heap.size wr W) => refFindType_any (some ⟨b, o, none⟩) n c (fun k => (tqAt ts k).nm) G.ty W (fun h0 => by
        obtain ⟨b', o', e, hcc⟩ := HNM.out h0; exact ⟨b', o', e, fun i hi => by rw [hE.cell (p := ⟨b', o' + i * 13, none⟩) (World.block_lt_of_cell? _ _ (hcc i hi))]; exact hcc i hi⟩) (by have := HN8.out; omega))
      rw [hfi] at HFT; obtain ⟨bt, ot, hA, hfx⟩ := hok.tr.2 (by have h7 := hok.tr.1; have h8 := hgt.lo; omega)
      have HEX := Lib.hid (fun W (hE : Below wr.heap.size wr W) => (show Calls Tryz.prog 59 #[.agg T.cs, .slice G.A G.n G.c, .agg #[.int .i64 0, .int .i64 100000000], .agg rv] W fun e w' => e = .returned (.int .i64 x) ∧ Below W.heap.size W w' from by
        obtain ⟨qb, qo, gb, go, hqa, hga, hta, hG2⟩ := rty_ok (hrt.keep hE) hd8 hty; have := refExposure_any bt ot G.n G.c G.tr 0 100000000 r W hta hG2 (hfx.keep hE) hgt HR.out (by omega) (by omega) (by omega); rw [hA, HVJ.out, HRV.out]; exact this))
      have HRG := Lib.hid hrg; have C1 := Lib.hid c1; have C2 := Lib.hid c2; have HRW : Hid (vRow V (j + 1) = vRow V j ++ [.int .i64 x]) := by show _ = _; rw [hx]; exact vRow_snoc V j
      have hown0 := Lib.hid hown.out; clear hq ht hix hgt hc c0 c1 c2 hok hct hrg hrt hd8 hsh hfi hty hK hG hT hx hA hfx HVJ hown HNM
      go_upto_region 5 with fail
      clear hd; refine wp_region_grow 20 (by kernel_rfl) (by kernel_rfl) [GR.eq (u7), GR.eq (.slice (some ⟨b, o, none⟩) n c), GR.eq (.slice (some ⟨b, o, none⟩) n c), GR.eq (.slice (some ⟨bf, of, none⟩) fn fc), GR.eq (.int .i64 j), GR.eq (.pointer (some ⟨bf, of + j * 3, none⟩)), GR.eq (.pointer (some ⟨bf, of + j * 3 + 1, none⟩)), GR.eq (.string G.ty), GR.eq (.int .i64 K), GR.eq (.pointer (some ⟨b, o + K * 13, none⟩)), GR.eq (.agg T.cs), GR.eq (.slice (some ⟨bf, of, none⟩) fn fc), GR.eq (.int .i64 j), GR.eq (.pointer (some ⟨bf, of + j * 3, none⟩)), GR.eq (.pointer (some ⟨bf, of + j * 3 + 2, none⟩)), GR.eq (.slice G.A G.n G.c), GR.eq (.agg #[.int .i64 0, .int .i64 100000000]), GR.eq (.agg rv), GR.eq (.int .i64 x), GR.row 1 3 #[.int .i64 x]] 37 rfl (by kernel_rfl) ?_ ?_
      · refine ⟨?_, ?_, ?_, ?_, ?_, ?_, ?_, ?_, ?_, ?_, ?_, ?_, ?_, ?_, ?_, ?_, ?_, ?_, ?_, ?_, trivial⟩
        · intro a W hE hd ho; have e7 : a.tmps[7]?.getD undef = u7 := ho 7 (by kernel_rfl); exact gs_same (v := u7) (by go_simp) rfl
        · intro a W hE hd ho; have e0 : a.tmps[0]?.getD undef = .slice (some ⟨b, o, none⟩) n c := ho 0 (by kernel_rfl); exact gs_same (v := .slice (some ⟨b, o, none⟩) n c) (by go_simp) rfl
        · intro a W hE hd ho; have e0 : a.tmps[0]?.getD undef = .slice (some ⟨b, o, none⟩) n c := ho 0 (by kernel_rfl); exact gs_same (v := .slice (some ⟨b, o, none⟩) n c) (by go_simp) rfl
        · intro a W hE hd ho; have e1 : a.tmps[1]?.getD undef = .slice (some ⟨bf, of, none⟩) fn fc := ho 1 (by kernel_rfl); exact gs_same (v := .slice (some ⟨bf, of, none⟩) fn fc) (by go_simp) rfl
        · intro a W hE hd ho; have e8 : a.tmps[8]?.getD undef = .int .i64 j := ho 8 (by kernel_rfl); exact gs_same (v := .int .i64 j) (by go_simp) rfl
        · intro a W hE hd ho; have e18 : a.tmps[18]?.getD undef = .slice (some ⟨bf, of, none⟩) fn fc := hd 3 18 (by kernel_rfl) (by kernel_rfl); have e19 : a.tmps[19]?.getD undef = .int .i64 j := hd 4 19 (by kernel_rfl) (by kernel_rfl); exact gs_same (v := .pointer (some ⟨bf, of + j * 3, none⟩)) (by go_simp) rfl
        · intro a W hE hd ho; have e20 : a.tmps[20]?.getD undef = .pointer (some ⟨bf, of + j * 3, none⟩) := hd 5 20 (by kernel_rfl) (by kernel_rfl); exact gs_same (v := .pointer (some ⟨bf, of + j * 3 + 1, none⟩)) (by go_simp) rfl
        · intro a W hE hd ho; have e21 : a.tmps[21]?.getD undef = .pointer (some ⟨bf, of + j * 3 + 1, none⟩) := hd 6 21 (by kernel_rfl) (by kernel_rfl); have c1 := (hE.cell (p := ⟨bf, of + j * 3 + 1, none⟩) (World.block_lt_of_cell? _ _ C1.out)).trans C1.out; exact gs_same (v := .string G.ty) (by go_simp) rfl
        · intro a W hE hd ho; have e17 : a.tmps[17]?.getD undef = .slice (some ⟨b, o, none⟩) n c := hd 2 17 (by kernel_rfl) (by kernel_rfl); have e22 : a.tmps[22]?.getD undef = .string G.ty := hd 7 22 (by kernel_rfl) (by kernel_rfl); refine gs_call (f := 144) (args := #[.slice (some ⟨b, o, none⟩) n c, .string G.ty]) (by go_simp) ?_; refine (HFT.out W hE).mono ?_; rintro e w' ⟨rfl, rfl⟩; exact ⟨_, rfl, Ext.refl _, rfl⟩
        · intro a W hE hd ho; have e16 : a.tmps[16]?.getD undef = .slice (some ⟨b, o, none⟩) n c := hd 1 16 (by kernel_rfl) (by kernel_rfl); have e23 : a.tmps[23]?.getD undef = .int .i64 K := hd 8 23 (by kernel_rfl) (by kernel_rfl); exact gs_same (v := .pointer (some ⟨b, o + K * 13, none⟩)) (by go_simp) rfl
        · intro a W hE hd ho; have e24 : a.tmps[24]?.getD undef = .pointer (some ⟨b, o + K * 13, none⟩) := hd 9 24 (by kernel_rfl) (by kernel_rfl); exact gs_load 26 (.tmp 24) rfl ⟨b, o + K * 13, none⟩ (.agg T.cs) ((eval_getD _ _).trans e24) (rq_lv (range_keep HRG.out hE)) rfl
        · intro a W hE hd ho; have e1 : a.tmps[1]?.getD undef = .slice (some ⟨bf, of, none⟩) fn fc := ho 1 (by kernel_rfl); exact gs_same (v := .slice (some ⟨bf, of, none⟩) fn fc) (by go_simp) rfl
        · intro a W hE hd ho; have e8 : a.tmps[8]?.getD undef = .int .i64 j := ho 8 (by kernel_rfl); exact gs_same (v := .int .i64 j) (by go_simp) rfl
        · intro a W hE hd ho; have e26 : a.tmps[26]?.getD undef = .slice (some ⟨bf, of, none⟩) fn fc := hd 11 26 (by kernel_rfl) (by kernel_rfl); have e27 : a.tmps[27]?.getD undef = .int .i64 j := hd 12 27 (by kernel_rfl) (by kernel_rfl); exact gs_same (v := .pointer (some ⟨bf, of + j * 3, none⟩)) (by go_simp) rfl
        · intro a W hE hd ho; have e28 : a.tmps[28]?.getD undef = .pointer (some ⟨bf, of + j * 3, none⟩) := hd 13 28 (by kernel_rfl) (by kernel_rfl); exact gs_same (v := .pointer (some ⟨bf, of + j * 3 + 2, none⟩)) (by go_simp) rfl
        · intro a W hE hd ho; have e29 : a.tmps[29]?.getD undef = .pointer (some ⟨bf, of + j * 3 + 2, none⟩) := hd 14 29 (by kernel_rfl) (by kernel_rfl); have c2 := (hE.cell (p := ⟨bf, of + j * 3 + 2, none⟩) (World.block_lt_of_cell? _ _ C2.out)).trans C2.out; exact gs_same (v := .slice G.A G.n G.c) (by go_simp) rfl
        · intro a W hE hd ho; exact gs_same (v := .agg #[.int .i64 0, .int .i64 100000000]) (by go_simp) rfl
        · intro a W hE hd ho; have e5 : a.tmps[5]?.getD undef = .pointer (some ⟨g5, 0, none⟩) := ho 5 (by kernel_rfl); exact gs_load 28 (.tmp 5) rfl ⟨g5, 0, none⟩ (.agg rv) ((eval_getD _ _).trans e5) ((B5x.out.below hE).lv Tryz.prog Tryz.underlying28 rfl ir.out) rfl
        · intro a W hE hd ho; have e25 : a.tmps[25]?.getD undef = .agg T.cs := hd 10 25 (by kernel_rfl) (by kernel_rfl); have e30 : a.tmps[30]?.getD undef = .slice G.A G.n G.c := hd 15 30 (by kernel_rfl) (by kernel_rfl); have e31 : a.tmps[31]?.getD undef = .agg #[.int .i64 0, .int .i64 100000000] := hd 16 31 (by kernel_rfl) (by kernel_rfl); have e32 : a.tmps[32]?.getD undef = .agg rv := hd 17 32 (by kernel_rfl) (by kernel_rfl); refine gs_call (f := 59) (args := #[.agg T.cs, .slice G.A G.n G.c, .agg #[.int .i64 0, .int .i64 100000000], .agg rv]) (by go_simp) ?_; refine (HEX.out W hE).mono ?_; rintro e w' ⟨rfl, hb⟩; exact ⟨_, rfl, hb, rfl⟩
        · intro a W hE hd ho; have e33 : a.tmps[33]?.getD undef = .int .i64 x := hd 18 33 (by kernel_rfl) (by kernel_rfl); exact gs_val (v := .slice (some ⟨W.heap.size, 0, none⟩) 1 1) (W' := W.alloc (.cells #[.int .i64 x] 3)) (by go_simp) ((Below.refl _ _).alloc (Nat.le_refl _) _) ⟨_, rfl, Blk.new _ _ _⟩
      intro va wa hE hR; have y0 : va 0 = u7 := hR 0 (by omega); have y1 : va 1 = .slice (some ⟨b, o, none⟩) n c := hR 1 (by omega); have y2 : va 2 = .slice (some ⟨b, o, none⟩) n c := hR 2 (by omega); have y3 : va 3 = .slice (some ⟨bf, of, none⟩) fn fc := hR 3 (by omega); have y4 : va 4 = .int .i64 j := hR 4 (by omega); have y5 : va 5 = .pointer (some ⟨bf, of + j * 3, none⟩) := hR 5 (by omega); have y6 : va 6 = .pointer (some ⟨bf, of + j * 3 + 1, none⟩) := hR 6 (by omega); have y7 : va 7 = .string G.ty := hR 7 (by omega); have y8 : va 8 = .int .i64 K := hR 8 (by omega); have y9 : va 9 = .pointer (some ⟨b, o + K * 13, none⟩) := hR 9 (by omega); have y10 : va 10 = .agg T.cs := hR 10 (by omega); have y11 : va 11 = .slice (some ⟨bf, of, none⟩) fn fc := hR 11 (by omega); have y12 : va 12 = .int .i64 j := hR 12 (by omega); have y13 : va 13 = .pointer (some ⟨bf, of + j * 3, none⟩) := hR 13 (by omega)
      have y14 : va 14 = .pointer (some ⟨bf, of + j * 3 + 2, none⟩) := hR 14 (by omega); have y15 : va 15 = .slice G.A G.n G.c := hR 15 (by omega); have y16 : va 16 = .agg #[.int .i64 0, .int .i64 100000000] := hR 16 (by omega); have y17 : va 17 = .agg rv := hR 17 (by omega); have y18 : va 18 = .int .i64 x := hR 18 (by omega); obtain ⟨gN, y19, BN⟩ : ∃ g, va 19 = .slice (some ⟨g, 0, none⟩) 1 1 ∧ Blk wa g 3 #[.int .i64 x] := hR 19 (by omega); simp only [List.range, List.range.loop, List.foldl_cons, List.foldl_nil, y0, y1, y2, y3, y4, y5, y6, y7, y8, y9, y10, y11, y12, y13, y14, y15, y16, y17, y18, y19, List.drop_succ_cons, List.drop_zero]; simp only [dstAt, List.getElem?_toArray, List.getElem?_cons_zero, List.getElem?_cons_succ, Option.bind_some, Act.put, List.setIfInBounds_toArray, List.set_cons_zero, List.set_cons_succ]; clear y0 y1 y2 y3 y4 y5 y6 y7 y8 y9 y10 y11 y12 y13 y14 y15 y16 y17 y18 y19 hR
      have hE5 : Ext wr wa := hE; have row5 := row_ext hown0.out hE5; have hs5 : w1.heap.size ≤ wa.heap.size := Nat.le_trans hbw.out.size hE.below.size; have HE5 := Lib.hid (hbw.out.trans (hE5.below.mono hbw.out.size))
      have HBN : Hid (∀ (j : Nat) (u : Value), ([.int .i64 x] : List Value)[j]? = some u → wa.cell? ((⟨gN, 0, none⟩ : Addr).add j) = some u) := fun j u hu => by
        rw [addAddr, Nat.zero_add, BN.cell j]
        simpa using hu
      clear hE hE5 BN HFT HEX HRG C1 C2; refine wpList_append_own _ rfl _ _ 22 rfl w1.heap.size 3 i0 (.int .i64 0) 1 8 Tryz.underlying22 hi hz0 hz1 hz2 rfl (by decide) u7 j (vRow V j) rfl row5 ⟨gN, 0, none⟩ 1 1 [.int .i64 x] rfl rfl HBN.out (by simp [Value.oneCell']) (by unfold maxLen; omega) (by omega) hs5 ?_; intro v' w6 hown' hgrow _
      have R : Hid (w6.ownsRow w1.heap.size 3 1 v' (j + 1) (vRow V (j + 1))) := by
        show World.ownsRow _ _ _ _ _ _ _
        rw [HRW.out]; exact hown'
      have B6 : Hid (Below w1.heap.size w1 w6) := Below.grown HE5.out hgrow hs5 (fun j hj => (row5.lt j hj).1); clear hown' hgrow row5 HBN HE5 hs5 hown0 hbw; go_wp2; go_roundw
      case rel => exact ⟨j + 1, by omega, by go_num, R, B6⟩
      case measure => simp [intOf]; omega
    · have hd : decide ((j : Int) < (fn : Int)) = false := decide_eq_false (by omega); obtain rfl : j = fn := by omega
      obtain ⟨B, m, rfl, hI⟩ := ints_of_row hown.out; have HI := Lib.hid hI; have HBx := Lib.hid (HB.out.trans (hbw.out.mono HB.out.size)); clear hI hown hbw; go_wp2
      (try simp only [Exit.inBlock, Exit.then])
      refine bodyPost_ret (v := .slice B j m) (by simp [results, Tryz.results70, go_sem, asAddr]) rfl ?_; exact ⟨B, m, rfl, HI.out, HBx.out⟩
set_option maxHeartbeats 2000000 in
set_option maxRecDepth 100000 in
theorem refTotal_any (A : Option Addr) (n c : Nat) (ts : List Tq) (FA : Option Addr) (fn fc : Nat) (fs : List Fl) (r : Bell.Pl) (w : World) (hts : RqsAt w A n ts) (hS : ∀ i, i < n → TqS (tqAt ts i)) (hfs : FlsAt w FA fn fs) (h1 : namedE ts n = 0) (h2 : flsE (kqTo ts n) fs = 0) (hr : GoodPl r) (hV : ∀ i, i < fn → 0 ≤ exV ts n fs r i ∧ exV ts n fs r i ≤ 200000000000) :
    Calls Tryz.prog 69 #[.slice A n c, .slice FA fn fc, .agg (plV r)] w fun e w' => e = .returned (.int .i64 (totTo (exV ts n fs r) fn)) ∧ Below w.heap.size w w' := by
  have HP := Lib.hid (fun W (hb : Below w.heap.size w W) => refParts_any A n c ts FA fn fc fs r W (hts.keep hb) hS (hfs.keep hb) h1 h2 hr); have hfn := (fls_known hfs.1 h2).1; obtain ⟨V, hVV⟩ : ∃ V, V = exV ts n fs r := ⟨_, rfl⟩; rw [← hVV] at HP hV ⊢; have HIN := Lib.hid hV; unfold plV at HP ⊢; clear hts hS hfs h1 h2 hr hVV hV
  go_enter Tryz.func69, Tryz.ntmps69
  go_upto_region 1 with fail
  obtain ⟨w1, hw1⟩ : ∃ W, W = (w.alloc (.cells #[.int .i64 r.x, .int .i64 r.y, .int .i64 r.z] 28)) := ⟨_, rfl⟩; rw [← hw1]; have B5 : Hid (Blk w1 (w.heap.size) 28 #[.int .i64 r.x, .int .i64 r.y, .int .i64 r.z]) := by show Blk _ _ _ _; rw [hw1]; exact Blk.new _ _ _
  have hb1 : Below w.heap.size w w1 := by rw [hw1]; exact ((Below.refl _ _).alloc (Nat.le_refl _) _)
  obtain ⟨g5, hg5⟩ : ∃ g, g = w.heap.size := ⟨_, rfl⟩; have HGw1 : Hid (g5 = w.heap.size) := hg5; rw [← hg5] at B5
  try rw [← hg5]
  clear hw1 hg5; have HB : Hid (Below w.heap.size w w1) := hb1; have BB := B5.out; have zc0 := BB.cell 0; have zf0 := BB.frozen 0; have zc1 := BB.cell 1; have zf1 := BB.frozen 1; have zc2 := BB.cell 2; have zf2 := BB.frozen 2; simp only [List.getElem?_toArray, List.getElem?_cons_zero, List.getElem?_cons_succ] at zc0 zc1 zc2; clear BB; clear hb1
  go_wp2_with fail
  refine (HP.out w1 HB.out).mono ?_; rintro e w2 ⟨B, m, rfl, hI, hb⟩; have HI := Lib.hid hI; replace HB := Lib.hid (HB.out.trans (hb.mono HB.out.size)); clear hb; clear hI zc0 zc1 zc2 zf0 zf1 zf2 HP B5; go_wp2
  go_loopw [8, 9] (fun s i wr => ∃ k : Nat, k ≤ fn ∧ i = .int .i64 k ∧ s = .int .i64 (totTo V k) ∧ wr = w2) (fun _ i _ => fn - (intOf i).toNat)
  case atStart => exact ⟨0, Nat.zero_le _, rfl, rfl, rfl⟩
  case round =>
    obtain ⟨k, hk, rfl, rfl, hw⟩ := hrel; obtain rfl := hw.symm; have vk : IntKind.i64.wrap ((k : Int) + 1) = ((k + 1 : Nat) : Int) := by rw [IntWalk.i64_in _ (by omega)]; omega
    by_cases hlt : k < fn
    · have hd : decide ((k : Int) < (fn : Int)) = true := decide_eq_true (by omega); have pk : (k : Int) < (fn : Int) := by omega
      obtain ⟨b, o, rfl, hc⟩ := HI.out.2 (by omega); have c0 := hc k hlt; have hS := totTo_in (V := V) (n := fn) (fun i hi => by have := HIN.out i hi; omega) k hk; have hv := HIN.out k hlt; have hT : Hid (totTo V (k + 1) = totTo V k + V k) := rfl; have hg : ((List.range fn).map V).getD k 0 = V k := by simp [List.getD_eq_getElem?_getD, List.getElem?_map, List.getElem?_range hlt]
      rw [hg] at c0; obtain ⟨x, hx⟩ : ∃ x, x = V k := ⟨_, rfl⟩; obtain ⟨S, hSS⟩ : ∃ S, S = totTo V k := ⟨_, rfl⟩; rw [← hx] at c0 hv hT; rw [← hSS] at hS hT ⊢; have hwr : IntKind.i64.wrap (S + x) = S + x := IntWalk.i64_in _ (by omega); clear hx hSS hc hg; go_wp2; go_roundw
      case rel => exact ⟨k + 1, by omega, by go_num, by rw [hT.out], trivial⟩
      case measure => simp [intOf]; omega
    · have hd : decide ((k : Int) < (fn : Int)) = false := decide_eq_false (by omega); obtain rfl : k = fn := by omega
      obtain ⟨S, hSS⟩ : ∃ S, S = totTo V k := ⟨_, rfl⟩; have HS := Lib.hid hSS; rw [← hSS]; clear hSS; go_wp2
      (try simp only [Exit.inBlock, Exit.then])
      refine bodyPost_ret (v := .int .i64 S) (by simp [results, Tryz.results69, go_sem, asAddr]) rfl ?_; exact ⟨by rw [HS.out], HB.out⟩
set_option maxHeartbeats 2000000 in
set_option maxRecDepth 100000 in
theorem refLoudest_any (A : Option Addr) (n c : Nat) (ts : List Tq) (FA : Option Addr) (fn fc : Nat) (fs : List Fl) (r : Bell.Pl) (w : World) (hts : RqsAt w A n ts) (hS : ∀ i, i < n → TqS (tqAt ts i)) (hfs : FlsAt w FA fn fs) (h1 : namedE ts n = 0) (h2 : flsE (kqTo ts n) fs = 0) (hr : GoodPl r) :
    Calls Tryz.prog 71 #[.slice A n c, .slice FA fn fc, .agg (plV r)] w fun e w' => e = .returned (.tuple #[.string (if fn = 0 then ⟨#[]⟩ else (flAt fs (bestTo (exV ts n fs r) (fn - 1))).nm), .int .i64 (if fn = 0 then 12 else 0)]) ∧ Below w.heap.size w w' := by
  have HP := Lib.hid (fun W (hb : Below w.heap.size w W) => refParts_any A n c ts FA fn fc fs r W (hts.keep hb) hS (hfs.keep hb) h1 h2 hr); have HFS := Lib.hid hfs; have hfn := (fls_known hfs.1 h2).1; obtain ⟨V, hVV⟩ : ∃ V, V = exV ts n fs r := ⟨_, rfl⟩; rw [← hVV] at HP ⊢; unfold plV at HP ⊢; clear hts hS hfs h1 h2 hr hVV
  by_cases h0 : fn = 0
  · subst h0; rw [if_pos rfl, if_pos rfl]
    go_enter Tryz.func71, Tryz.ntmps71
    go_wp2
    (try simp only [Exit.inBlock, Exit.then])
    refine bodyPost_ret (v := .tuple #[.string ⟨#[]⟩, .int .i64 12]) (by simp [results, Tryz.results71, go_sem, asAddr]) rfl ?_; exact ⟨rfl, (Below.refl _ _).alloc (Nat.le_refl _) _⟩
  rw [if_neg h0, if_neg h0]; have hf1 : ((fn : Int) == 0) = false := by simp; omega
  obtain ⟨q, hq⟩ : ∃ q, q + 1 = fn := ⟨fn - 1, by omega⟩; rw [show fn - 1 = q by omega]
  go_enter Tryz.func71, Tryz.ntmps71
  go_upto_region 1 with fail
  obtain ⟨w1, hw1⟩ : ∃ W, W = (w.alloc (.cells #[.int .i64 r.x, .int .i64 r.y, .int .i64 r.z] 28)) := ⟨_, rfl⟩; rw [← hw1]; have B5 : Hid (Blk w1 (w.heap.size) 28 #[.int .i64 r.x, .int .i64 r.y, .int .i64 r.z]) := by show Blk _ _ _ _; rw [hw1]; exact Blk.new _ _ _
  have hb1 : Below w.heap.size w w1 := by rw [hw1]; exact ((Below.refl _ _).alloc (Nat.le_refl _) _)
  obtain ⟨g5, hg5⟩ : ∃ g, g = w.heap.size := ⟨_, rfl⟩; have HGw1 : Hid (g5 = w.heap.size) := hg5; rw [← hg5] at B5
  try rw [← hg5]
  clear hw1 hg5; have HB : Hid (Below w.heap.size w w1) := hb1; have BB := B5.out; have zc0 := BB.cell 0; have zf0 := BB.frozen 0; have zc1 := BB.cell 1; have zf1 := BB.frozen 1; have zc2 := BB.cell 2; have zf2 := BB.frozen 2; simp only [List.getElem?_toArray, List.getElem?_cons_zero, List.getElem?_cons_succ] at zc0 zc1 zc2; clear BB; clear hb1
  go_wp2_with fail
  refine (HP.out w1 HB.out).mono ?_; rintro e w2 ⟨B, m, rfl, hI, hb⟩; have HI := Lib.hid hI; replace HB := Lib.hid (HB.out.trans (hb.mono HB.out.size)); clear hb; clear hI zc0 zc1 zc2 zf0 zf1 zf2 HP B5; go_wp2
  go_loopw [9, 10] (fun s i wr => ∃ k : Nat, k ≤ fn ∧ i = .int .i64 k ∧ s = .int .i64 (bestTo V (k - 1) : Nat) ∧ Hid (Below w2.heap.size w2 wr)) (fun _ i _ => fn - (intOf i).toNat)
  case atStart => exact ⟨0, Nat.zero_le _, rfl, rfl, Below.refl _ _⟩
  case round =>
    obtain ⟨k, hk, rfl, rfl, hbw⟩ := hrel; have vk : IntKind.i64.wrap ((k : Int) + 1) = ((k + 1 : Nat) : Int) := by rw [IntWalk.i64_in _ (by omega)]; omega
    have HBx := Lib.hid (HB.out.trans (hbw.out.mono HB.out.size)); have HBW := Lib.hid hbw.out; clear hbw; have hble := bestTo_le V (k - 1)
    by_cases hlt : k < fn
    · have hd : decide ((k : Int) < (fn : Int)) = true := decide_eq_true (by omega); have pk : (k : Int) < (fn : Int) := by omega
      obtain ⟨b, o, rfl, hc⟩ := (HI.out.keep HBW.out).2 (by omega); have hg : ∀ i, i < fn → ((List.range fn).map V).getD i 0 = V i := fun i hi => by simp [List.getD_eq_getElem?_getD, List.getElem?_map, List.getElem?_range hi]
      obtain ⟨S, hSS⟩ : ∃ S, S = bestTo V (k - 1) := ⟨_, rfl⟩; rw [← hSS] at hble ⊢; have c0 := hc k hlt; have c1 := hc S (by omega); rw [hg k hlt] at c0; rw [hg S (by omega)] at c1
      have HN1 : Hid (bestTo V (k + 1 - 1) = if V S < V k then k else S) := by
        show _ = _
        rcases Nat.eq_zero_or_pos k with e | e
        · subst e; have e0 : S = 0 := by rw [hSS]; rfl
          rw [e0, if_neg (Int.lt_irrefl _)]; rfl
        · obtain ⟨q, rfl⟩ : ∃ q, k = q + 1 := ⟨k - 1, by omega⟩; rw [hSS]; rfl
      obtain ⟨x, hx⟩ : ∃ x, x = V k := ⟨_, rfl⟩; obtain ⟨y, hy⟩ : ∃ x, x = V S := ⟨_, rfl⟩; rw [← hx] at c0 HN1; rw [← hy] at c1 HN1; have ps : (S : Int) < (fn : Int) := by omega
      clear hx hy hSS hc hg hd hble; have hd : decide ((k : Int) < (fn : Int)) = true := decide_eq_true (by omega)
      by_cases hgt : y < x
      · have hd2 : decide (y < x) = true := decide_eq_true hgt; have hn : Hid (bestTo V (k + 1 - 1) = k) := by show _ = _; rw [HN1.out, if_pos hgt]
        clear hgt HN1
        go_upto_region 7 with fail
        go_big_quiet (fail)
        obtain ⟨w3, hw3⟩ : ∃ W, W = wr.drewN nq := ⟨_, rfl⟩; rw [← hw3]; have hb3 : Below wr.heap.size wr w3 := by rw [hw3]; exact below_drewN' (Below.refl _ _) _
        replace HBW := Lib.hid (HBW.out.trans (hb3.mono HBW.out.size)); clear hb3; clear hw3 c0 c1; go_wp2; go_roundw
        case rel => exact ⟨k + 1, by omega, by go_num, by rw [hn.out], HBW⟩
        case measure => simp [intOf]; omega
      · have hd2 : decide (y < x) = false := decide_eq_false hgt; have hn : Hid (bestTo V (k + 1 - 1) = S) := by show _ = _; rw [HN1.out, if_neg hgt]
        clear hgt HN1
        go_upto_region 7 with fail
        go_big_quiet (fail)
        obtain ⟨w3, hw3⟩ : ∃ W, W = wr.drewN nq := ⟨_, rfl⟩; rw [← hw3]; have hb3 : Below wr.heap.size wr w3 := by rw [hw3]; exact below_drewN' (Below.refl _ _) _
        replace HBW := Lib.hid (HBW.out.trans (hb3.mono HBW.out.size)); clear hb3; clear hw3 c0 c1; go_wp2; go_roundw
        case rel => exact ⟨k + 1, by omega, by go_num, by rw [hn.out], HBW⟩
        case measure => simp [intOf]; omega
    · have hd : decide ((k : Int) < (fn : Int)) = false := decide_eq_false (by omega); obtain rfl : k = fn := by omega
      have e1 : k - 1 = q := by omega
      rw [e1] at hble ⊢; obtain ⟨S, hSS⟩ : ∃ S, S = bestTo V q := ⟨_, rfl⟩; have HSQ := Lib.hid hSS; rw [← hSS] at hble ⊢; obtain ⟨bf, of, rfl, hc⟩ := (HFS.out.keep HBx.out).2 (by omega); have c0 := (hc S (by omega)).1.1; obtain ⟨nm, hnm⟩ : ∃ x, x = (flAt fs S).nm := ⟨_, rfl⟩; rw [← hnm] at c0; have HNM := Lib.hid hnm; have ps : (S : Int) < (k : Int) := by omega
      clear hSS hc hnm; go_wp2
      (try simp only [Exit.inBlock, Exit.then])
      refine bodyPost_ret (v := .tuple #[.string nm, .int .i64 0]) (by simp [results, Tryz.results71, go_sem, asAddr]) rfl ?_; exact ⟨by rw [HNM.out, HSQ.out], HBx.out⟩
end Go.Proofs.YtmafmebcgmegeaaGreatDoor
