/- Part. -/
import Derived.Test.YtmafmebcgmegeaaGreatDoorGz1
import Derived.Test.YtmafmebcgmegeaaGreatDoorGz39
namespace Go.Proofs.YtmafmebcgmegeaaGreatDoor
open Go.RowKit Go.Sort
theorem lines_pieces (s : ByteArray) : linesB s = (doneB 10 s s.size).map addNl ++ (if (curB 10 s s.size).data.toList = [] then [] else [curB 10 s s.size]) := by
 have e : s.data.toList.take s.size = s.data.toList := List.take_of_length_le (Nat.le_refl _); unfold linesB linesOf doneB curB; rw [e, List.map_append, List.map_map, List.map_map]
 congr 1
 simp only [toBA_list]
 split <;> rfl
theorem cur_bad {s : ByteArray} {j : Nat} (h : (curB 10 s s.size).data.toList ≠ []) : lineOk j (curB 10 s s.size) = false := by
 have e : s.data.toList.take s.size = s.data.toList := List.take_of_length_le (Nat.le_refl _); have hf := (cutSt_free_all 10 s.data.toList).2
 have he : endedB (curB 10 s s.size) = false := by
  unfold endedB; rw [beq_eq_false_iff_ne]; intro h2; have h3 := List.mem_of_getLast? h2; unfold curB at h3; rw [e, toBA_list] at h3; exact hf h3
 unfold lineOk lineF; rw [he]
 rfl
def GR.rowT (n : Nat) (T : TypeId) (cs : Array Value) : GR := ⟨fun v W => ∃ g, v = .slice (some ⟨g, 0, none⟩) n n /\ Blk W g T cs, fun ⟨g, e, h⟩ hE => ⟨g, e, h.below hE⟩⟩
theorem rpty_zero {w : World} {b : Nat} (h : Blk w b 26 #[.string ⟨#[]⟩, .slice none 0 0, .int .i64 0, .int .i64 0, .int .i64 0, .int .i64 0, .int .i64 0, .int .i64 0, .int .i64 0, .int .i64 0, .int .i64 0, .slice none 0 0, .slice none 0 0]) : RPTy w b zeroS.1 zeroS.2.1 zeroS.2.2 :=
 ⟨rfl, .slice none 0 0, .slice none 0 0, .slice none 0 0, [], ⟨h, ⟨none, 0, rfl, ⟨rfl, fun h => absurd h (by simp [zeroS])⟩, fun h => absurd h (by simp [zeroS])⟩, ⟨none, 0, rfl, ⟨rfl, fun h => absurd h (by simp [zeroS])⟩, fun h => absurd h (by simp [zeroS])⟩, World.ownsRow_nil _ _ _ _, rfl, fun j hj => absurd hj (by simp [zeroS])⟩⟩
theorem head_at (j : Nat) (hj : j < 4) : (#[.string ⟨#[116, 121, 112, 101]⟩, .string ⟨#[115, 104, 97, 114, 101, 115]⟩, .string ⟨#[100, 105, 114, 101, 99, 116]⟩, .string ⟨#[115, 113, 117, 97, 114, 101, 115]⟩] : Array Value)[j]? = some (.string (firstW (min j 4))) := by
 match j, hj with
 | 0, _ => rfl
 | 1, _ => rfl
 | 2, _ => rfl
 | 3, _ => rfl
theorem intB_tail {w : World} {B n : Nat} {g c : Nat} {p : Int} {ys : List Int} (h : OwnI w B (.slice (some ⟨g, 0, none⟩) n c) (p :: ys)) (A : Option Addr) (c' : Nat) (hA : 0 < ys.length -> A = some ⟨g, 1, none⟩) : IntB w (.slice A ys.length c') ys := by
 refine ⟨A, c', rfl, ⟨rfl, fun hp => ⟨g, 1, hA hp, fun i hi => ?_⟩⟩, fun hp => ?_⟩
 ·have h1 := h.parts.2.2.1 (1 + i) (by have := h.parts.1; simp at this; omega); rw [h1, Nat.add_comm]
  simp
 ·rcases h.2 with ⟨h1, _⟩ | ⟨g', cap, cur, h1, _, hg, _⟩
  ·cases h1
  ·injection h1 with h2
   injection h2 with h2
   injection h2 with h3 _ _
   subst h3; exact ⟨g, 1, cur, _, hA hp, hg⟩
set_option maxHeartbeats 16000000 in
set_option maxRecDepth 100000 in
theorem refParseT_any (w : World) (s : ByteArray) (hs : s.size <= 80000) : Calls Tryz.prog 76 #[.string s] w (ParsePost w s) := by
 have HS0 := lh hs; obtain ⟨ZC, hZ⟩ : ∃ Z : Array Value, Z = #[.string ⟨#[]⟩, .slice none 0 0, .int .i64 0, .int .i64 0, .int .i64 0, .int .i64 0, .int .i64 0, .int .i64 0, .int .i64 0, .int .i64 0, .int .i64 0, .slice none 0 0, .slice none 0 0] := ⟨_, rfl⟩; have HZ := lh hZ; have IZ : Hid ((Tryz.prog.info? 26).map (·.size) = some ZC.size) := by show _ = _; rw [hZ]; kernel_rfl
 have OZ : Hid (ZC.all (·.oneCell') = true) := by show _ = _; rw [hZ]; simp [Value.oneCell']
 have LZ : Hid (∀ (W : World) (g : Nat) {cs : Array Value}, Blk W g 26 cs -> (loadVar 26 ⟨g, 0, none⟩).run Tryz.prog (W.setRow g ZC) = .ok (.agg ZC) (W.setRow g ZC)) := fun W g cs h => (h.setRow ZC).lv Tryz.prog Tryz.underlying26 rfl IZ.out
 clear hs hZ
 by_cases hl : 4096 < s.size
 ·have t1 : decide ((4096 : Int) < (s.size : Int)) = true := by simp; omega
  go_enter Tryz.func76, Tryz.ntmps76
  go_upto_region 1 with fail
  obtain ⟨w1, hw1⟩ : ∃ W, W = (w.alloc (.cells #[.string ⟨#[]⟩, .slice none 0 0, .int .i64 0, .int .i64 0, .int .i64 0, .int .i64 0, .int .i64 0, .int .i64 0, .int .i64 0, .int .i64 0, .int .i64 0, .slice none 0 0, .slice none 0 0] 26)) := ⟨_, rfl⟩; rw [<- hw1]; have R2 : Hid (Blk w1 (w.heap.size) 26 #[.string ⟨#[]⟩, .slice none 0 0, .int .i64 0, .int .i64 0, .int .i64 0, .int .i64 0, .int .i64 0, .int .i64 0, .int .i64 0, .int .i64 0, .int .i64 0, .slice none 0 0, .slice none 0 0]) := by show Blk _ _ _ _; rw [hw1]; exact Blk.new _ _ _
  have hb1 : Below w.heap.size w w1 := by rw [hw1]; exact ((Below.refl _ _).alloc (Nat.le_refl _) _)
  obtain ⟨g2, hg2⟩ : ∃ g, g = w.heap.size := ⟨_, rfl⟩; have HGw1 : Hid (g2 = w.heap.size) := hg2; rw [<- hg2] at R2
  try rw [<- hg2]
  clear hw1 hg2; have HB1 : Hid (Below w.heap.size w w1) := hb1; have HG2 : Hid (w.heap.size <= g2) := by show _ <= _; rw [HGw1.out]; exact Nat.le_refl _
  clear hb1 HGw1
  have HE : Hid (parseE s = 26) := by
   show _ = _
   unfold parseE; rw [if_pos hl]
  have HN : Hid ((parseN s : Int) = 0) := by
   show _ = _
   unfold parseN; rw [if_pos hl]; rfl
  have HS : Hid (parseS s = zeroS) := by show _ = _; unfold parseS; rw [HE.out]; exact if_neg (by decide)
  go_wp2_with (refine wpList_store_row rfl 26 _ _ rfl g2 ZC rfl (by rw [HZ.out]; rfl) 26 _ R2.out IZ.out (by rw [HZ.out]) OZ.out ?_)
  have HLV := LZ.out _ _ R2.out; refine bodyPost_ret (v := .tuple #[.agg ZC, .int .i64 0, .int .i64 26]) (by simp [results, Tryz.results76, asAddr, HLV]) rfl ?_; refine ⟨(HB1.out).setRow' HG2.out _, ZC, none, 0, 0, none, 0, 0, none, 0, 0, by rw [HN.out, HE.out], ?_⟩; rw [HS.out, HZ.out]; exact rtyZero _
 ·have t1 : decide ((4096 : Int) < (s.size : Int)) = false := by simp; omega
  have HL0 : Hid (¬ 4096 < s.size) := hl; obtain ⟨L, hL⟩ : ∃ L, L = linesB s := ⟨_, rfl⟩; obtain ⟨D, hD⟩ : ∃ D, D = doneB 10 s s.size := ⟨_, rfl⟩; obtain ⟨c, hc⟩ : ∃ c, c = curB 10 s s.size := ⟨_, rfl⟩; have hLD : L = D.map addNl ++ (if c.data.toList = [] then [] else [c]) := by rw [hL, hD, hc]; exact lines_pieces s
  have HCB : Hid (∀ j, c.data.toList ≠ [] -> lineOk j c = false) := fun j h => by rw [hc] at h ⊢; exact cur_bad h
  have HSP : Hid (∀ W, Calls Tryz.prog 84 #[.string s, .int .u8 10] W fun e w' => ∃ v, e = .returned v /\ OwnS w' W.heap.size v (D ++ [c]) /\ Below W.heap.size W w') := fun W => by
   rw [hD, hc, <- split_end]; exact refSplit_any 10 s W (by omega)
  obtain ⟨nD, hnD⟩ : ∃ n, n = D.length := ⟨_, rfl⟩; have hn9 : nD <= 4096 := by rw [hnD, hD]; have := doneB_len 10 s s.size; omega
  have HPS : Hid (∀ p ∈ D, p.size <= 4096) := fun p hp => by
   have := sepL_size 10 s p (by rw [split_end, <- hD]; exact List.mem_append_left _ hp)
   omega
  have HLS : Hid (∀ x ∈ L, x.size <= 4096) := fun x hx => by rw [hL] at hx; have := linesB_size s x hx; omega
  have HL := lh hL; have HLD := lh hLD; have HND := lh hnD
  have HL1 : Hid (∀ j, j < nD -> L.getD j ⟨#[]⟩ = addNl (D.getD j ⟨#[]⟩) /\ j < L.length) := fun j hj => by
   have hj2 : j < D.length := by omega
   rw [hLD, List.getD_eq_getElem?_getD, List.getElem?_append_left (by simpa using hj2), List.getElem?_map, List.getD_eq_getElem?_getD, List.getElem?_eq_getElem hj2]; refine ⟨rfl, ?_⟩
   simp
   omega
  have htl : c.toList = c.data.toList := ByteArray.toList_eq c; have HCT := lh htl; clear hL hD hc hLD hnD hl htl
  go_enter Tryz.func76, Tryz.ntmps76
  go_upto_region 1 with fail
  obtain ⟨w1, hw1⟩ : ∃ W, W = (w.alloc (.cells #[.string ⟨#[]⟩, .slice none 0 0, .int .i64 0, .int .i64 0, .int .i64 0, .int .i64 0, .int .i64 0, .int .i64 0, .int .i64 0, .int .i64 0, .int .i64 0, .slice none 0 0, .slice none 0 0] 26)) := ⟨_, rfl⟩; rw [<- hw1]; have R2 : Hid (Blk w1 (w.heap.size) 26 #[.string ⟨#[]⟩, .slice none 0 0, .int .i64 0, .int .i64 0, .int .i64 0, .int .i64 0, .int .i64 0, .int .i64 0, .int .i64 0, .int .i64 0, .int .i64 0, .slice none 0 0, .slice none 0 0]) := by show Blk _ _ _ _; rw [hw1]; exact Blk.new _ _ _
  have hb1 : Below w.heap.size w w1 := by rw [hw1]; exact ((Below.refl _ _).alloc (Nat.le_refl _) _)
  obtain ⟨g2, hg2⟩ : ∃ g, g = w.heap.size := ⟨_, rfl⟩; have HGw1 : Hid (g2 = w.heap.size) := hg2; rw [<- hg2] at R2
  try rw [<- hg2]
  clear hw1 hg2; have HB1 : Hid (Below w.heap.size w w1) := hb1; have HG2 : Hid (w.heap.size <= g2) := by show _ <= _; rw [HGw1.out]; exact Nat.le_refl _
  clear hb1 HGw1
  go_upto_region 4 with fail
  obtain ⟨w2, hw2⟩ : ∃ W, W = (w1.alloc (.cells #[.string ⟨#[]⟩, .slice none 0 0, .int .i64 0, .int .i64 0, .int .i64 0, .int .i64 0, .int .i64 0, .int .i64 0, .int .i64 0, .int .i64 0, .int .i64 0, .slice none 0 0, .slice none 0 0] 26)) := ⟨_, rfl⟩; rw [<- hw2]; have R5 : Hid (Blk w2 (w1.heap.size) 26 #[.string ⟨#[]⟩, .slice none 0 0, .int .i64 0, .int .i64 0, .int .i64 0, .int .i64 0, .int .i64 0, .int .i64 0, .int .i64 0, .int .i64 0, .int .i64 0, .slice none 0 0, .slice none 0 0]) := by show Blk _ _ _ _; rw [hw2]; exact Blk.new _ _ _
  have hb2 : Below w1.heap.size w1 w2 := by rw [hw2]; exact ((Below.refl _ _).alloc (Nat.le_refl _) _)
  obtain ⟨g5, hg5⟩ : ∃ g, g = w1.heap.size := ⟨_, rfl⟩; have HGw2 : Hid (g5 = w1.heap.size) := hg5; rw [<- hg5] at R5
  try rw [<- hg5]
  clear hw2 hg5; have HG5 : Hid (w.heap.size <= g5 /\ g2 < g5) := by show _ /\ _; have h1 := HB1.out.size; have h2 := lt_of_block R2.out; rw [HGw2.out]; exact ⟨h1, h2⟩
  replace HB1 := lh (HB1.out.trans (hb2.mono HB1.out.size)); replace R2 := lh (R2.out.below hb2); clear hb2; clear HGw2
  go_wp2_with fail
  refine (HSP.out _).mono ?_; rintro e w3 ⟨vL, rfl, hOL, hb⟩
  obtain ⟨gL, cL, rfl⟩ : ∃ g c, vL = .slice (some ⟨g, 0, none⟩) (nD + 1) c := by
   rcases hOL.2 with ⟨_, h0⟩ | ⟨g, cap, cur, h1, _⟩
   ·simp at h0
   ·exact ⟨g, cap, by rw [h1, List.length_append, <- HND.out]; rfl⟩
  have OL : Hid (OwnS w3 0 (.slice (some ⟨gL, 0, none⟩) (nD + 1) cL) (D ++ [c])) := ⟨hOL.1, hOL.2.imp id (fun ⟨g, cap, cur, h1, _, r⟩ => ⟨g, cap, cur, h1, Nat.zero_le _, r⟩)⟩; replace HB1 := lh (HB1.out.trans (hb.mono HB1.out.size)); replace R2 := lh (R2.out.below hb); replace R5 := lh (R5.out.below hb); clear hb; clear hOL HSP
  go_upto_region 6 with fail
  obtain ⟨w4, hw4⟩ : ∃ W, W = (w3.alloc (.cells #[.string ⟨#[116, 121, 112, 101]⟩, .string ⟨#[115, 104, 97, 114, 101, 115]⟩, .string ⟨#[100, 105, 114, 101, 99, 116]⟩, .string ⟨#[115, 113, 117, 97, 114, 101, 115]⟩] 9)) := ⟨_, rfl⟩; rw [<- hw4]; have RH : Hid (Blk w4 (w3.heap.size) 9 #[.string ⟨#[116, 121, 112, 101]⟩, .string ⟨#[115, 104, 97, 114, 101, 115]⟩, .string ⟨#[100, 105, 114, 101, 99, 116]⟩, .string ⟨#[115, 113, 117, 97, 114, 101, 115]⟩]) := by show Blk _ _ _ _; rw [hw4]; exact Blk.new _ _ _
  have hb4 : Below w3.heap.size w3 w4 := by rw [hw4]; exact ((Below.refl _ _).alloc (Nat.le_refl _) _)
  obtain ⟨gH, hgH⟩ : ∃ g, g = w3.heap.size := ⟨_, rfl⟩; have HGw4 : Hid (gH = w3.heap.size) := hgH; rw [<- hgH] at RH
  try rw [<- hgH]
  clear hw4 hgH; have OL4 : Hid (OwnS w4 0 (.slice (some ⟨gL, 0, none⟩) (nD + 1) cL) (D ++ [c])) := row_ext OL.out hb4; have HGH : Hid (g5 < gH) := by show _ < _; have h2 := lt_of_block R5.out; rw [HGw4.out]; exact h2
  replace HB1 := lh (HB1.out.trans (hb4.mono HB1.out.size)); replace R2 := lh (R2.out.below hb4); replace R5 := lh (R5.out.below hb4); clear hb4; have P0 : Hid (RPTy w4 g5 zeroS.1 zeroS.2.1 zeroS.2.2) := rpty_zero R5.out; clear HGw4 OL R5 t1; go_wp2
  go_loopw [8] (fun i wr => ∃ j : Nat, j <= nD + 1 /\ i = .int .i64 j /\ Hid (Below w.heap.size w wr) /\ Hid (RPTy wr g5 (stTo L (min j nD)).1 (stTo L (min j nD)).2.1 (stTo L (min j nD)).2.2) /\ Hid (Blk wr g2 26 #[.string ⟨#[]⟩, .slice none 0 0, .int .i64 0, .int .i64 0, .int .i64 0, .int .i64 0, .int .i64 0, .int .i64 0, .int .i64 0, .int .i64 0, .int .i64 0, .slice none 0 0, .slice none 0 0]) /\ Hid (Blk wr gH 9 #[.string ⟨#[116, 121, 112, 101]⟩, .string ⟨#[115, 104, 97, 114, 101, 115]⟩, .string ⟨#[100, 105, 114, 101, 99, 116]⟩, .string ⟨#[115, 113, 117, 97, 114, 101, 115]⟩]) /\ Hid (OwnS wr 0 (.slice (some ⟨gL, 0, none⟩) (nD + 1) cL) (D ++ [c])) /\ Hid (badG L 0 = badG L (min j nD)) /\ Hid (nD < j -> c.data.toList = [])) (fun i _ => nD + 1 - (intOf i).toNat)
  case atStart => exact ⟨0, Nat.zero_le _, rfl, HB1, P0, R2, RH, OL4, rfl, fun h => absurd h (by omega)⟩
  case round =>
   clear HB1 P0 R2 RH OL4; obtain ⟨j, hj, rfl, HBr, HP, R2, RH, OL, HBD, HCE⟩ := hrel; rcases Nat.lt_trichotomy j nD with hlt | hjn | hgt
   ·have hmin : min j nD = j := by omega
    rw [hmin] at HP HBD; obtain ⟨p, hp⟩ : ∃ p, p = D.getD j ⟨#[]⟩ := ⟨_, rfl⟩; have hjD : j < D.length := by rw [<- HND.out]; exact hlt
    have hpm : D[j]? = some p := by rw [hp, List.getD_eq_getElem?_getD, List.getElem?_eq_getElem hjD]; rfl
    have hps := HPS.out p (List.mem_of_getElem? hpm); obtain ⟨hL1, hL2⟩ := HL1.out j hlt; rw [<- hp] at hL1
    have cp : wr.cell? ⟨gL, j, none⟩ = some (.string p) := by
     have h0 : wr.ownsRow 0 9 1 (.slice (some ⟨gL, 0, none⟩) (nD + 1) cL) (nD + 1) ((D ++ [c]).map Value.string) := by
      have := OL.out; unfold OwnS at this
      rwa [List.length_append, <- HND.out] at this
     rw [World.ownsRow.cellAt h0 j (by omega), List.getElem?_map, List.getElem?_append_left hjD, hpm]
     rfl
    obtain ⟨ws, hws⟩ : ∃ ws, ws = sepL 32 0 p := ⟨_, rfl⟩
    have HSW : Hid (∀ W, Calls Tryz.prog 84 #[.string p, .int .u8 32] W fun e w' => ∃ v, e = .returned v /\ OwnS w' W.heap.size v ws /\ Below W.heap.size W w') := fun W => by
     rw [hws]; exact refSplit_any 32 p W (by omega)
    have hwl : ws.length <= 4097 := by rw [hws]; have := sepL_le 32 0 p; omega
    have hw0 : 0 < ws.length := by rw [hws, sepL_len]; omega
    have HWZ : Hid (∀ x ∈ ws, x.size <= 100000) := fun x hx => by rw [hws] at hx; have := sepL_size 32 p x hx; omega
    have HOK : Hid (lineOk j (L.getD j ⟨#[]⟩) = (rightB j ws && allD 12 (ws.drop (formN j + 1)))) := by show _ = _; rw [hL1, hws]; exact right_is j p
    have HWD : Hid (wordsL (L.getD j ⟨#[]⟩) = ws) := by show _ = _; rw [hL1, hws]; exact nl_words p
    have HJL : Hid (j < L.length) := hL2; clear hp hjD hpm hps hL1 hL2 hws hmin; obtain ⟨m, hm⟩ : ∃ m, ws.length = m + 1 := ⟨ws.length - 1, by omega⟩; have hm9 : m <= 4096 := by omega
    have HM := lh hm; have e36 : ((j : Int) == (nD : Int)) = false := by rw [beq_eq_false_iff_ne]; omega
    have HJN : Hid (j < nD) := hlt; clear hwl hw0 hm
    go_wp2_with fail
    refine (HSW.out _).mono ?_; rintro e w5 ⟨vw, rfl, hOW, hb⟩
    obtain ⟨gw, cw, rfl⟩ : ∃ g c, vw = .slice (some ⟨g, 0, none⟩) (m + 1) c := by
     rcases hOW.2 with ⟨_, h0⟩ | ⟨g, cap, cur, h1, _⟩
     ·rw [HM.out] at h0; omega
     ·exact ⟨g, cap, by rw [h1, HM.out]⟩
    have HWC : Hid (∀ W (_ : Below w5.heap.size w5 W) i, i < m + 1 -> W.cell? ⟨gw, i, none⟩ = some (.string (ws.getD i ⟨#[]⟩))) := fun W hE i hi => by
     have h0 : W.ownsRow wr.heap.size 9 1 (.slice (some ⟨gw, 0, none⟩) (m + 1) cw) (m + 1) (ws.map Value.string) := by
      have := row_ext hOW hE
      rwa [HM.out] at this
     rw [World.ownsRow.cellAt h0 i (by omega), List.getElem?_map, List.getElem?_eq_getElem (by rw [HM.out]; exact hi), List.getD_eq_getElem?_getD, List.getElem?_eq_getElem (by rw [HM.out]; exact hi)]
     rfl
    have HGW : Hid (g5 ≠ gw) := by
     show _ ≠ _
     obtain ⟨_, va, vq, vs, P, hm⟩ := HP.out; have h1 := lt_of_block hm.box; have h2 := (World.ownsRow.lt hOW gw rfl).1
     omega
    have OL5 : Hid (OwnS w5 0 (.slice (some ⟨gL, 0, none⟩) (nD + 1) cL) (D ++ [c])) := row_ext OL.out hb; have HBR : Hid (Below w.heap.size w wr) := HBr; have HP5 := lh (HP.out.keep hb); replace HBr := lh (HBr.out.trans (hb.mono HBr.out.size)); replace R2 := lh (R2.out.below hb); replace RH := lh (RH.out.below hb); clear hb; clear hOW OL HP HSW cp; have x0c := HWC.out w5 (Below.refl _ _) 0 (by omega); obtain ⟨x0, hx0⟩ : ∃ x, x = ws.getD 0 ⟨#[]⟩ := ⟨_, rfl⟩; rw [<- hx0] at x0c; obtain ⟨hw, hhw⟩ : ∃ x, x = firstW (min j 4) := ⟨_, rfl⟩; obtain ⟨H, hH⟩ : ∃ b : Bool, b = (x0.toList == hw.toList) := ⟨_, rfl⟩; have HH := lh hH; have HHW := lh hhw; have HX0 := lh hx0; clear hx0 hhw
    go_upto_if 52 with fail
    go_cut [10] (fun v wx => v = .string hw /\ wx = w5)
    case first =>
     by_cases h4 : j < 4
     ·have t4 : decide ((j : Int) < 4) = true := by simp; omega
      have chd : w5.cell? ⟨gH, j, none⟩ = some (.string hw) := by rw [HHW.out]; exact (RH.out.cell j).trans (head_at j h4)
      clear hH; go_wp2; go_meet; exact ⟨rfl, rfl⟩
     ·have t4 : decide ((j : Int) < 4) = false := by simp; omega
      have e4 : hw = ⟨#[112, 111, 119, 101, 114]⟩ := by rw [HHW.out, show min j 4 = 4 by omega]; rfl
      clear hH; go_wp2; go_meet; exact ⟨by rw [e4], rfl⟩
    case rest =>
    obtain ⟨rfl, rfl⟩ := hcut
    go_upto_if 63 with fail
    rw [<- hH]; clear hH x0c; obtain ⟨R1, hR1⟩ : ∃ b : Bool, b = (if j = 0 then H && (decide (m + 1 = 3) && !((ws.getD 1 ⟨#[]⟩).toList == [])) else H) := ⟨_, rfl⟩; obtain ⟨fr, hfr⟩ : ∃ f : Nat, f = formN j + 1 := ⟨_, rfl⟩; rw [<- hfr] at HOK; have HFR := lh hfr; clear hfr
    go_cut [11, 12] (fun f r wx => f = .int .i64 fr /\ r = .bool R1 /\ wx = wc)
    case first =>
     by_cases h0 : j = 0
     ·have e0 : ((j : Int) == 0) = true := by simp [h0]
      have hf : Hid (fr = 2) := by show _ = _; rw [HFR.out]; unfold formN; rw [if_pos h0]
      rw [if_pos h0] at hR1; have HR1 := lh hR1; clear h0 hR1
      cases H with
      | false =>
        go_wp2
        go_meet
        exact ⟨by rw [hf.out]; rfl, by rw [HR1.out]; rfl, rfl⟩
      | true =>
        by_cases h3 : m = 2
        ·have hm1 : 1 <= m := by omega
         have h33 : ((m : Int) + 1 == 3) = true := by rw [beq_iff_eq]; omega
         have HR3 : Hid (R1 = !((ws.getD 1 ⟨#[]⟩).toList == [])) := by show _ = _; rw [HR1.out, h3]; rfl
         have x1c := HWC.out wc (Below.refl _ _) 1 (by omega); obtain ⟨x1, hx1⟩ : ∃ x, x = ws.getD 1 ⟨#[]⟩ := ⟨_, rfl⟩; rw [<- hx1] at x1c HR3; clear hx1 h3
         by_cases hx : x1.toList = []
         ·go_wp2
          go_meet
          exact ⟨by rw [hf.out]; rfl, by rw [HR3.out, hx]; rfl, rfl⟩
         ·have hxe : x1.toList.isEmpty = false := by cases hh : x1.toList with
           | nil => exact absurd hh hx
           | cons _ _ => rfl
          have hxb : (x1.toList == []) = false := by cases hh : x1.toList with
           | nil => exact absurd hh hx
           | cons _ _ => rfl
          go_wp2
          go_meet
          exact ⟨by rw [hf.out]; rfl, by rw [HR3.out, hxb]; rfl, rfl⟩
        ·have h33 : ((m : Int) + 1 == 3) = false := by rw [beq_eq_false_iff_ne]; omega
         have h34 : decide (m + 1 = 3) = false := by simp; omega
         have HR3 : Hid (R1 = false) := by show _ = _; rw [HR1.out, h34]; rfl
         go_wp2
         go_meet
         exact ⟨by rw [hf.out]; rfl, by rw [HR3.out], rfl⟩
     ·have e0 : ((j : Int) == 0) = false := by rw [beq_eq_false_iff_ne]; omega
      have hf : Hid (fr = 1) := by show _ = _; rw [HFR.out]; unfold formN; rw [if_neg h0]
      rw [if_neg h0] at hR1; have HR1 := lh hR1; clear h0 hR1; go_wp2; go_meet; exact ⟨by rw [hf.out]; rfl, by rw [HR1.out], rfl⟩
    case rest =>
    obtain ⟨rfl, rfl, rfl⟩ := hcut; have HR1 := lh hR1; clear hR1
    go_upto_if 77 with fail
    obtain ⟨R2', hR2⟩ : ∃ b : Bool, b = (if j = 2 then R1 && decide (m + 1 = 9) else R1) := ⟨_, rfl⟩
    go_cut [12] (fun r wx => r = .bool R2' /\ wx = wc)
    case first =>
     by_cases h0 : j = 2
     ·have e0 : ((j : Int) == 2) = true := by simp [h0]
      rw [if_pos h0] at hR2; have HR2 := lh hR2; clear h0 hR2
      cases R1 with
      | false =>
        go_wp2
        go_meet
        exact ⟨by rw [HR2.out]; rfl, rfl⟩
      | true =>
        have e9 : ((m : Int) + 1 == 9) = decide (m + 1 = 9) := by
         rw [Bool.eq_iff_iff, beq_iff_eq, decide_eq_true_iff]; omega
        have HE9 := lh e9; clear e9; go_wp2; go_meet; exact ⟨by rw [HR2.out, <- HE9.out]; rfl, rfl⟩
     ·have e0 : ((j : Int) == 2) = false := by rw [beq_eq_false_iff_ne]; omega
      rw [if_neg h0] at hR2; have HR2 := lh hR2; clear h0 hR2; go_wp2; go_meet; exact ⟨by rw [HR2.out], rfl⟩
    case rest =>
    obtain ⟨rfl, rfl⟩ := hcut; have HR2 := lh hR2; clear hR2
    go_upto_if 85 with fail
    obtain ⟨R0, hR0⟩ : ∃ b : Bool, b = rightB j ws := ⟨_, rfl⟩
    have HR0 : Hid (R0 = (if 3 < j then R2' && decide (1 < m + 1) else R2')) := by
     show _ = _
     rw [hR0, HR2.out, HR1.out, HH.out, HX0.out, HHW.out]; unfold rightB; rw [HM.out]
     by_cases h0 : j = 0
     ·subst h0; simp
     ·simp only [if_neg h0]
      by_cases h2 : j = 2
      ·subst h2; simp
      ·simp only [if_neg h2]
       by_cases h4 : 4 <= j
       ·rw [if_pos h4, if_pos (by omega)]
       ·rw [if_neg h4, if_neg (by omega)]; simp
    go_cut [12] (fun r wx => r = .bool R0 /\ wx = wc)
    case first =>
     have hR3 := HR0.out
     by_cases h0 : 3 < j
     ·have e0 : decide ((3 : Int) < (j : Int)) = true := by simp; omega
      have e0p : (3 : Int) < (j : Int) := by omega
      rw [if_pos h0] at hR3; have HR3 := lh hR3; clear h0 hR3 hR0
      cases R2' with
      | false =>
        go_wp2
        go_meet
        exact ⟨by rw [HR3.out]; rfl, rfl⟩
      | true =>
        have e9 : decide ((1 : Int) < (m : Int) + 1) = decide (1 < m + 1) := by
         rw [Bool.eq_iff_iff, decide_eq_true_iff, decide_eq_true_iff]; omega
        have HE9 := lh e9; clear e9; go_wp2; go_meet; exact ⟨by rw [HR3.out, <- HE9.out]; rfl, rfl⟩
     ·have e0 : decide ((3 : Int) < (j : Int)) = false := by simp; omega
      have e0p : ¬ (3 : Int) < (j : Int) := by omega
      rw [if_neg h0] at hR3; have HR3 := lh hR3; clear h0 hR3 hR0; go_wp2; go_meet; exact ⟨by rw [HR3.out], rfl⟩
    case rest =>
    obtain ⟨rfl, rfl⟩ := hcut; rw [<- hR0] at HOK; have FR : Hid (RF w wc g2 gH (.slice (some ⟨gL, 0, none⟩) (nD + 1) cL) (D ++ [c])) := ⟨HBr.out, R2.out, RH.out, OL5.out⟩; have HRB := lh hR0; clear hR0 HR0 HR1 HR2 HH HX0 HBr R2 RH OL5 HBR; have HRW : Hid (∀ q, q < (ws.drop fr).length -> ws.drop fr = ws.drop fr /\ fr + q < m + 1) := fun q hq => ⟨rfl, by rw [List.length_drop, HM.out] at hq; omega⟩
    obtain ⟨rw_, hrw⟩ : ∃ r, r = ws.drop fr := ⟨_, rfl⟩; have HRL : Hid (rw_.length = m + 1 - fr) := by show _ = _; rw [hrw, List.length_drop, HM.out]
    have HRC : Hid (∀ W (_ : Below wc.heap.size wc W) q (h : q < rw_.length), W.cell? ⟨gw, fr + q, none⟩ = some (.string (rw_.getD q ⟨#[]⟩))) := fun W hE q hq => by
     rw [hrw, List.length_drop, HM.out] at hq; rw [HWC.out W hE (fr + q) (by omega), hrw]
     simp [List.getD_eq_getElem?_getD, List.getElem?_drop]
    have HRZ : Hid (∀ q, (rw_.getD q ⟨#[]⟩).size <= 100000) := fun q => by
     rw [hrw, List.getD_eq_getElem?_getD]
     cases h : (ws.drop fr)[q]? with
     | none => exact Nat.zero_le _
     | some x => exact HWZ.out x (List.mem_of_mem_drop (List.mem_of_getElem? h))
    have HRD := lh hrw; rw [<- hrw] at HOK; have hfr2 : fr <= 2 := by rw [HFR.out]; unfold formN; split <;> omega
    obtain ⟨i0, hi, hz0, hz1, hz2⟩ := info_parts infoInt; clear hrw HRW; go_wp2
    go_loopw [12, 13, 14] (fun r l k wx => ∃ q : Nat, q <= m + 1 - fr /\ k = .int .i64 ((fr + q : Nat) : Int) /\ r = .bool (R0 && allD 12 (rw_.take q)) /\ Hid (OwnI wx wc.heap.size l ((rw_.take q).map (intV 12))) /\ Hid (Below wc.heap.size wc wx)) (fun _ _ k _ => m + 1 - (intOf k).toNat)
    case atStart => exact ⟨0, Nat.zero_le _, by go_num, by simp [allD], OwnI.nil _ _, Below.refl _ _⟩
    case round =>
     obtain ⟨q, hq, rfl, rfl, hOI, hBI⟩ := hrel
     by_cases hlt : q < m + 1 - fr
     ·have hc := HRC.out _ hBI.out q (by rw [HRL.out]; exact hlt); obtain ⟨x, hx⟩ : ∃ x, x = rw_.getD q ⟨#[]⟩ := ⟨_, rfl⟩; rw [<- hx] at hc; have hxz : x.size <= 100000 := by rw [hx]; exact HRZ.out q
      have htk : Hid (rw_.take (q + 1) = rw_.take q ++ [x]) := by
       show _ = _
       have hql : q < rw_.length := by rw [HRL.out]; exact hlt
       rw [List.take_succ_eq_append_getElem hql, hx]
       simp [List.getD_eq_getElem?_getD, List.getElem?_eq_getElem hql]
      have hlen : ((rw_.take q).map (intV 12)).length = q := by rw [List.length_map, List.length_take, HRL.out]; omega
      have hown0 : wr.ownsRow wc.heap.size 3 1 u13 q (((rw_.take q).map (intV 12)).map (Value.int .i64)) := by have := hOI.out; unfold OwnI at this; rwa [hlen] at this
      obtain ⟨V, hV⟩ : ∃ V, V = intV 12 x := ⟨_, rfl⟩; obtain ⟨B, hB⟩ : ∃ B, B = digB 12 x.data.toList := ⟨_, rfl⟩; have HDG := lh (refDig_any x wr hxz); rw [<- hV, <- hB] at HDG; obtain ⟨R, hR⟩ : ∃ R : Bool, R = (R0 && allD 12 (rw_.take q)) := ⟨_, rfl⟩; rw [<- hR]
      have HRN : Hid ((R && B) = (R0 && allD 12 (rw_.take (q + 1)))) := by
       show _ = _
       rw [htk.out, hR, hB]; unfold allD; rw [List.all_append]
       simp [Bool.and_assoc]
      have HVN : Hid ((rw_.take (q + 1)).map (intV 12) = (rw_.take q).map (intV 12) ++ [V]) := by show _ = _; rw [htk.out, hV]; simp
      have HLEN := lh hlen; have hszw := hBI.out.size; have hfq : fr + q < m + 1 := by omega
      clear hx hxz htk hlen hV hB hR hOI
      cases R with
      | false =>
        go_wp2_with (first | (refine HDG.out.mono ?_; rintro e w' ⟨rfl, rfl⟩) | (at_builtin; refine wpList_append_own _ rfl _ _ 22 rfl wc.heap.size 3 i0 (.int .i64 0) 1 8 Tryz.underlying22 hi hz0 hz1 hz2 rfl (by decide) _ _ _ rfl (World.ownsRow.alloc hown0 _) ⟨wr.heap.size, 0, none⟩ 1 1 [.int .i64 V] rfl rfl (cell_one_new _ _ _) (by simp [Value.oneCell']) (by unfold maxLen; omega) (by omega) (by simp; omega) ?_; intro v' w2 hown' hgrow _))
        go_roundw
        case rel =>
         refine ⟨q + 1, by omega, by go_num, by rw [<- HRN.out]; rfl, ?_, Below.grown (hBI.out.alloc hszw _) hgrow (by simp; omega) (fun j hj => (hown0.lt j hj).1)⟩
         show OwnI _ _ _ _
         rw [HVN.out]; unfold OwnI; rw [List.length_append, HLEN.out, List.map_append]; exact hown'
        case measure => simp [intOf]; omega
      | true =>
        go_wp2_with (first | (refine HDG.out.mono ?_; rintro e w' ⟨rfl, rfl⟩) | (at_builtin; refine wpList_append_own _ rfl _ _ 22 rfl wc.heap.size 3 i0 (.int .i64 0) 1 8 Tryz.underlying22 hi hz0 hz1 hz2 rfl (by decide) _ _ _ rfl (World.ownsRow.alloc hown0 _) ⟨wr.heap.size, 0, none⟩ 1 1 [.int .i64 V] rfl rfl (cell_one_new _ _ _) (by simp [Value.oneCell']) (by unfold maxLen; omega) (by omega) (by simp; omega) ?_; intro v' w2 hown' hgrow _))
        go_roundw
        case rel =>
         refine ⟨q + 1, by omega, by go_num, by rw [<- HRN.out]; rfl, ?_, Below.grown (hBI.out.alloc hszw _) hgrow (by simp; omega) (fun j hj => (hown0.lt j hj).1)⟩
         show OwnI _ _ _ _
         rw [HVN.out]; unfold OwnI; rw [List.length_append, HLEN.out, List.map_append]; exact hown'
        case measure => simp [intOf]; omega
     ·have hqe : q = m + 1 - fr := by omega
      have hex : ¬ (fr + q < m + 1) := by omega
      have htk : rw_.take q = rw_ := List.take_of_length_le (by rw [HRL.out]; omega); rw [htk] at hOI ⊢; have hdx : decide (((fr + q : Nat) : Int) < ((m + 1 : Nat) : Int)) = false := by simp; omega
      obtain ⟨R, hR⟩ : ∃ R : Bool, R = (R0 && allD 12 rw_) := ⟨_, rfl⟩; rw [<- hR] at HOK ⊢; have F := lh (FR.out.keep hBI.out); have HP6 := lh (HP5.out.keep hBI.out); have HRR := lh hR; have X1C : Hid (1 < m + 1 -> wr.cell? ⟨gw, 1, none⟩ = some (.string (ws.getD 1 ⟨#[]⟩))) := fun h => HWC.out wr hBI.out 1 h
      have HRL2 := HRL
      have HG5C : Hid (g5 < wc.heap.size) := by
       obtain ⟨_, va, vq, vs, P, hm⟩ := HP5.out; exact lt_of_block hm.box
      clear htk hqe hR HRC HRL HWC HRZ hBI
      cases R with
      | false =>
        have HOKF : Hid (badG L 0 = j) := by
         show _ = _
         rw [HBD.out]; exact badG_stop HJL.out HOK.out
        have R2 : Hid (Blk wr g2 26 #[.string ⟨#[]⟩, .slice none 0 0, .int .i64 0, .int .i64 0, .int .i64 0, .int .i64 0, .int .i64 0, .int .i64 0, .int .i64 0, .int .i64 0, .int .i64 0, .slice none 0 0, .slice none 0 0]) := F.out.z
        have HE : Hid (parseE s = 25) := by
         show _ = _
         unfold parseE; rw [if_neg HL0.out, <- HL.out, HOKF.out, if_pos HJL.out]
        have HN : Hid ((parseN s : Int) = j) := by
         show _ = _
         unfold parseN; rw [if_neg HL0.out, <- HL.out, HOKF.out, if_pos HJL.out]
        have HS : Hid (parseS s = zeroS) := by show _ = _; unfold parseS; rw [HE.out]; exact if_neg (by decide)
        go_wp2_with (refine wpList_store_row rfl 26 _ _ rfl g2 ZC rfl (by rw [HZ.out]; rfl) 26 _ R2.out IZ.out (by rw [HZ.out]) OZ.out ?_)
        have HLV := LZ.out _ _ R2.out; refine bodyPost_ret (v := .tuple #[.agg ZC, .int .i64 j, .int .i64 25]) (by simp [results, Tryz.results76, asAddr, HLV]) rfl ?_; refine ⟨(F.out.bl).setRow' HG2.out _, ZC, none, 0, 0, none, 0, 0, none, 0, 0, by rw [HN.out, HE.out], ?_⟩; rw [HS.out, HZ.out]; exact rtyZero _
      | true =>
        have HDD : Hid (allD 12 rw_ = true) := by show _ = _; have := HRR.out; cases h : allD 12 rw_ with
         | true => rfl
         | false => rw [h] at this; simp at this
        rw [intV_all HDD.out] at hOI
        have HZR : Hid (rw_ = restF (formN j) (L.getD j ⟨#[]⟩)) := by
         show _ = _
         unfold restF; rw [HWD.out, HRD.out, HFR.out]
         cases ws with
         | nil => simp
         | cons x tl => rfl
        obtain ⟨zs, hzs⟩ : ∃ zs, zs = valD rw_ := ⟨_, rfl⟩; rw [<- hzs] at hOI; have HZS : Hid (zs = valD (restF (formN j) (L.getD j ⟨#[]⟩))) := by show _ = _; rw [hzs, HZR.out]
        have HZL : Hid (zs.length = rw_.length) := by show _ = _; rw [hzs, valD_len]
        have HBN : Hid (badG L 0 = badG L (j + 1)) := by
         show _ = _
         rw [HBD.out]; exact badG_next HJL.out HOK.out
        have HMN : Hid (min (j + 1) nD = j + 1) := by show _ = _; have := HJN.out; omega
        obtain ⟨hd8, va, vq, vs, P, hm⟩ := HP6.out; have M := lh hm; have HD8 := lh hd8; have OI := lh hOI; have HST : Hid (stTo L (j + 1) = (stepNm j (L.getD j ⟨#[]⟩) (stTo L j).1, stepSh j (L.getD j ⟨#[]⟩) (stTo L j).2.1, stepT j (L.getD j ⟨#[]⟩) (stTo L j).2.2)) := rfl; obtain ⟨st, hst⟩ : ∃ st, st = stTo L j := ⟨_, rfl⟩; obtain ⟨Lj, hLj⟩ : ∃ x, x = L.getD j ⟨#[]⟩ := ⟨_, rfl⟩; rw [<- hst] at M HP6 HD8 HST; rw [<- hLj] at HZS HST HWD; have HSTJ := lh hst
        have HR0T : Hid (R0 = true) := by show _ = _; have := HRR.out; cases h : R0 with
         | true => rfl
         | false => rw [h] at this; simp at this
        have HG5W : Hid (g5 < wc.heap.size) := HG5C; have HNE : Hid (g2 ≠ g5 /\ gH ≠ g5 /\ w.heap.size <= g5) := ⟨by have := HG5.out.2; omega, by have := HGH.out; omega, HG5.out.1⟩; clear hm hd8 hzs hOI HRR HOK hst hLj HBD HZR HDD; rcases (show j = 0 ∨ j = 1 ∨ j = 2 ∨ j = 3 ∨ 4 <= j by omega) with h0 | h1 | h2 | h3 | hj4
        ·as_aux_lemma =>
          have e0 : ((j : Int) == 0) = true := by simp [h0]
          have HX : Hid (stTo L (j + 1) = ((ws.getD 1 ⟨#[]⟩), st.2.1, { st.2.2 with side := zs.headD 0 })) := by
           show _ = _
           rw [HST.out, HZS.out]; unfold stepNm stepSh stepT wordF formN; rw [if_pos h0, if_neg (by omega), if_pos h0, if_pos h0, HWD.out]; rcases ws with _ | ⟨y, _ | ⟨z, r⟩⟩ <;> rfl
          have hm2 : m = 2 := by
           have h1 := HRB.out.symm.trans HR0T.out; unfold rightB at h1; rw [HM.out, if_pos h0] at h1
           simp at h1
           omega
          have HM2 := lh hm2; have hm1 : 1 <= m := by omega
          have hz1 : zs.length = 1 := by rw [HZL.out, HRL2.out, HM2.out, HFR.out]; unfold formN; rw [if_pos h0]
          obtain ⟨v, hzv⟩ : ∃ v, zs = [v] := List.length_eq_one_iff.1 hz1
          obtain ⟨gl, cl, hu⟩ : ∃ g c, u13 = .slice (some ⟨g, 0, none⟩) 1 c := by
           rcases OI.out.form with ⟨h1, h2⟩ | ⟨g, cap, h1, _⟩
           ·rw [h2] at hz1; simp at hz1
           ·rw [hz1] at h1; exact ⟨_, _, h1⟩
          subst hu
          have hgl : g5 ≠ gl := by
           have h1 := HG5W.out; have h2 := (World.ownsRow.lt OI.out gl rfl).1
           omega
          have hi0 : wr.cell? ⟨gl, 0, none⟩ = some (.int .i64 v) := by
           have h1 := OI.out.parts.2.2.1 0 (by omega); rw [hzv] at h1; exact h1
          obtain ⟨x1, hx1⟩ : ∃ x, x = ws.getD 1 ⟨#[]⟩ := ⟨_, rfl⟩; have hx0 : wr.cell? ⟨gw, 1, none⟩ = some (.string x1) := by rw [hx1]; exact X1C.out (by omega)
          have c0 := M.out.box.cell 0; have f0 := M.out.box.frozen 0; have c10 := M.out.box.cell 10; have f10 := M.out.box.frozen 10; simp only [tyW, List.getElem?_toArray, List.getElem?_cons_zero, List.getElem?_cons_succ] at c0 c10
          have KS : ∀ (W : World) (i : Nat) (u : Value) (p : Addr) (y : Value), g5 ≠ p.block -> W.cell? p = some y -> (W.setCell ⟨g5, i, none⟩ u).cell? p = some y := fun W i u p y hne hc => by
           rw [World.cell?_setCell_other _ _ _ _ (fun e => hne (by rw [<- e]))]; exact hc
          have k1 := fun u => KS wr 0 u ⟨gw, 1, none⟩ _ HGW.out hx0
          have k2 := fun u => KS wr 0 u ⟨gl, 0, none⟩ _ hgl hi0
          have k3 := fun u v => KS (wr.setCell ⟨g5, 0, none⟩ u) 10 v ⟨gw, 1, none⟩ _ HGW.out (k1 u)
          have k4 := fun u v => KS (wr.setCell ⟨g5, 0, none⟩ u) 10 v ⟨gl, 0, none⟩ _ hgl (k2 u)
          have M2 := (M.out.put 0 (.string x1)).put 10 (.int .i64 v)
          have RP : Hid (RPTy ((wr.setCell ⟨g5, 0, none⟩ (.string x1)).setCell ⟨g5, 10, none⟩ (.int .i64 v)).drew g5 (ws.getD 1 ⟨#[]⟩) st.2.1 { st.2.2 with side := zs.headD 0 }) := by
           show RPTy _ _ _ _ _
           have e : ((tyW st.1 va st.2.2 vq vs).setIfInBounds 0 (.string x1)).setIfInBounds 10 (.int .i64 v) = tyW x1 va { st.2.2 with side := zs.headD 0 } vq vs := by rw [hzv]; simp [tyW]
           rw [e] at M2; rw [<- hx1]; exact RPTy.keep ⟨HD8.out, va, vq, vs, P, M2⟩ ((Below.refl _ _).drew)
          have FF : Hid (RF w ((wr.setCell ⟨g5, 0, none⟩ (.string x1)).setCell ⟨g5, 10, none⟩ (.int .i64 v)).drew g2 gH (.slice (some ⟨gL, 0, none⟩) (nD + 1) cL) (D ++ [c])) := ((F.out.cell M.out.box HNE.out.2.2 HNE.out.1 HNE.out.2.1 0 _).cell (M.out.put 0 (.string x1)).box HNE.out.2.2 HNE.out.1 HNE.out.2.1 10 _).keep ((Below.refl _ _).drew); clear h0 hm2 hz1 hzv hx1 KS M2
          have q0 : 0 < m := hm1; have q1 : (0 : Int) < (m : Int) := (by omega); have q2 : (1 : Int) < (m : Int) + 1 := (by omega); have q3 : ¬ ((m : Int) + 1 <= 1) := (by omega); have q4 : ¬ ((m : Int) <= 0) := (by omega)
          go_upto_region 34 with fail
          go_region_held3 (fun W => W.cell? ⟨gw, 1, none⟩ = some (.string x1) /\ W.cell? ⟨gl, 0, none⟩ = some (.int .i64 v)) (first | exact ⟨hx0, hi0⟩ | exact ⟨k1 _, k2 _⟩ | exact ⟨k3 _ _, k4 _ _⟩) (fail)
          go_wp2
          go_roundw
          case rel => exact ⟨j + 1, by omega, by go_num, FF.out.bl, by rw [HMN.out, HX.out]; exact RP.out, FF.out.z, FF.out.hd, FF.out.ls, by show _ = _; rw [HMN.out]; exact HBN.out, fun h => absurd h (by omega)⟩
          case measure => simp [intOf]; omega
        ·as_aux_lemma =>
          have e0 : ((j : Int) == 0) = false := by rw [beq_eq_false_iff_ne]; omega
          have e1 : ((j : Int) == 1) = true := by simp [h1]
          have HX : Hid (stTo L (j + 1) = (st.1, zs, st.2.2)) := by
           show _ = _
           have hf : formN j = 0 := if_neg (by omega); rw [HST.out, HZS.out, hf]; unfold stepNm stepSh stepT; rw [if_neg (by omega), if_pos h1, if_neg (by omega), if_neg (by omega), if_neg (by omega), if_neg (by omega)]
          obtain ⟨Al, cl, hu⟩ : ∃ A c, u13 = .slice A zs.length c := by
           rcases OI.out.form with ⟨h1, h2⟩ | ⟨g, cap, h1, _⟩
           ·rw [h2]; exact ⟨_, _, h1⟩
           ·exact ⟨_, _, h1⟩
          subst hu; have c1 := M.out.box.cell 1; have f1 := M.out.box.frozen 1; simp only [tyW, List.getElem?_toArray, List.getElem?_cons_zero, List.getElem?_cons_succ] at c1; have RP : Hid (RPTy (wr.setCell ⟨g5, 1, none⟩ (.slice Al zs.length cl)) g5 st.1 zs st.2.2) := ⟨HD8.out, .slice Al zs.length cl, vq, vs, P, { M.out.put 1 (.slice Al zs.length cl) with shr := OI.out.intB.cell M.out.box (by decide) 1 _ }⟩; have FF : Hid (RF w (wr.setCell ⟨g5, 1, none⟩ (.slice Al zs.length cl)) g2 gH (.slice (some ⟨gL, 0, none⟩) (nD + 1) cL) (D ++ [c])) := F.out.cell M.out.box HNE.out.2.2 HNE.out.1 HNE.out.2.1 1 _; clear h1; go_wp2; go_roundw
          case rel => exact ⟨j + 1, by omega, by go_num, FF.out.bl, by rw [HMN.out, HX.out]; exact RP.out, FF.out.z, FF.out.hd, FF.out.ls, by show _ = _; rw [HMN.out]; exact HBN.out, fun h => absurd h (by omega)⟩
          case measure => simp [intOf]; omega
        ·as_aux_lemma =>
          have e0 : ((j : Int) == 0) = false := by rw [beq_eq_false_iff_ne]; omega
          have e1 : ((j : Int) == 1) = false := by rw [beq_eq_false_iff_ne]; omega
          have e2 : ((j : Int) == 2) = true := by simp [h2]
          have HX : Hid (stTo L (j + 1) = (st.1, st.2.1, { st.2.2 with direct := zs })) := by
           show _ = _
           have hf : formN j = 0 := if_neg (by omega); rw [HST.out, HZS.out, hf]; unfold stepNm stepSh stepT; rw [if_neg (by omega), if_neg (by omega), if_neg (by omega), if_pos h2]
          have hm8 : m = 8 := by
           have h1 := HRB.out.symm.trans HR0T.out; unfold rightB at h1; rw [HM.out, if_neg (by omega), if_pos h2] at h1
           simp at h1
           omega
          have hz8 : zs.length = 8 := by rw [HZL.out, HRL2.out, hm8, HFR.out]; unfold formN; rw [if_neg (by omega)]
          have HZ8 := lh hz8
          obtain ⟨gl, cl, hu⟩ : ∃ g c, u13 = .slice (some ⟨g, 0, none⟩) 8 c := by
           rcases OI.out.form with ⟨h1, h2⟩ | ⟨g, cap, h1, _⟩
           ·rw [h2] at hz8; simp at hz8
           ·rw [hz8] at h1; exact ⟨_, _, h1⟩
          subst hu; have RM0 : Hid (RMem wr g5 (tyW st.1 va { st.2.2 with direct := dirTo zs st.2.2.direct 0 } vq vs) va vq vs st.2.1 st.2.2.squares st.2.2.sets P) := M.out; obtain ⟨w0_, hw0_⟩ : ∃ W, W = wc.heap.size := ⟨_, rfl⟩; rw [<- hw0_] at OI; clear h2 hm8 hz8 hw0_; go_wp2
          go_loopw [17] (fun k wx => ∃ i : Nat, i <= 8 /\ k = .int .i64 i /\ Hid (RMem wx g5 (tyW st.1 va { st.2.2 with direct := dirTo zs st.2.2.direct i } vq vs) va vq vs st.2.1 st.2.2.squares st.2.2.sets P) /\ Hid (RF w wx g2 gH (.slice (some ⟨gL, 0, none⟩) (nD + 1) cL) (D ++ [c])) /\ Hid (OwnI wx w0_ (.slice (some ⟨gl, 0, none⟩) 8 cl) zs)) (fun k _ => 8 - (intOf k).toNat)
          case atStart => exact ⟨0, Nat.zero_le _, rfl, RM0, F, OI⟩
          case round =>
           clear RM0 F OI M HP6; obtain ⟨i, hi, hki, RMi, Fi, OIi⟩ := hrel; subst hki
           rename_i wi
           by_cases hlt : i < 8
           ·obtain ⟨z, hzz⟩ : ∃ z, z = zs.getD i 0 := ⟨_, rfl⟩; have ci := OIi.out.parts.2.2.1 i hlt; rw [<- hzz] at ci; have cb := RMi.out.box.cell (2 + i); have fb := RMi.out.box.frozen (2 + i)
            have hsm : ∃ y, (tyW st.1 va { st.2.2 with direct := dirTo zs st.2.2.direct i } vq vs)[2 + i]? = some y := by
             rw [Array.getElem?_eq_getElem (by simp [tyW]; omega)]; exact ⟨_, rfl⟩
            obtain ⟨y, hy⟩ := hsm; rw [hy] at cb
            have RMn := (fun W (h : RMem W g5 (tyW st.1 va { st.2.2 with direct := dirTo zs st.2.2.direct i } vq vs) va vq vs st.2.1 st.2.2.squares st.2.2.sets P) => (show Hid (RMem (W.setCell ⟨g5, 2 + i, none⟩ (.int .i64 z)) g5 (tyW st.1 va { st.2.2 with direct := dirTo zs st.2.2.direct (i + 1) } vq vs) va vq vs st.2.1 st.2.2.squares st.2.2.sets P) from by
             show RMem _ _ _ _ _ _ _ _ _ _
             have h1 := h.put (2 + i) (.int .i64 z); rw [tyW_dir (T := { st.2.2 with direct := dirTo zs st.2.2.direct i }) (by show (dirTo _ _ _).length = 8; rw [dirTo_len]; exact HD8.out) hlt z] at h1; rw [hzz] at h1 ⊢; exact h1)) _ RMi.out
            have Fn := lh (Fi.out.cell RMi.out.box HNE.out.2.2 HNE.out.1 HNE.out.2.1 (2 + i) (.int .i64 z)); have On := lh (row_cell OIi.out RMi.out.box (by decide) (2 + i) (.int .i64 z)); have HFR2 : ((2 : Int) + (i : Int)).toNat = 2 + i := by omega
            clear hzz hy RMi Fi OIi; go_wp2; go_roundw
            case rel => exact ⟨i + 1, by omega, by go_num, RMn, Fn, On⟩
            case measure => simp [intOf]; omega
           ·obtain rfl : i = 8 := by omega
            have RP := (fun W (h : RMem W g5 (tyW st.1 va { st.2.2 with direct := dirTo zs st.2.2.direct 8 } vq vs) va vq vs st.2.1 st.2.2.squares st.2.2.sets P) => (show Hid (RPTy W g5 st.1 st.2.1 { st.2.2 with direct := zs }) from by
             have h1 := h; rw [dirTo_8 HZ8.out HD8.out] at h1; exact ⟨HZ8.out, va, vq, vs, P, h1⟩)) _ RMi.out
            have FF := Fi; clear RMi OIi; go_wp2; go_roundw
            case rel => exact ⟨j + 1, by omega, by go_num, FF.out.bl, by rw [HMN.out, HX.out]; exact RP.out, FF.out.z, FF.out.hd, FF.out.ls, by show _ = _; rw [HMN.out]; exact HBN.out, fun h => absurd h (by omega)⟩
            case measure => simp [intOf]; omega
        ·as_aux_lemma =>
          have e0 : ((j : Int) == 0) = false := by rw [beq_eq_false_iff_ne]; omega
          have e1 : ((j : Int) == 1) = false := by rw [beq_eq_false_iff_ne]; omega
          have e2 : ((j : Int) == 2) = false := by rw [beq_eq_false_iff_ne]; omega
          have e3 : ((j : Int) == 3) = true := by simp [h3]
          have HX : Hid (stTo L (j + 1) = (st.1, st.2.1, { st.2.2 with squares := zs })) := by
           show _ = _
           have hf : formN j = 0 := if_neg (by omega); rw [HST.out, HZS.out, hf]; unfold stepNm stepSh stepT; rw [if_neg (by omega), if_neg (by omega), if_neg (by omega), if_neg (by omega), if_pos h3]
          obtain ⟨Al, cl, hu⟩ : ∃ A c, u13 = .slice A zs.length c := by
           rcases OI.out.form with ⟨h1, h2⟩ | ⟨g, cap, h1, _⟩
           ·rw [h2]; exact ⟨_, _, h1⟩
           ·exact ⟨_, _, h1⟩
          subst hu; have c11 := M.out.box.cell 11; have f11 := M.out.box.frozen 11; simp only [tyW, List.getElem?_toArray, List.getElem?_cons_zero, List.getElem?_cons_succ] at c11; have RP : Hid (RPTy (wr.setCell ⟨g5, 11, none⟩ (.slice Al zs.length cl)) g5 st.1 st.2.1 { st.2.2 with squares := zs }) := ⟨HD8.out, va, .slice Al zs.length cl, vs, P, { M.out.put 11 (.slice Al zs.length cl) with sqr := OI.out.intB.cell M.out.box (by decide) 11 _ }⟩; have FF : Hid (RF w (wr.setCell ⟨g5, 11, none⟩ (.slice Al zs.length cl)) g2 gH (.slice (some ⟨gL, 0, none⟩) (nD + 1) cL) (D ++ [c])) := F.out.cell M.out.box HNE.out.2.2 HNE.out.1 HNE.out.2.1 11 _; clear h3; go_wp2; go_roundw
          case rel => exact ⟨j + 1, by omega, by go_num, FF.out.bl, by rw [HMN.out, HX.out]; exact RP.out, FF.out.z, FF.out.hd, FF.out.ls, by show _ = _; rw [HMN.out]; exact HBN.out, fun h => absurd h (by omega)⟩
          case measure => simp [intOf]; omega
        ·have e0 : ((j : Int) == 0) = false := by rw [beq_eq_false_iff_ne]; omega
         have e1 : ((j : Int) == 1) = false := by rw [beq_eq_false_iff_ne]; omega
         have e2 : ((j : Int) == 2) = false := by rw [beq_eq_false_iff_ne]; omega
         have e3 : ((j : Int) == 3) = false := by rw [beq_eq_false_iff_ne]; omega
         have HX : Hid (stTo L (j + 1) = (st.1, st.2.1, { st.2.2 with sets := st.2.2.sets ++ [(zs.headD 0, zs.tail)] })) := by
          show _ = _
          have hf : formN j = 0 := if_neg (by omega); rw [HST.out, HZS.out, hf]; unfold stepNm stepSh stepT; rw [if_neg (by omega), if_neg (by omega), if_neg (by omega), if_neg (by omega), if_neg (by omega), if_pos (by omega)]
         have hm1 : 1 < m + 1 := by
          have h1 := HRB.out.symm.trans HR0T.out; unfold rightB at h1; rw [HM.out, if_neg (by omega), if_neg (by omega), if_pos (by omega)] at h1
          simp at h1
          omega
         have hzl : zs.length = m := by rw [HZL.out, HRL2.out, HFR.out]; unfold formN; rw [if_neg (by omega)]; omega
         obtain ⟨p, ys, hzv⟩ : ∃ p ys, zs = p :: ys := by
          cases zs with
          | nil => simp at hzl; omega
          | cons p ys => exact ⟨p, ys, rfl⟩
         subst hzv; obtain ⟨q, hq⟩ : ∃ q, ys.length = q := ⟨_, rfl⟩; have hq9 : q + 1 = m := by rw [<- hq]; simpa using hzl
         obtain ⟨gl, cl, hu⟩ : ∃ g c, u13 = .slice (some ⟨g, 0, none⟩) (q + 1) c := by
          rcases OI.out.form with ⟨h1, h2⟩ | ⟨g, cap, h1, _⟩
          ·cases h2
          ·exact ⟨_, _, by rw [h1, List.length_cons, hq]⟩
         subst hu
         have hcap : q + 1 <= cl := by
          rcases OI.out.2 with ⟨h1, _⟩ | ⟨g, cap, cur, h1, _, _, hnc, _⟩
          ·cases h1
          ·injection h1 with _ _ h2; rw [h2]; simpa [hq] using hnc
         obtain ⟨A6, hA6⟩ : ∃ A : Option Addr, A = if cl = 1 then some ⟨gl, 0, none⟩ else some ⟨gl, 1, none⟩ := ⟨_, rfl⟩
         have IBT : Hid (∀ W, Ext wr W -> IntB W (.slice A6 q (cl - 1)) ys) := fun W hE => by
          have h1 := intB_tail (OI.out.below hE) A6 (cl - 1) (fun hp => by rw [hA6, if_neg (by omega)])
          rwa [hq] at h1
         have HA6 := lh hA6; have CP : Hid (∀ W, Ext wr W -> W.cell? ⟨gl, 0, none⟩ = some (.int .i64 p)) := fun W hE => (OI.out.below hE).parts.2.2.1 0 (by omega)
         have C12 : Hid (∀ W, Ext wr W -> W.cell? ⟨g5, 12, none⟩ = some vs) := fun W hE => (M.out.box.below hE).cell 12
         have HSL : Hid (st.2.2.sets.length <= 100000) := by show _ <= _; have := stTo_sets L j; rw [<- HSTJ.out] at this; have := HJN.out; omega
         have HG5R : Hid (g5 < wr.heap.size) := lt_of_block M.out.box; have HCP := lh hcap; clear hm1 hzl hq hq9 hA6 hj4
         go_upto_region 44 with fail
         refine wp_region_grow 9 (by kernel_rfl) (by kernel_rfl) [GR.eq (.pointer (some ⟨g5, 12, none⟩)), GR.eq (vs), GR.eq (.slice (some ⟨gl, 0, none⟩) (q + 1) cl), GR.eq (.pointer (some ⟨gl, 0, none⟩)), GR.eq (.int .i64 p), GR.eq (.slice (some ⟨gl, 0, none⟩) (q + 1) cl), GR.eq (.slice A6 q (cl - 1)), GR.eq (.agg #[.int .i64 p, .slice A6 q (cl - 1)]), GR.rowT 1 145 #[.int .i64 p, .slice A6 q (cl - 1)]] 181 rfl (by kernel_rfl) ?_ ?_
         ·refine ⟨?_, ?_, ?_, ?_, ?_, ?_, ?_, ?_, ?_, trivial⟩
          ·intro a W hE hd ho; have e5 : a.tmps[5]?.getD undef = .pointer (some ⟨g5, 0, none⟩) := ho 5 (by kernel_rfl); exact gs_same (v := .pointer (some ⟨g5, 12, none⟩)) (by go_simp) rfl
          ·intro a W hE hd ho; have e150 : a.tmps[150]?.getD undef = .pointer (some ⟨g5, 12, none⟩) := hd 0 150 (by kernel_rfl) (by kernel_rfl); have c12 := C12.out W hE; exact gs_same (v := vs) (by go_simp) rfl
          ·intro a W hE hd ho; have e13 : a.tmps[13]?.getD undef = .slice (some ⟨gl, 0, none⟩) (q + 1) cl := ho 13 (by kernel_rfl); exact gs_same (v := .slice (some ⟨gl, 0, none⟩) (q + 1) cl) (by go_simp) rfl
          ·intro a W hE hd ho; have e152 : a.tmps[152]?.getD undef = .slice (some ⟨gl, 0, none⟩) (q + 1) cl := hd 2 152 (by kernel_rfl) (by kernel_rfl); exact gs_same (v := .pointer (some ⟨gl, 0, none⟩)) (by go_simp) rfl
          ·intro a W hE hd ho; have e153 : a.tmps[153]?.getD undef = .pointer (some ⟨gl, 0, none⟩) := hd 3 153 (by kernel_rfl) (by kernel_rfl); have cp := CP.out W hE; exact gs_same (v := .int .i64 p) (by go_simp) rfl
          ·intro a W hE hd ho; have e13 : a.tmps[13]?.getD undef = .slice (some ⟨gl, 0, none⟩) (q + 1) cl := ho 13 (by kernel_rfl); exact gs_same (v := .slice (some ⟨gl, 0, none⟩) (q + 1) cl) (by go_simp) rfl
          ·intro a W hE hd ho; have e155 : a.tmps[155]?.getD undef = .slice (some ⟨gl, 0, none⟩) (q + 1) cl := hd 5 155 (by kernel_rfl) (by kernel_rfl); refine gs_same (v := .slice A6 q (cl - 1)) ?_ rfl; have hcp := HCP.out
           by_cases h1 : cl = 1
           ·have hA : A6 = some ⟨gl, 0, none⟩ := by rw [HA6.out, if_pos h1]
            have hq0 : q = 0 := by omega
            subst h1 hq0; rw [hA]
            go_simp
           ·have hA : A6 = some ⟨gl, 1, none⟩ := by rw [HA6.out, if_neg h1]
            rw [hA]; have h1q : (1 : Int) <= (q : Int) + 1 := by omega
            have hcl : ¬ (cl : Int) - 1 = 0 := by omega
            go_simp
          ·intro a W hE hd ho; have e154 : a.tmps[154]?.getD undef = .int .i64 p := hd 4 154 (by kernel_rfl) (by kernel_rfl); have e156 : a.tmps[156]?.getD undef = .slice A6 q (cl - 1) := hd 6 156 (by kernel_rfl) (by kernel_rfl); exact gs_same (v := .agg #[.int .i64 p, .slice A6 q (cl - 1)]) (by go_simp) rfl
          ·intro a W hE hd ho; have e157 : a.tmps[157]?.getD undef = .agg #[.int .i64 p, .slice A6 q (cl - 1)] := hd 7 157 (by kernel_rfl) (by kernel_rfl); refine gs_val (v := .slice (some ⟨W.heap.size, 0, none⟩) 1 1) (W' := W.alloc (.cells #[.int .i64 p, .slice A6 q (cl - 1)] 145)) (by go_simp) ((Below.refl _ _).alloc (Nat.le_refl _) _) ⟨W.heap.size, rfl, Blk.new _ _ _⟩
         intro vv w6 hE hR; have y0 : vv 0 = .pointer (some ⟨g5, 12, none⟩) := hR 0 (by omega); have y1 : vv 1 = vs := hR 1 (by omega); have y2 : vv 2 = .slice (some ⟨gl, 0, none⟩) (q + 1) cl := hR 2 (by omega); have y3 : vv 3 = .pointer (some ⟨gl, 0, none⟩) := hR 3 (by omega); have y4 : vv 4 = .int .i64 p := hR 4 (by omega); have y5 : vv 5 = .slice (some ⟨gl, 0, none⟩) (q + 1) cl := hR 5 (by omega); have y6 : vv 6 = .slice A6 q (cl - 1) := hR 6 (by omega); have y7 : vv 7 = .agg #[.int .i64 p, .slice A6 q (cl - 1)] := hR 7 (by omega); obtain ⟨gN, y8, BN⟩ : ∃ g, vv 8 = .slice (some ⟨g, 0, none⟩) 1 1 /\ Blk w6 g 145 #[.int .i64 p, .slice A6 q (cl - 1)] := hR 8 (by omega); simp only [List.range, List.range.loop, List.foldl_cons, List.foldl_nil, y0, y1, y2, y3, y4, y5, y6, y7, y8, List.drop_succ_cons, List.drop_zero]; simp only [dstAt, List.getElem?_toArray, List.getElem?_cons_zero, List.getElem?_cons_succ, Option.bind_some, Act.put, List.setIfInBounds_toArray, List.set_cons_zero, List.set_cons_succ]
         clear y0 y1 y2 y3 y4 y5 y6 y7 y8 hR; have M6 := lh (M.out.keep hE); have F6 := lh (F.out.keep hE); have IB6 := IBT.out w6 hE; have HIB := lh IB6; have hs6 : g5 <= w6.heap.size := Nat.le_trans (Nat.le_of_lt HG5R.out) hE.size
         have HBN2 : Hid (∀ (j : Nat) (u : Value), ([.int .i64 p, .slice A6 q (cl - 1)] : List Value)[j]? = some u -> w6.cell? ((⟨gN, 0, none⟩ : Addr).add j) = some u) := fun j u hu => by
          rw [addAddr, Nat.zero_add, BN.cell j]
          simpa using hu
         obtain ⟨iS, hiS, hzS, hsS, hbS⟩ := info_parts infoSetR; clear hE BN IB6 IBT CP C12; refine wpList_append_own _ rfl _ _ 24 rfl g5 145 iS (.agg #[.int .i64 0, .slice none 0 0]) 2 32 Tryz.underlying24 hiS hzS hsS hbS rfl (by decide) vs st.2.2.sets.length (stCells P) rfl M6.out.row ⟨gN, 0, none⟩ 1 1 [.int .i64 p, .slice A6 q (cl - 1)] rfl rfl HBN2.out (by simp [Value.oneCell']) (by have := HSL.out; unfold maxLen; omega) (by have := HSL.out; omega) hs6 ?_; intro v' w7 hown hgrow _; obtain ⟨g7, c7, rfl⟩ := own_shapeG hown; have M7 := lh (M6.out.grow hown hgrow HIB.out); have F7 := lh (F6.out.grow M6.out.row hgrow HNE.out.2.2); have c12 := M7.out.box.cell 12; have f12 := M7.out.box.frozen 12; simp only [tyW, List.getElem?_toArray, List.getElem?_cons_zero, List.getElem?_cons_succ] at c12; have RP : Hid (RPTy (w7.setCell ⟨g5, 12, none⟩ (.slice (some ⟨g7, 0, none⟩) (st.2.2.sets.length + 1) c7)) g5 st.1 st.2.1 { st.2.2 with sets := st.2.2.sets ++ [((p :: ys).headD 0, (p :: ys).tail)] }) := ⟨HD8.out, va, vq, _, _, M7.out.put 12 (.slice (some ⟨g7, 0, none⟩) (st.2.2.sets.length + 1) c7)⟩
         have FF : Hid (RF w (w7.setCell ⟨g5, 12, none⟩ (.slice (some ⟨g7, 0, none⟩) (st.2.2.sets.length + 1) c7)) g2 gH (.slice (some ⟨gL, 0, none⟩) (nD + 1) cL) (D ++ [c])) := F7.out.cell M7.out.box HNE.out.2.2 HNE.out.1 HNE.out.2.1 12 _; clear hown hgrow M7 F7 M6 F6; go_wp2; go_roundw
         case rel => exact ⟨j + 1, by omega, by go_num, FF.out.bl, by rw [HMN.out, HX.out]; exact RP.out, FF.out.z, FF.out.hd, FF.out.ls, by show _ = _; rw [HMN.out]; exact HBN.out, fun h => absurd h (by omega)⟩
         case measure => simp [intOf]; omega
   ·as_aux_lemma =>
     obtain rfl : nD = j := hjn.symm; have hmin : min nD nD = nD := Nat.min_self _; rw [hmin] at HP HBD
     have cc : wr.cell? ⟨gL, nD, none⟩ = some (.string c) := by
      have h0 : wr.ownsRow 0 9 1 (.slice (some ⟨gL, 0, none⟩) (nD + 1) cL) (nD + 1) ((D ++ [c]).map Value.string) := by
       have := OL.out; unfold OwnS at this
       rwa [List.length_append, <- HND.out] at this
      rw [World.ownsRow.cellAt h0 nD (by omega), List.getElem?_map, List.getElem?_append_right (by rw [<- HND.out]; exact Nat.le_refl _), <- HND.out, Nat.sub_self]
      rfl
     have HBW : Hid (Below w.heap.size w wr) := HBr; clear hjn hmin HCE hj
     by_cases hcz : c.data.toList = []
     ·have hce : c.toList = [] := HCT.out.trans hcz; have hcI : c.toList.isEmpty = true := by rw [hce]; rfl
      have HCZ : Hid (c.data.toList = []) := hcz; have HM1 : Hid (min (nD + 1) nD = nD) := Nat.min_eq_right (Nat.le_succ _); clear hcz; go_wp2; go_roundw
      case rel => exact ⟨nD + 1, Nat.le_refl _, by go_num, HBr, by rw [HM1.out]; exact HP, R2, RH, OL, by show _ = _; rw [HM1.out]; exact HBD.out, fun _ => HCZ.out⟩
      case measure => simp [intOf]
     ·have hce : c.toList.isEmpty = false := by rw [HCT.out]; cases h : c.data.toList with
       | nil => exact absurd h hcz
       | cons _ _ => rfl
      have hcn : ¬ c.toList = [] := fun h => hcz (HCT.out.symm.trans h)
      have HLL : Hid (L.getD nD ⟨#[]⟩ = c /\ nD < L.length) := by
       show _ /\ _
       rw [HLD.out, if_neg hcz, List.getD_eq_getElem?_getD, List.getElem?_append_right (by rw [List.length_map, <- HND.out]; exact Nat.le_refl _), List.length_map, <- HND.out, Nat.sub_self]; refine ⟨rfl, ?_⟩; rw [List.length_append, List.length_map, <- HND.out]
       simp
      have HOKF : Hid (badG L 0 = nD) := by
       show _ = _
       rw [HBD.out]; exact badG_stop HLL.out.2 (by rw [HLL.out.1]; exact HCB.out nD hcz)
      clear hcz
      have HE : Hid (parseE s = 25) := by
       show _ = _
       unfold parseE; rw [if_neg HL0.out, <- HL.out, HOKF.out, if_pos HLL.out.2]
      have HN : Hid ((parseN s : Int) = nD) := by
       show _ = _
       unfold parseN; rw [if_neg HL0.out, <- HL.out, HOKF.out, if_pos HLL.out.2]
      have HS : Hid (parseS s = zeroS) := by show _ = _; unfold parseS; rw [HE.out]; exact if_neg (by decide)
      go_wp2_with (refine wpList_store_row rfl 26 _ _ rfl g2 ZC rfl (by rw [HZ.out]; rfl) 26 _ R2.out IZ.out (by rw [HZ.out]) OZ.out ?_)
      have HLV := LZ.out _ _ R2.out; refine bodyPost_ret (v := .tuple #[.agg ZC, .int .i64 nD, .int .i64 25]) (by simp [results, Tryz.results76, asAddr, HLV]) rfl ?_; refine ⟨(HBW.out).setRow' HG2.out _, ZC, none, 0, 0, none, 0, 0, none, 0, 0, by rw [HN.out, HE.out], ?_⟩; rw [HS.out, HZ.out]; exact rtyZero _
   ·as_aux_lemma =>
     obtain rfl : j = nD + 1 := by omega
     have hmin : min (nD + 1) nD = nD := Nat.min_eq_right (Nat.le_succ _); rw [hmin] at HP HBD; have hcz := HCE.out (Nat.lt_succ_self _); have HLN : Hid (L.length = nD) := by show _ = _; rw [HLD.out, if_pos hcz, List.append_nil, List.length_map, HND.out]
     have HBE : Hid (badG L 0 = L.length) := by show _ = _; rw [HBD.out]; exact badG_end (by rw [HLN.out]; omega)
     have HBW : Hid (Below w.heap.size w wr) := HBr; clear hmin hcz HCE hgt hj HBD
     by_cases h4 : nD < 4
     ·have t4 : decide ((nD : Int) < 4) = true := by simp; omega
      have HE : Hid (parseE s = 25) := by
       show _ = _
       unfold parseE; rw [if_neg HL0.out, <- HL.out, HBE.out, if_neg (by omega), if_pos (by rw [HLN.out]; exact h4)]
      have HN : Hid ((parseN s : Int) = nD) := by
       show _ = _
       unfold parseN; rw [HE.out, if_neg HL0.out, <- HL.out, HBE.out, if_neg (by omega), if_neg (by decide), HLN.out]
      have HS : Hid (parseS s = zeroS) := by show _ = _; unfold parseS; rw [HE.out]; exact if_neg (by decide)
      go_wp2_with (refine wpList_store_row rfl 26 _ _ rfl g2 ZC rfl (by rw [HZ.out]; rfl) 26 _ R2.out IZ.out (by rw [HZ.out]) OZ.out ?_)
      have HLV := LZ.out _ _ R2.out; refine bodyPost_ret (v := .tuple #[.agg ZC, .int .i64 nD, .int .i64 25]) (by simp [results, Tryz.results76, asAddr, HLV]) rfl ?_; refine ⟨(HBW.out).setRow' HG2.out _, ZC, none, 0, 0, none, 0, 0, none, 0, 0, by rw [HN.out, HE.out], ?_⟩; rw [HS.out, HZ.out]; exact rtyZero _
     ·have t4 : decide ((nD : Int) < 4) = false := by simp; omega
      have H4 : Hid (¬ nD < 4) := h4; obtain ⟨st, hst⟩ : ∃ st, st = stTo L nD := ⟨_, rfl⟩; rw [<- hst] at HP; have HST : Hid (st = stTo (linesB s) (linesB s).length) := by show _ = _; rw [hst, <- HL.out, HLN.out]
      have hsl : st.2.2.sets.length <= 4096 := by have := stTo_sets L nD; rw [hst]; omega
      obtain ⟨E, hE⟩ : ∃ E, E = Bell.tyE (nameE st.1) st.2.1 st.2.2 := ⟨_, rfl⟩
      have HEE : Hid (parseE s = E) := by
       show _ = _
       unfold parseE; rw [if_neg HL0.out, <- HL.out, if_neg (by rw [HBE.out]; omega), if_neg (by rw [HLN.out]; exact H4.out), hE, hst, HLN.out]
      obtain ⟨hd8, va, vq, vs, P, hm⟩ := HP.out; obtain ⟨sa, sc, qa, qc, ga, gc, rfl, rfl, rfl⟩ := rm_shape hm; obtain ⟨cs, hcs⟩ : ∃ cs, cs = tyW st.1 (.slice sa st.2.1.length sc) st.2.2 (.slice qa st.2.2.squares.length qc) (.slice ga st.2.2.sets.length gc) := ⟨_, rfl⟩; rw [<- hcs] at hm; have hR := rm_rty hm hcs; have IC : Hid ((Tryz.prog.info? 26).map (·.size) = some cs.size) := by show _ = _; rw [hcs]; kernel_rfl
      have HCS : Hid (cs.size = 13 /\ cs.all (·.oneCell') = true) := ⟨by rw [hcs]; rfl, by rw [hcs]; simp [tyW, Value.oneCell']⟩; have HM := lh hm; have HR := lh hR; have HCC := lh hcs; have hbd : BdS st := by rw [hst]; exact stTo_bd L HLS.out nD
      have HCK := fun W (h : RTy W cs st.1 st.2.1 st.2.2 sa st.2.1.length sc qa st.2.2.squares.length qc ga st.2.2.sets.length gc) => lh (refType_big W h hd8 ⟨hbd.1, hbd.2.1, hbd.2.2.1, by omega, fun k hk => hbd.2.2.2 k hk⟩)
      rw [<- hE] at HCK; have HNE : Hid (g5 ≠ g2) := by show _ ≠ _; have h1 := HG5.out.2; omega
      clear hst hsl hE hm hR hcs hd8 HP h4 hbd
      go_wp2_with (refine wpList_load_row rfl 26 _ rfl g5 rfl 26 cs (0, 0) _ HM.out.box Tryz.underlying26 rfl IC.out ?_)
      refine (HCK _ HR.out).out.mono ?_; rintro e w5 ⟨rfl, hb5⟩; have HBX : Hid (Below w.heap.size w w5) := HBW.out.trans (hb5.mono HBW.out.size); have R2 := lh (R2.out.below hb5); have HM5 := lh (HM.out.keep hb5); clear hb5 HCK HBW
      by_cases hz : E = 0
      ·subst hz; have HS : Hid (parseS s = st) := by show _ = _; unfold parseS; rw [if_pos HEE.out, HST.out]
       have HN : Hid (parseN s = 0) := by
        show _ = _
        unfold parseN; rw [if_neg HL0.out, <- HL.out, if_neg (by rw [HBE.out]; omega), if_pos HEE.out]
       go_wp2_with (first | (refine wpList_load_row rfl 26 _ rfl g5 rfl 26 cs (0, 0) _ HM5.out.box Tryz.underlying26 rfl IC.out ?_) | (refine wpList_store_row rfl 26 _ _ rfl g2 cs rfl rfl 26 _ R2.out IC.out (by rw [HCS.out.1]; rfl) HCS.out.2 ?_))
       have HLV := (R2.out.setRow cs).lv Tryz.prog (T := 26) Tryz.underlying26 rfl IC.out; refine bodyPost_ret (v := .tuple #[.agg cs, .int .i64 0, .int .i64 0]) (by simp [results, Tryz.results76, asAddr, HLV]) rfl ?_; refine ⟨HBX.out.setRow' HG2.out _, cs, sa, st.2.1.length, sc, qa, st.2.2.squares.length, qc, ga, st.2.2.sets.length, gc, by rw [HN.out, HEE.out]; rfl, ?_⟩; rw [HS.out]; exact rm_rty (HM5.out.in_row R2.out HNE.out cs) HCC.out
      ·have hz2 : (E != 0) = true := by simp [hz]
       have HEZ : Hid (E ≠ 0) := hz
       have HE : Hid (parseE s = E) := by
        show _ = _
        exact HEE.out
       have HN : Hid ((parseN s : Int) = nD) := by
        show _ = _
        unfold parseN; rw [if_neg HL0.out, <- HL.out, if_neg (by rw [HBE.out]; omega), if_neg (by rw [HE.out]; exact HEZ.out), HLN.out]
       have HS : Hid (parseS s = zeroS) := by show _ = _; unfold parseS; rw [HE.out]; exact if_neg (by exact HEZ.out)
       go_wp2_with (refine wpList_store_row rfl 26 _ _ rfl g2 ZC rfl (by rw [HZ.out]; rfl) 26 _ R2.out IZ.out (by rw [HZ.out]) OZ.out ?_)
       have HLV := LZ.out _ _ R2.out; refine bodyPost_ret (v := .tuple #[.agg ZC, .int .i64 nD, .int .i64 E]) (by simp [results, Tryz.results76, asAddr, HLV]) rfl ?_; refine ⟨(HBX.out).setRow' HG2.out _, ZC, none, 0, 0, none, 0, 0, none, 0, 0, by rw [HN.out, HE.out], ?_⟩; rw [HS.out, HZ.out]; exact rtyZero _
end Go.Proofs.YtmafmebcgmegeaaGreatDoor
