/- Part. -/
import Derived.Test.YtmafmebcgmegeaaGreatDoorGz1
import Derived.Test.YtmafmebcgmegeaaGreatDoorGz36
import Derived.Test.YtmafmebcgmegeaaGreatDoorGz20
import Derived.Test.YtmafmebcgmegeaaGreatDoorGz21
import Derived.Test.YtmafmebcgmegeaaGreatDoorGz34
namespace Go.Proofs.YtmafmebcgmegeaaGreatDoor
open Go.RowKit Go.Sort
structure TyAny (w : World) (cs : Array Value) (nm : ByteArray) (sh : List Int) (T : Bell.Ty) (sa : Option Addr) (sn sc : Nat) (qa : Option Addr) (qn qc : Nat) (ga : Option Addr) (gn gc : Nat) : Prop where
 rty : RTy w cs nm sh T sa sn sc qa qn qc ga gn gc
 d8 : T.direct.length = 8
 nsz : nm.size <= 140737488351232
 ssz : sn <= 140737488351232
 qsz : qn <= 140737488351232
 cap : qn <= qc /\ qc <= 9223372036854775807
 esz : ∀ k, k < gn -> ((T.sets.getD k (0, [])).2).length <= 140737488351232
theorem TyAny.keep {w w' : World} {cs : Array Value} {nm : ByteArray} {sh : List Int} {T : Bell.Ty} {sa qa ga : Option Addr} {sn sc qn qc gn gc : Nat} (h : TyAny w cs nm sh T sa sn sc qa qn qc ga gn gc) (hb : Below w.heap.size w w') : TyAny w' cs nm sh T sa sn sc qa qn qc ga gn gc :=
 ⟨h.rty.keep hb, h.d8, h.nsz, h.ssz, h.qsz, h.cap, h.esz⟩
theorem TyAny.info {w : World} {cs : Array Value} {nm : ByteArray} {sh : List Int} {T : Bell.Ty} {sa qa ga : Option Addr} {sn sc qn qc gn gc : Nat} (h : TyAny w cs nm sh T sa sn sc qa qn qc ga gn gc) : (Tryz.prog.info? 42).map (·.size) = some cs.size := by rw [h.rty.cells]; kernel_rfl
theorem TyAny.check {w : World} {cs : Array Value} {nm : ByteArray} {sh : List Int} {T : Bell.Ty} {sa qa ga : Option Addr} {sn sc qn qc gn gc : Nat} (h : TyAny w cs nm sh T sa sn sc qa qn qc ga gn gc) :
  Calls Tryz.prog 32 #[.agg cs] w fun e w' => e = .returned (.int .i64 (Bell.tyE (nameE nm) sh T)) /\ Below w.heap.size w w' :=
 CheckType_any w h.rty h.d8 h.nsz h.ssz h.qsz h.cap h.esz
theorem nameE_zero {s : ByteArray} (h : nameE s = 0) : nameB s = true := by
 unfold nameE at h
 split at h
 ·assumption
 ·omega
theorem tyE_split {e : Int} {sh : List Int} {T : Bell.Ty} (h : Bell.tyE e sh T = 0) : e = 0 /\ Bell.tyE 0 sh T = 0 := by
 have h1 := h; unfold Bell.tyE at h1; rw [Bell.thenE_zero, Bell.firstE_zero] at h1; obtain rfl := h1.1 e (by simp); exact ⟨rfl, h⟩
theorem TyAny.ok {w : World} {cs : Array Value} {nm : ByteArray} {sh : List Int} {T : Bell.Ty} {sa qa ga : Option Addr} {sn sc qn qc gn gc : Nat} (h : TyAny w cs nm sh T sa sn sc qa qn qc ga gn gc) (h0 : Bell.tyE (nameE nm) sh T = 0) : ∃ qb qo gb go, qa = some ⟨qb, qo, none⟩ /\ ga = some ⟨gb, go, none⟩ /\ TyOk w cs nm sh T sa sn sc qb qo qn qc gb go gn gc := by
 obtain ⟨e1, e2⟩ := tyE_split h0; have hG : GoodT sh T := ⟨h.d8, e2⟩; obtain ⟨⟨c1, c2⟩, c3, c4⟩ := hG.cnt; obtain ⟨qb, qo, rfl, hq⟩ := h.rty.squares.2 (by rw [<- h.rty.squares.1]; exact c3); obtain ⟨gb, go, rfl, hs⟩ := h.rty.sets.2 (by rw [<- h.rty.sets.1]; exact c1); exact ⟨qb, qo, gb, go, rfl, rfl, ⟨h.rty.cells, h.rty.shares, h.rty.squares, hs⟩, hG, nameE_zero e1, h.nsz, h.cap⟩
def zeroS : ByteArray × List Int × Bell.Ty := (⟨#[]⟩, [], ⟨List.replicate 8 0, 0, [], []⟩)
def stTo (L : List ByteArray) : Nat -> ByteArray × List Int × Bell.Ty
 | 0 => zeroS
 | j + 1 => (stepNm j (L.getD j ⟨#[]⟩) (stTo L j).1, stepSh j (L.getD j ⟨#[]⟩) (stTo L j).2.1, stepT j (L.getD j ⟨#[]⟩) (stTo L j).2.2)
theorem stTo_sets (L : List ByteArray) : ∀ j, ((stTo L j).2.2).sets.length <= j
 | 0 => by simp [stTo, zeroS]
 | j + 1 => by
   have h := stTo_sets L j
   show (stepT j _ _).sets.length <= _
   unfold stepT
   split
   ·show (stTo L j).2.2.sets.length <= _; omega
   split
   ·show (stTo L j).2.2.sets.length <= _; omega
   split
   ·show (stTo L j).2.2.sets.length <= _; omega
   split
   ·show ((stTo L j).2.2.sets ++ _).length <= _
    simp
    exact h
   ·omega
theorem word_le (s : ByteArray) : ((wordF 1 s).headD ⟨#[]⟩).size <= s.size := by
 unfold wordF
 cases h : ((wordsL s).tail.take 1) with
 | nil => exact Nat.zero_le _
 | cons x l =>
   have h1 : x ∈ (wordsL s).tail.take 1 := by rw [h]; exact List.mem_cons_self
   exact wordsL_size s x (List.mem_of_mem_tail (List.mem_of_mem_take h1))
def BdS (st : ByteArray × List Int × Bell.Ty) : Prop := st.1.size <= 100000 /\ st.2.1.length <= 100000 /\ st.2.2.squares.length <= 100000 /\ ∀ k, k < st.2.2.sets.length -> ((st.2.2.sets.getD k (0, [])).2).length <= 100000
theorem stTo_bd (L : List ByteArray) (hL : ∀ x ∈ L, x.size <= 4096) : ∀ j, BdS (stTo L j)
 | 0 => ⟨Nat.zero_le _, Nat.zero_le _, Nat.zero_le _, fun k hk => absurd hk (by simp [stTo, zeroS])⟩
 | j + 1 => by
   obtain ⟨h1, h2, h3, h4⟩ := stTo_bd L hL j
   have hs : (L.getD j ⟨#[]⟩).size <= 4096 := by
    rw [List.getD_eq_getElem?_getD]
    cases h : L[j]? with
    | none => exact Nat.zero_le _
    | some x => exact hL x (List.mem_of_getElem? h)
   have hw := word_le (L.getD j ⟨#[]⟩); have hr := restF_le 0 (L.getD j ⟨#[]⟩)
   show BdS (stepNm j (L.getD j ⟨#[]⟩) (stTo L j).1, stepSh j (L.getD j ⟨#[]⟩) (stTo L j).2.1, stepT j (L.getD j ⟨#[]⟩) (stTo L j).2.2)
   generalize L.getD j ⟨#[]⟩ = s at hs hw hr ⊢
   refine ⟨?_, ?_, ?_, ?_⟩
   ·show (stepNm j s _).size <= _
    unfold stepNm
    split
    ·omega
    ·exact h1
   ·show (stepSh j s _).length <= _
    unfold stepSh
    split
    ·rw [valD_len]; omega
    ·exact h2
   ·show (stepT j s _).squares.length <= _
    unfold stepT
    split
    ·exact h3
    split
    ·exact h3
    split
    ·show (valD _).length <= _; rw [valD_len]; omega
    split
    ·exact h3
    ·exact h3
   ·intro k hk
    change k < (stepT j s _).sets.length at hk
    show (((stepT j s _).sets.getD k (0, [])).2).length <= _
    unfold stepT at hk ⊢
    split at hk
    ·rename_i c; rw [if_pos c]; exact h4 k hk
    rename_i c0; rw [if_neg c0]
    split at hk
    ·rename_i c; rw [if_pos c]; exact h4 k hk
    rename_i c2; rw [if_neg c2]
    split at hk
    ·rename_i c; rw [if_pos c]; exact h4 k hk
    rename_i c3; rw [if_neg c3]
    split at hk
    ·rename_i c; rw [if_pos c]
     change k < ((stTo L j).2.2.sets ++ _).length at hk
     show ((((stTo L j).2.2.sets ++ [((valD (restF 0 s)).headD 0, (valD (restF 0 s)).tail)]).getD k (0, [])).2).length <= _
     by_cases hlt : k < (stTo L j).2.2.sets.length
     ·rw [List.getD_eq_getElem?_getD, List.getElem?_append_left hlt, <- List.getD_eq_getElem?_getD]; exact h4 k hlt
     ·rw [List.length_append, List.length_singleton] at hk; obtain rfl : k = (stTo L j).2.2.sets.length := by omega
      rw [List.getD_eq_getElem?_getD]
      simp [valD_len]
      omega
    ·rename_i c; rw [if_neg c]; exact h4 k hk
def badG (L : List ByteArray) (j : Nat) : Nat := if j < L.length then (if lineOk j (L.getD j ⟨#[]⟩) = true then badG L (j + 1) else j) else L.length
termination_by L.length - j
theorem badG_next {L : List ByteArray} {j : Nat} (h : j < L.length) (ho : lineOk j (L.getD j ⟨#[]⟩) = true) : badG L j = badG L (j + 1) := by
 rw [badG, if_pos h, if_pos ho]
theorem badG_stop {L : List ByteArray} {j : Nat} (h : j < L.length) (ho : lineOk j (L.getD j ⟨#[]⟩) = false) : badG L j = j := by
 rw [badG, if_pos h, if_neg (by rw [ho]; decide)]
theorem badG_end {L : List ByteArray} {j : Nat} (h : ¬ j < L.length) : badG L j = L.length := by
 rw [badG, if_neg h]
noncomputable def parseE (s : ByteArray) : Int := if 4096 < s.size then 26 else if badG (linesB s) 0 < (linesB s).length then 25 else if (linesB s).length < 4 then 25 else Bell.tyE (nameE (stTo (linesB s) (linesB s).length).1) (stTo (linesB s) (linesB s).length).2.1 (stTo (linesB s) (linesB s).length).2.2
noncomputable def parseN (s : ByteArray) : Nat := if 4096 < s.size then 0 else if badG (linesB s) 0 < (linesB s).length then badG (linesB s) 0 else if parseE s = 0 then 0 else (linesB s).length
noncomputable def parseS (s : ByteArray) : ByteArray × List Int × Bell.Ty := if parseE s = 0 then stTo (linesB s) (linesB s).length else zeroS
def ParsePost (w : World) (s : ByteArray) (e : Ending) (w' : World) : Prop :=
 Below w.heap.size w w' /\ ∃ cs sa sn sc qa qn qc ga gn gc, e = .returned (.tuple #[.agg cs, .int .i64 (parseN s), .int .i64 (parseE s)]) /\ RTy w' cs (parseS s).1 (parseS s).2.1 (parseS s).2.2 sa sn sc qa qn qc ga gn gc
theorem rtyZero (w : World) : RTy w #[.string ⟨#[]⟩, .slice none 0 0, .int .i64 0, .int .i64 0, .int .i64 0, .int .i64 0, .int .i64 0, .int .i64 0, .int .i64 0, .int .i64 0, .int .i64 0, .slice none 0 0, .slice none 0 0] zeroS.1 zeroS.2.1 zeroS.2.2 none 0 0 none 0 0 none 0 0 :=
 ⟨rfl, ⟨rfl, fun h => absurd h (by omega)⟩, ⟨rfl, fun h => absurd h (by omega)⟩, ⟨rfl, fun h => absurd h (by omega)⟩⟩
theorem pty_zero {w : World} {b : Nat} (h : Blk w b 42 #[.string ⟨#[]⟩, .slice none 0 0, .int .i64 0, .int .i64 0, .int .i64 0, .int .i64 0, .int .i64 0, .int .i64 0, .int .i64 0, .int .i64 0, .int .i64 0, .slice none 0 0, .slice none 0 0]) : PTy w b zeroS.1 zeroS.2.1 zeroS.2.2 :=
 ⟨rfl, .slice none 0 0, .slice none 0 0, .slice none 0 0, [], ⟨h, OwnI.nil _ _, OwnI.nil _ _, World.ownsRow_nil _ _ _ _, rfl, fun j hj => absurd hj (by simp [zeroS])⟩⟩
theorem pm_shape {w : World} {b : Nat} {cs : Array Value} {va vq vs : Value} {sh sq : List Int} {st : Bell.Sets} {P : List (Int × Value)} (hm : PMem w b cs va vq vs sh sq st P) :
  ∃ sa sc qa qc ga gc, va = .slice sa sh.length sc /\ vq = .slice qa sq.length qc /\ vs = .slice ga st.length gc /\ sq.length <= qc /\ qc <= 9223372036854775807 := by
 obtain ⟨sa, sc, h1⟩ : ∃ A c, va = .slice A sh.length c := by
  rcases hm.shr.form with ⟨h1, h2⟩ | ⟨g, c, h1, _⟩
  ·rw [h2]; exact ⟨_, _, h1⟩
  ·exact ⟨_, _, h1⟩
 obtain ⟨qa, qc, h2, hc1, hc2⟩ : ∃ A c, vq = .slice A sq.length c /\ sq.length <= c /\ c <= 9223372036854775807 := by
  rcases hm.sqr.2 with ⟨h1, h2⟩ | ⟨g, c, cur, h1, _, _, hnc, hmx, _⟩
  ·rw [h2]; exact ⟨_, _, h1, by simp, by omega⟩
  ·exact ⟨_, _, h1, hnc, by unfold maxLen at hmx; omega⟩
 obtain ⟨ga, gc, h3⟩ : ∃ A c, vs = .slice A st.length c := by
  rcases hm.row.2 with ⟨h1, h2⟩ | ⟨g, c, cur, h1, _⟩
  ·rw [h2]; exact ⟨_, _, h1⟩
  ·exact ⟨_, _, h1⟩
 exact ⟨sa, sc, qa, qc, ga, gc, h1, h2, h3, hc1, hc2⟩
theorem pm_rty {w : World} {b : Nat} {cs : Array Value} {sa qa ga : Option Addr} {sc qc gc : Nat} {nm : ByteArray} {sh : List Int} {T : Bell.Ty} {P : List (Int × Value)} (hm : PMem w b cs (.slice sa sh.length sc) (.slice qa T.squares.length qc) (.slice ga T.sets.length gc) sh T.squares T.sets P) (hcs : cs = tyW nm (.slice sa sh.length sc) T (.slice qa T.squares.length qc) (.slice ga T.sets.length gc)) :
  RTy w cs nm sh T sa sh.length sc qa T.squares.length qc ga T.sets.length gc := by
 refine ⟨hcs, hm.shr.at_, hm.sqr.at_, ⟨rfl, fun h0 => ?_⟩⟩; have hR := hm.row; obtain ⟨gS, rfl⟩ := own_addr hR h0; refine ⟨gS, 0, rfl, rfl, fun j hj => ?_⟩; obtain ⟨e1, e2⟩ := hm.each j hj; obtain ⟨A, n, c, hv, hz⟩ := e2.slice; have hn : n = ((T.sets.getD j (0, [])).2).length := hz.1.symm; have p0 := (stCells_at P j (by rw [hm.len]; exact hj)).1; have p1 := (stCells_at P j (by rw [hm.len]; exact hj)).2; refine ⟨A, n, c, ?_, ?_, hz⟩
 ·rw [Nat.zero_add, World.ownsRow.cellAt hR (j * 2) (by omega), p0, e1]
 ·rw [Nat.zero_add, World.ownsRow.cellAt hR (j * 2 + 1) (by omega), p1, hv]
theorem PMem.in_row {w : World} {b : Nat} {cs : Array Value} {va vq vs : Value} {sh sq : List Int} {st : Bell.Sets} {P : List (Int × Value)} (h : PMem w b cs va vq vs sh sq st P) {g : Nat} {cs0 : Array Value} (hb : Blk w g 42 cs0) (hne : b ≠ g) (new : Array Value) : PMem (w.setRow g new) b cs va vq vs sh sq st P :=
 ⟨h.box.setRow_far hne new, h.shr.in_row hb (by decide) new, h.sqr.in_row hb (by decide) new, row_in_row h.row hb (by decide) new, h.len, fun j hj => ⟨(h.each j hj).1, (h.each j hj).2.in_row hb (by decide) new⟩⟩
set_option maxHeartbeats 4000000 in
set_option maxRecDepth 100000 in
theorem Parse_any (w : World) (s : ByteArray) (hs : s.size <= 80000) (hfw : FirstWords w) : Calls Tryz.prog 74 #[.string s] w (ParsePost w s) := by
 have HFW := lh hfw; have HS0 := lh hs; obtain ⟨ZC, hZ⟩ : ∃ Z : Array Value, Z = #[.string ⟨#[]⟩, .slice none 0 0, .int .i64 0, .int .i64 0, .int .i64 0, .int .i64 0, .int .i64 0, .int .i64 0, .int .i64 0, .int .i64 0, .int .i64 0, .slice none 0 0, .slice none 0 0] := ⟨_, rfl⟩; have HZ := lh hZ; have IZ : Hid ((Tryz.prog.info? 42).map (·.size) = some ZC.size) := by show _ = _; rw [hZ]; kernel_rfl
 have OZ : Hid (ZC.all (·.oneCell') = true) := by show _ = _; rw [hZ]; simp [Value.oneCell']
 have LZ : Hid (∀ (W : World) (g : Nat) {cs : Array Value}, Blk W g 42 cs -> (loadVar 42 ⟨g, 0, none⟩).run Tryz.prog (W.setRow g ZC) = .ok (.agg ZC) (W.setRow g ZC)) := fun W g cs h => (h.setRow ZC).lv Tryz.prog Tryz.underlying42 rfl IZ.out
 clear hfw hs hZ
 by_cases hl : 4096 < s.size
 ·have t1 : decide ((4096 : Int) < (s.size : Int)) = true := by simp; omega
  go_enter Tryz.func74, Tryz.ntmps74
  go_upto_region 1 with fail
  obtain ⟨w1, hw1⟩ : ∃ W, W = (w.alloc (.cells #[.string ⟨#[]⟩, .slice none 0 0, .int .i64 0, .int .i64 0, .int .i64 0, .int .i64 0, .int .i64 0, .int .i64 0, .int .i64 0, .int .i64 0, .int .i64 0, .slice none 0 0, .slice none 0 0] 42)) := ⟨_, rfl⟩; rw [<- hw1]; have R2 : Hid (Blk w1 (w.heap.size) 42 #[.string ⟨#[]⟩, .slice none 0 0, .int .i64 0, .int .i64 0, .int .i64 0, .int .i64 0, .int .i64 0, .int .i64 0, .int .i64 0, .int .i64 0, .int .i64 0, .slice none 0 0, .slice none 0 0]) := by show Blk _ _ _ _; rw [hw1]; exact Blk.new _ _ _
  have hb1 : Below w.heap.size w w1 := by rw [hw1]; exact ((Below.refl _ _).alloc (Nat.le_refl _) _)
  obtain ⟨g2, hg2⟩ : ∃ g, g = w.heap.size := ⟨_, rfl⟩; have HGw1 : Hid (g2 = w.heap.size) := hg2; rw [<- hg2] at R2
  try rw [<- hg2]
  clear hw1 hg2; have HB1 : Hid (Below w.heap.size w w1) := hb1; have HG2 : Hid (w.heap.size <= g2) := by show _ <= _; rw [HGw1.out]; exact Nat.le_refl _
  clear hb1 HGw1
  have HE : Hid (parseE s = 26) := by
   show _ = _
   unfold parseE; rw [if_pos hl]
  have HN : Hid ((parseN s : Int) = 0) := by
   show _ = _
   unfold parseN; rw [if_pos hl]; rfl
  have HS : Hid (parseS s = zeroS) := by show _ = _; unfold parseS; rw [HE.out]; exact if_neg (by decide)
  go_wp2_with (refine wpList_store_row rfl 42 _ _ rfl g2 ZC rfl (by rw [HZ.out]; rfl) 42 _ R2.out IZ.out (by rw [HZ.out]) OZ.out ?_)
  have HLV := LZ.out _ _ R2.out; refine bodyPost_ret (v := .tuple #[.agg ZC, .int .i64 0, .int .i64 26]) (by simp [results, Tryz.results74, asAddr, HLV]) rfl ?_; refine ⟨(HB1.out).setRow' HG2.out _, ZC, none, 0, 0, none, 0, 0, none, 0, 0, by rw [HN.out, HE.out], ?_⟩; rw [HS.out, HZ.out]; exact rtyZero _
 ·have t1 : decide ((4096 : Int) < (s.size : Int)) = false := by simp; omega
  have HL0 : Hid (¬ 4096 < s.size) := hl; obtain ⟨L, hL⟩ : ∃ L, L = linesB s := ⟨_, rfl⟩; have HL := lh hL; have hLs : L.length <= 4097 := by rw [hL]; have := linesB_le s; omega
  have HSZ : Hid (∀ x ∈ L, x.size <= 4096) := fun x hx => by rw [hL] at hx; have := linesB_size s x hx; omega
  have HLN : Hid (∀ W, Calls Tryz.prog 153 #[.string s] W fun e w' => ∃ g c, e = .returned (.slice (some ⟨g, 0, none⟩) L.length c) /\ StrsAt w' (some ⟨g, 0, none⟩) L.length L /\ Below W.heap.size W w') := fun W => by rw [hL]; exact lines_any s W (by omega)
  clear hL hl
  go_enter Tryz.func74, Tryz.ntmps74
  go_upto_region 1 with fail
  obtain ⟨w1, hw1⟩ : ∃ W, W = (w.alloc (.cells #[.string ⟨#[]⟩, .slice none 0 0, .int .i64 0, .int .i64 0, .int .i64 0, .int .i64 0, .int .i64 0, .int .i64 0, .int .i64 0, .int .i64 0, .int .i64 0, .slice none 0 0, .slice none 0 0] 42)) := ⟨_, rfl⟩; rw [<- hw1]; have R2 : Hid (Blk w1 (w.heap.size) 42 #[.string ⟨#[]⟩, .slice none 0 0, .int .i64 0, .int .i64 0, .int .i64 0, .int .i64 0, .int .i64 0, .int .i64 0, .int .i64 0, .int .i64 0, .int .i64 0, .slice none 0 0, .slice none 0 0]) := by show Blk _ _ _ _; rw [hw1]; exact Blk.new _ _ _
  have hb1 : Below w.heap.size w w1 := by rw [hw1]; exact ((Below.refl _ _).alloc (Nat.le_refl _) _)
  obtain ⟨g2, hg2⟩ : ∃ g, g = w.heap.size := ⟨_, rfl⟩; have HGw1 : Hid (g2 = w.heap.size) := hg2; rw [<- hg2] at R2
  try rw [<- hg2]
  clear hw1 hg2; have HB1 : Hid (Below w.heap.size w w1) := hb1; have HG2 : Hid (w.heap.size <= g2) := by show _ <= _; rw [HGw1.out]; exact Nat.le_refl _
  clear hb1 HGw1
  go_wp2_with fail
  refine (HLN.out _).mono ?_; rintro e w2 ⟨gL, cL, rfl, hSL, hb⟩; have HSL := lh hSL; have HR21 : Hid (g2 < w2.heap.size) := by show _ < _; have h1 := lt_of_block R2.out; have := hb.size; omega
  replace HB1 := lh (HB1.out.trans (hb.mono HB1.out.size)); replace R2 := lh (R2.out.below hb); clear hb; clear hSL HLN; obtain ⟨n, hn⟩ : ∃ n, n = L.length := ⟨_, rfl⟩; rw [<- hn] at HSL ⊢; have HN0 := lh hn; have hn9 : n <= 4097 := by omega
  clear hn hLs
  go_upto_region 5 with fail
  obtain ⟨w3, hw3⟩ : ∃ W, W = (w2.alloc (.cells #[.string ⟨#[]⟩, .slice none 0 0, .int .i64 0, .int .i64 0, .int .i64 0, .int .i64 0, .int .i64 0, .int .i64 0, .int .i64 0, .int .i64 0, .int .i64 0, .slice none 0 0, .slice none 0 0] 42)) := ⟨_, rfl⟩; rw [<- hw3]; have R6 : Hid (Blk w3 (w2.heap.size) 42 #[.string ⟨#[]⟩, .slice none 0 0, .int .i64 0, .int .i64 0, .int .i64 0, .int .i64 0, .int .i64 0, .int .i64 0, .int .i64 0, .int .i64 0, .int .i64 0, .slice none 0 0, .slice none 0 0]) := by show Blk _ _ _ _; rw [hw3]; exact Blk.new _ _ _
  have hb3 : Below w2.heap.size w2 w3 := by rw [hw3]; exact ((Below.refl _ _).alloc (Nat.le_refl _) _)
  obtain ⟨g6, hg6⟩ : ∃ g, g = w2.heap.size := ⟨_, rfl⟩; have HGw3 : Hid (g6 = w2.heap.size) := hg6; rw [<- hg6] at R6
  try rw [<- hg6]
  clear hw3 hg6; have HG6 : Hid (g6 = w2.heap.size) := HGw3.out; have HB3 : Hid (Below g6 w2 w3) := by show Below _ _ _; rw [HGw3.out]; exact hb3
  have P0 : Hid (PTy w3 g6 zeroS.1 zeroS.2.1 zeroS.2.2) := pty_zero R6.out; clear hb3 HGw3 R6 t1; go_wp2
  go_loopw [7, 8, 18] (fun _ _ i wr => ∃ j : Nat, j <= n /\ i = .int .i64 j /\ Hid (Below g6 w2 wr) /\ Hid (PTy wr g6 (stTo L j).1 (stTo L j).2.1 (stTo L j).2.2) /\ Hid (badG L 0 = badG L j)) (fun _ _ i _ => n - (intOf i).toNat)
  case atStart => exact ⟨0, Nat.zero_le _, rfl, HB3, P0, rfl⟩
  case round =>
   clear HB3 P0; obtain ⟨j, hj, rfl, HBr, HP, HBD⟩ := hrel; have HSr : Hid (StrsAt wr (some ⟨gL, 0, none⟩) n L) := HSL.out.keep HBr.out (by rw [HG6.out]; exact Nat.le_refl _)
   have R2r : Hid (Blk wr g2 42 #[.string ⟨#[]⟩, .slice none 0 0, .int .i64 0, .int .i64 0, .int .i64 0, .int .i64 0, .int .i64 0, .int .i64 0, .int .i64 0, .int .i64 0, .int .i64 0, .slice none 0 0, .slice none 0 0]) := by
    show Blk _ _ _ _
    have h1 := lt_of_block R2.out; exact (HBr.out.block g2 (by rw [HG6.out]; exact h1)).trans R2.out
   have HBW : Hid (Below w.heap.size w wr) := HB1.out.trans (HBr.out.mono (by rw [HG6.out]; exact HB1.out.size))
   by_cases hlt : j < n
   ·obtain ⟨x, hxe⟩ : ∃ x, x = L.getD j ⟨#[]⟩ := ⟨_, rfl⟩; have hjL : j < L.length := by rw [<- HN0.out]; exact hlt
    have hxm : L[j]? = some x := by rw [hxe, List.getD_eq_getElem?_getD, List.getElem?_eq_getElem hjL]; rfl
    obtain ⟨g', o', e, hg, hx⟩ := HSr.out.2 (by omega); have e := Option.some.inj e
    injection e with e1 e2 e3
    subst e1 e2; have hc := hx j x hxm; rw [Nat.zero_add] at hc; have HRL := lh (readLine_any wr g6 j x (stTo L j).1 (stTo L j).2.1 (stTo L j).2.2 (HSZ.out x (List.mem_of_getElem? hxm)) (by have := stTo_sets L j; omega) HP.out (HFW.out.keep HBW.out)); have HJL : Hid (j < L.length) := hjL; have HXE := lh hxe; clear hx hg e3 hxm hxe hjL
    go_wp2_with fail
    refine HRL.out.mono ?_; rintro e w4 ⟨hb4, hc4⟩; have HB4 : Hid (Below g6 w2 w4) := HBr.out.trans hb4; rcases hc4 with ⟨hok, rfl, hp4⟩ | ⟨hok, rfl⟩
    ·have HP4 := lh hp4; have HOK := lh hok; clear hb4 hp4 hok HRL; go_wp2; go_roundw
     case rel =>
      refine ⟨j + 1, by omega, by go_num, HB4, ?_, ?_⟩
      ·have h1 := HP4.out; rw [HXE.out] at h1; exact h1
      ·show _ = _
       rw [HBD.out]; exact badG_next HJL.out (by rw [<- HXE.out]; exact HOK.out)
     case measure => simp [intOf]; omega
    ·have HOK : Hid (badG L 0 = j) := by
      show _ = _
      rw [HBD.out]; exact badG_stop HJL.out (by rw [<- HXE.out]; exact hok)
     have HBX : Hid (Below w.heap.size w w4) := HB1.out.trans (HB4.out.mono (by rw [HG6.out]; exact HB1.out.size))
     have R2 : Hid (Blk w4 g2 42 #[.string ⟨#[]⟩, .slice none 0 0, .int .i64 0, .int .i64 0, .int .i64 0, .int .i64 0, .int .i64 0, .int .i64 0, .int .i64 0, .int .i64 0, .int .i64 0, .slice none 0 0, .slice none 0 0]) := by
      show Blk _ _ _ _
      have h1 := lt_of_block R2.out; exact (HB4.out.block g2 (by rw [HG6.out]; exact h1)).trans R2.out
     clear hb4 hok HRL R2r
     have HE : Hid (parseE s = 25) := by
      show _ = _
      unfold parseE; rw [if_neg HL0.out, <- HL.out, HOK.out, if_pos HJL.out]
     have HN : Hid ((parseN s : Int) = j) := by
      show _ = _
      unfold parseN; rw [if_neg HL0.out, <- HL.out, HOK.out, if_pos HJL.out]
     have HS : Hid (parseS s = zeroS) := by show _ = _; unfold parseS; rw [HE.out]; exact if_neg (by decide)
     go_wp2_with (refine wpList_store_row rfl 42 _ _ rfl g2 ZC rfl (by rw [HZ.out]; rfl) 42 _ R2.out IZ.out (by rw [HZ.out]) OZ.out ?_)
     have HLV := LZ.out _ _ R2.out; refine bodyPost_ret (v := .tuple #[.agg ZC, .int .i64 j, .int .i64 25]) (by simp [results, Tryz.results74, asAddr, HLV]) rfl ?_; refine ⟨(HBX.out).setRow' HG2.out _, ZC, none, 0, 0, none, 0, 0, none, 0, 0, by rw [HN.out, HE.out], ?_⟩; rw [HS.out, HZ.out]; exact rtyZero _
   ·obtain rfl : j = n := by omega
    have HBE : Hid (badG L 0 = L.length) := by show _ = _; rw [HBD.out]; exact badG_end (by rw [HN0.out]; omega)
    have R2 := R2r; clear R2r HBD
    by_cases h4 : j < 4
    ·have t4 : decide ((j : Int) < 4) = true := by simp; omega
     have HE : Hid (parseE s = 25) := by
      show _ = _
      unfold parseE; rw [if_neg HL0.out, <- HL.out, HBE.out, if_neg (by omega), if_pos (by rw [<- HN0.out]; exact h4)]
     have HN : Hid ((parseN s : Int) = j) := by
      show _ = _
      unfold parseN; rw [HE.out, if_neg HL0.out, <- HL.out, HBE.out, if_neg (by omega), if_neg (by decide), <- HN0.out]
     have HS : Hid (parseS s = zeroS) := by show _ = _; unfold parseS; rw [HE.out]; exact if_neg (by decide)
     go_wp2_with (refine wpList_store_row rfl 42 _ _ rfl g2 ZC rfl (by rw [HZ.out]; rfl) 42 _ R2.out IZ.out (by rw [HZ.out]) OZ.out ?_)
     have HLV := LZ.out _ _ R2.out; refine bodyPost_ret (v := .tuple #[.agg ZC, .int .i64 j, .int .i64 25]) (by simp [results, Tryz.results74, asAddr, HLV]) rfl ?_; refine ⟨(HBW.out).setRow' HG2.out _, ZC, none, 0, 0, none, 0, 0, none, 0, 0, by rw [HN.out, HE.out], ?_⟩; rw [HS.out, HZ.out]; exact rtyZero _
    ·have t4 : decide ((j : Int) < 4) = false := by simp; omega
     have H4 : Hid (¬ j < 4) := h4; obtain ⟨st, hst⟩ : ∃ st, st = stTo L j := ⟨_, rfl⟩; rw [<- hst] at HP; have HST : Hid (st = stTo (linesB s) (linesB s).length) := by show _ = _; rw [hst, <- HL.out, <- HN0.out]
     have hsl : st.2.2.sets.length <= 4097 := by have := stTo_sets L j; rw [hst]; omega
     obtain ⟨E, hE⟩ : ∃ E, E = Bell.tyE (nameE st.1) st.2.1 st.2.2 := ⟨_, rfl⟩
     have HEE : Hid (parseE s = E) := by
      show _ = _
      unfold parseE; rw [if_neg HL0.out, <- HL.out, if_neg (by rw [HBE.out]; omega), if_neg (by rw [<- HN0.out]; exact H4.out), hE, hst, <- HN0.out]
     obtain ⟨hd8, va, vq, vs, P, hm⟩ := HP.out; obtain ⟨sa, sc, qa, qc, ga, gc, rfl, rfl, rfl, hq1, hq2⟩ := pm_shape hm; obtain ⟨cs, hcs⟩ : ∃ cs, cs = tyW st.1 (.slice sa st.2.1.length sc) st.2.2 (.slice qa st.2.2.squares.length qc) (.slice ga st.2.2.sets.length gc) := ⟨_, rfl⟩; rw [<- hcs] at hm; have hR := pm_rty hm hcs; have IC : Hid ((Tryz.prog.info? 42).map (·.size) = some cs.size) := by show _ = _; rw [hcs]; kernel_rfl
     have HCS : Hid (cs.size = 13 /\ cs.all (·.oneCell') = true) := ⟨by rw [hcs]; rfl, by rw [hcs]; simp [tyW, Value.oneCell']⟩; have HM := lh hm; have HR := lh hR; have HCC := lh hcs; have hbd : BdS st := by rw [hst]; exact stTo_bd L HSZ.out j
     have HCK := fun W (h : RTy W cs st.1 st.2.1 st.2.2 sa st.2.1.length sc qa st.2.2.squares.length qc ga st.2.2.sets.length gc) => lh (CheckType_any W h hd8 (by have := hbd.1; omega) (by have := hbd.2.1; omega) (by have := hbd.2.2.1; omega) ⟨hq1, hq2⟩ (fun k hk => by have := hbd.2.2.2 k hk; omega))
     rw [<- hE] at HCK; have HNE : Hid (g6 ≠ g2) := by show _ ≠ _; have h1 := HR21.out; have h2 := HG6.out; omega
     clear hst hsl hE hm hR hcs hd8 hq1 hq2 HP h4 hbd
     go_wp2_with (refine wpList_load_row rfl 42 _ rfl g6 rfl 42 cs (0, 0) _ HM.out.box Tryz.underlying42 rfl IC.out ?_)
     refine (HCK _ HR.out).out.mono ?_; rintro e w5 ⟨rfl, hb5⟩; have HBX : Hid (Below w.heap.size w w5) := HBW.out.trans (hb5.mono HBW.out.size); have R2 := lh (R2.out.below hb5); have HM5 := lh (HM.out.keep hb5); clear hb5 HCK HBW
     by_cases hz : E = 0
     ·subst hz; have HS : Hid (parseS s = st) := by show _ = _; unfold parseS; rw [if_pos HEE.out, HST.out]
      have HN : Hid (parseN s = 0) := by
       show _ = _
       unfold parseN; rw [if_neg HL0.out, <- HL.out, if_neg (by rw [HBE.out]; omega), if_pos HEE.out]
      go_wp2_with (first | (refine wpList_load_row rfl 42 _ rfl g6 rfl 42 cs (0, 0) _ HM5.out.box Tryz.underlying42 rfl IC.out ?_) | (refine wpList_store_row rfl 42 _ _ rfl g2 cs rfl rfl 42 _ R2.out IC.out (by rw [HCS.out.1]; rfl) HCS.out.2 ?_))
      have HLV := (R2.out.setRow cs).lv Tryz.prog (T := 42) Tryz.underlying42 rfl IC.out; refine bodyPost_ret (v := .tuple #[.agg cs, .int .i64 0, .int .i64 0]) (by simp [results, Tryz.results74, asAddr, HLV]) rfl ?_; refine ⟨HBX.out.setRow' HG2.out _, cs, sa, st.2.1.length, sc, qa, st.2.2.squares.length, qc, ga, st.2.2.sets.length, gc, by rw [HN.out, HEE.out]; rfl, ?_⟩; rw [HS.out]; exact pm_rty (HM5.out.in_row R2.out HNE.out cs) HCC.out
     ·have hz2 : (E == 0) = false := beq_eq_false_iff_ne.2 hz; have HEZ : Hid (E ≠ 0) := hz
      have HE : Hid (parseE s = E) := by
       show _ = _
       exact HEE.out
      have HN : Hid ((parseN s : Int) = j) := by
       show _ = _
       unfold parseN; rw [if_neg HL0.out, <- HL.out, if_neg (by rw [HBE.out]; omega), if_neg (by rw [HE.out]; exact HEZ.out), <- HN0.out]
      have HS : Hid (parseS s = zeroS) := by show _ = _; unfold parseS; rw [HE.out]; exact if_neg (by exact HEZ.out)
      go_wp2_with (refine wpList_store_row rfl 42 _ _ rfl g2 ZC rfl (by rw [HZ.out]; rfl) 42 _ R2.out IZ.out (by rw [HZ.out]) OZ.out ?_)
      have HLV := LZ.out _ _ R2.out; refine bodyPost_ret (v := .tuple #[.agg ZC, .int .i64 j, .int .i64 E]) (by simp [results, Tryz.results74, asAddr, HLV]) rfl ?_; refine ⟨(HBX.out).setRow' HG2.out _, ZC, none, 0, 0, none, 0, 0, none, 0, 0, by rw [HN.out, HE.out], ?_⟩; rw [HS.out, HZ.out]; exact rtyZero _
end Go.Proofs.YtmafmebcgmegeaaGreatDoor
