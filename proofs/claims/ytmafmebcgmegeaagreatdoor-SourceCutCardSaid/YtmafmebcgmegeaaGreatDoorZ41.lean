/- Texts Xf Qd Jc of the proof. -/
import Derived.Test.YtmafmebcgmegeaaGreatDoorZ35
import Derived.Test.YtmafmebcgmegeaaGreatDoorZ38
import Derived.Test.YtmafmebcgmegeaaGreatDoorZ40
import Derived.Test.YtmafmebcgmegeaaGreatDoorZ37
import Derived.Test.YtmafmebcgmegeaaGreatDoorZ3
namespace Go.Proofs.Bell
/-- An energy, and a setting, that are made greater. -/
def lf (c : Int) (e : Int) : Int := min 100000000 (e + c)
def lg (c : Int) (a : Int × List Int) : Int × List Int := (a.1, a.2.map (lf c))
def sg (c : Int) (a : Fx) : Fx := { a with p := min 100 (a.p + c) }
theorem loud_all (c : Int) (s : Sets) : mapK (lg c) s s.length = loud c s := mapK_all _ _
theorem strong_all (c : Int) (l : List Fx) : mapK (sg c) l l.length = strong c l := mapK_all _ _
/-- The settings when those before i are greater, and the first k energies of i. -/
def loudIK (c : Int) (s : Sets) (i k : Nat) : Sets := (mapK (lg c) s i).set i ((s.getD i (0, [])).1, mapK (lf c) (s.getD i (0, [])).2 k)
theorem getD_get {α : Type} {l : List α} {d : α} {i : Nat} (h : i < l.length) : l.getD i d = l[i] := by
  rw [List.getD_eq_getElem?_getD, List.getElem?_eq_getElem h]; rfl
theorem loudIK_0 (c : Int) {s : Sets} {i : Nat} (hi : i < s.length) : loudIK c s i 0 = mapK (lg c) s i := by
  unfold loudIK
  rw [mapK_0]
  apply List.ext_getElem?
  intro j
  rw [List.getElem?_set]
  split
  · rename_i h
    subst h
    rw [if_pos (by rw [mapK_len]; exact hi), mapK_past _ (Nat.le_refl _), getD_get hi, List.getElem?_eq_getElem hi]
  · rfl
theorem loudIK_all (c : Int) {s : Sets} {i : Nat} (hi : i < s.length) : loudIK c s i (s.getD i (0, [])).2.length = mapK (lg c) s (i + 1) := by
  unfold loudIK
  rw [mapK_all, getD_get hi]
  exact mapK_succ (lg c) hi
theorem loudIK_at (c : Int) {s : Sets} {i : Nat} (hi : i < s.length) (k : Nat) : (loudIK c s i k).getD i (0, []) = ((s.getD i (0, [])).1, mapK (lf c) (s.getD i (0, [])).2 k) := by
  unfold loudIK
  rw [getD_get (by rw [List.length_set, mapK_len]; exact hi), List.getElem_set_self]
theorem loudIK_len (c : Int) (s : Sets) (i k : Nat) : (loudIK c s i k).length = s.length := by unfold loudIK; rw [List.length_set, mapK_len]
theorem loudIK_step (c : Int) {s : Sets} {i k : Nat} (hi : i < s.length) (hk : k < (s.getD i (0, [])).2.length) :
    (loudIK c s i k).set i (((loudIK c s i k).getD i (0, [])).1, ((loudIK c s i k).getD i (0, [])).2.set k (lf c ((s.getD i (0, [])).2.getD k 0))) = loudIK c s i (k + 1) := by
  rw [loudIK_at c hi]
  unfold loudIK
  rw [List.set_set]
  show (mapK (lg c) s i).set i ((s.getD i (0, [])).1, (mapK (lf c) (s.getD i (0, [])).2 k).set k (lf c ((s.getD i (0, [])).2.getD k 0))) = _
  rw [getD_get hk, mapK_succ (lf c) hk]
end Go.Proofs.Bell
namespace Go.Proofs.YtmafmebcgmegeaaGreatDoor
open Go.RowKit Go.Sort
theorem row_far {w : World} {base size n g j : Nat} {t : TypeId} {v u : Value} {xs : List Value} (h : w.ownsRow base t size v n xs) (hne : ∀ x, v.ownBlock = some x → x ≠ g) : (w.setCell ⟨g, j, none⟩ u).ownsRow base t size v n xs := by
  rcases h with ⟨h1, h2 | ⟨b, cap, cur, hv, hg, hc, r⟩⟩
  · exact ⟨h1, .inl h2⟩
  · refine ⟨h1, .inr ⟨b, cap, cur, hv, hg, ?_, r⟩⟩
    exact (Below.heap_setCell w ⟨g, j, none⟩ u b (hne b (by rw [hv]; rfl))).trans hc
/-- A type whose lists are one's own is one of the reference in memory. -/
theorem rty_own {W : World} {base sn c1 gq c2 qn gS gn cS : Nat} {A1 : Option Addr} {nm : ByteArray} {sh : List Int} {T : Bell.Ty} {tw : Array Value} {P : List (Int × Value)} (hw : tw = tyW nm (.slice A1 sn c1) T (.slice (some ⟨gq, 0, none⟩) qn c2) (.slice (some ⟨gS, 0, none⟩) gn cS)) (h : OwnTy W base sh T A1 sn c1 gq qn c2 gS gn cS P) (hl : T.sets.length = gn) :
    RTy W tw nm sh T A1 sn c1 (some ⟨gq, 0, none⟩) qn c2 (some ⟨gS, 0, none⟩) gn cS := by
  refine ⟨hw, h.sh.at_, h.sq.at_, hl, fun _ => ⟨gS, 0, rfl, hl, fun j hj => ?_⟩⟩
  obtain ⟨e1, e2⟩ := h.each j hj
  obtain ⟨A, m, c, hv, hz⟩ := e2.slice
  have p0 := (stCells_at P j (by rw [h.len]; exact hj)).1
  have p1 := (stCells_at P j (by rw [h.len]; exact hj)).2
  refine ⟨A, m, c, ?_, ?_, hz⟩
  · rw [Nat.zero_add, World.ownsRow.cellAt h.row (j * 2) (by omega), p0, e1]
  · rw [Nat.zero_add, World.ownsRow.cellAt h.row (j * 2 + 1) (by omega), p1, hv]
/-- One energy of it is changed in place. -/
theorem OwnTy.raise {w : World} {base : Nat} {sh : List Int} {T : Bell.Ty} {S : Bell.Sets} {A1 : Option Addr} {sn c1 gq qn c2 gS gn cS : Nat} {P : List (Int × Value)} (h : OwnTy w base sh { T with sets := S } A1 sn c1 gq qn c2 gS gn cS P) (ha : Apart A1 gq gn P) {i gE m cE : Nat} (hi : i < gn) (hS : S.length = gn)
    (hv : (P.getD i (0, undef)).2 = .slice (some ⟨gE, 0, none⟩) m cE) (j : Nat) (u : Int) :
    OwnTy (w.setCell ⟨gE, j, none⟩ (.int .i64 u)) base sh { T with sets := S.set i ((S.getD i (0, [])).1, (S.getD i (0, [])).2.set j u) } A1 sn c1 gq qn c2 gS gn cS P := by
  obtain ⟨mid, m1, m2, m3, m4⟩ := ha
  have hE : (P.getD i (0, undef)).2.ownBlock = some gE := by rw [hv]; rfl
  have hmid := m3 i hi gE hE
  obtain ⟨p1, p2⟩ := h.each i hi
  rw [hv] at p2
  obtain ⟨cur, hcur⟩ := row_type p2 (b := gE) rfl
  refine ⟨row_far h.sh ?_, row_far h.sq ?_, row_cell h.row hcur (by decide) j _, h.len, fun k hk => ?_, h.cap⟩
  · intro x hx
    have := m1 x (by cases A1 <;> exact hx)
    omega
  · intro x hx
    have : gq = x := Option.some.inj hx
    omega
  · have hSk : ∀ y : Int × List Int, (S.set i y).getD k (0, []) = if i = k then y else S.getD k (0, []) := fun y => by
      rw [List.getD_eq_getElem?_getD, List.getElem?_set]
      split
      · rw [if_pos (by omega)]; rfl
      · rw [List.getD_eq_getElem?_getD]
    by_cases hik : i = k
    · subst hik
      show (P.getD i (0, undef)).1 = ((S.set i _).getD i (0, [])).1 ∧ OwnI _ base (P.getD i (0, undef)).2 ((S.set i _).getD i (0, [])).2
      rw [hSk, if_pos rfl, hv]
      exact ⟨p1, p2.store j u⟩
    · obtain ⟨q1, q2⟩ := h.each k hk
      show (P.getD k (0, undef)).1 = ((S.set i _).getD k (0, [])).1 ∧ OwnI _ base (P.getD k (0, undef)).2 ((S.set i _).getD k (0, [])).2
      rw [hSk, if_neg hik]
      refine ⟨q1, row_far q2 fun x hx => ?_⟩
      rcases Nat.lt_or_ge i k with q | q
      · have := m4 i k q hk gE x hE hx; omega
      · have := m4 k i (by omega) hi x gE hx hE; omega
theorem fxCells_set {l : List Bell.Fx} {k : Nat} (hk : k < l.length) (P : Int) : (fxCells l).set (k * 5 + 4) (.int .i64 P) = fxCells (l.set k { l[k] with p := P }) := by
  induction l generalizing k with
  | nil => simp at hk
  | cons p l ih =>
    have e : fxCells (p :: l) = Value.int .i64 p.t :: Value.int .i64 p.x :: Value.int .i64 p.y :: Value.int .i64 p.z :: Value.int .i64 p.p :: fxCells l := rfl
    cases k with
    | zero => simp [e, fxCells]
    | succ k =>
      have := ih (k := k) (by simpa using hk)
      rw [e, show (k + 1) * 5 + 4 = k * 5 + 4 + 1 + 1 + 1 + 1 + 1 by omega]
      simp only [List.set_cons_succ, this, List.getElem_cons_succ]
      rfl
/-- One power of a track is changed in place. -/
theorem OwnTR.raise {w : World} {base g n c : Nat} {f : Int} {l : List Bell.Fx} {k : Nat} (h : OwnTR w base (.slice (some ⟨g, 0, none⟩) n c) (Bell.mapK (Bell.sg f) l k)) (hn : l.length = n) (hk : k < n) :
    OwnTR (w.setCell ⟨g, k * 5 + 4, none⟩ (.int .i64 (min 100 ((Bell.fxAt l k).p + f)))) base (.slice (some ⟨g, 0, none⟩) n c) (Bell.mapK (Bell.sg f) l (k + 1)) := by
  have hl := Bell.mapK_len (Bell.sg f) l k
  have hl2 := Bell.mapK_len (Bell.sg f) l (k + 1)
  have hkl : k < l.length := by omega
  unfold OwnTR at h ⊢
  rw [hl, hn] at h
  rw [hl2, hn]
  have h2 := (World.ownsRow.stored h (k * 5 + 4) (.int .i64 (min 100 ((Bell.fxAt l k).p + f)))).1
  rw [fxCells_set (by omega)] at h2
  have e : (Bell.mapK (Bell.sg f) l k)[k]'(by omega) = l[k] := by
    have := Bell.mapK_past (Bell.sg f) (l := l) (Nat.le_refl k)
    rw [List.getElem?_eq_getElem (by omega), List.getElem?_eq_getElem hkl] at this
    exact Option.some.inj this
  rw [e] at h2
  have e2 : ({ l[k] with p := min 100 ((Bell.fxAt l k).p + f) } : Bell.Fx) = Bell.sg f l[k] := by rw [Bell.fxAt_get hkl]; rfl
  rw [e2, Bell.mapK_succ (Bell.sg f) hkl] at h2
  exact h2
/-- The reference's copy of a track. -/
theorem refOwnedTrack_any (b off n c : Nat) (l : List Bell.Fx) (w : World) (hz : TrAt w (some ⟨b, off, none⟩) n l) (hn : 0 < n) (hn2 : n ≤ 100000) :
    Calls Tryz.prog 80 #[.slice (some ⟨b, off, none⟩) n c] w fun e w' => ∃ g c', e = .returned (.slice (some ⟨g, 0, none⟩) n c') ∧ OwnTR w' w.heap.size (.slice (some ⟨g, 0, none⟩) n c') l ∧ Below w.heap.size w w' := by
  obtain ⟨i0, hi, hz0, hz1, hz2⟩ := info_parts infoFixR
  have HZ := Lib.hid hz
  clear hz
  go_enter Tryz.func80, Tryz.ntmps80
  go_wp2_with (at_builtin; refine wpList_copy rfl _ _ 62 140 i0 _ 5 40 Tryz.underlying62 hi hz0 hz1 hz2 rfl (by decide) rfl ⟨_, rfl⟩ rfl hn (by rw [fxCells_len, HZ.out.1]) (HZ.out.keep ((Below.refl _ _).alloc (Nat.le_refl _) _)).cellsAt (by unfold maxLen; omega) (by omega) ?_; intro gq cq w5 hE hown hq1 hq2)
  have HB : Hid (Below w.heap.size w w5) := ((Below.refl _ _).alloc (Nat.le_refl _) _).trans (hE.below.mono (by simp))
  have HO : Hid (OwnTR w5 w.heap.size (.slice (some ⟨gq, 0, none⟩) n cq) l) := by
    show w5.ownsRow w.heap.size 140 5 _ l.length (fxCells l)
    rw [HZ.out.1]
    exact ⟨hown.1, hown.2.imp id fun ⟨g, cap, cur, e, h1, r⟩ => ⟨g, cap, cur, e, Nat.le_trans (by simp) h1, r⟩⟩
  clear hE hown hq1 hq2
  go_wp2
  go_ret
  exact ⟨gq, cq, rfl, HO.out, HB.out⟩
theorem refShortTrack_st (A : Option Addr) (n c : Nat) (w : World) :
    Calls Tryz.prog 34 #[.slice A n c] w fun e w' => e = .returned (.bool (decide ((n : Int) ≤ 17))) ∧ Below w.heap.size w w' := by
  go_enter Tryz.func34, Tryz.ntmps34
  go_wp2
  go_ret
  exact ⟨rfl, Below.refl _ _⟩
end Go.Proofs.YtmafmebcgmegeaaGreatDoor

namespace Go.Proofs.YtmafmebcgmegeaaGreatDoor
open Go.RowKit Go.Sort
theorem set_cells_at (w : World) (t : TypeId) (a b : Value) : ∀ (j : Nat) (u : Value), [a, b][j]? = some u → (w.alloc (.cells #[a, b] t)).cell? ((⟨w.heap.size, 0, none⟩ : Addr).add j) = some u := fun j u h => by
  rw [addAddr, Nat.zero_add, (Blk.new w t #[a, b]).cell j]
  simpa using h
theorem own_shapeG {w : World} {base size n : Nat} {e : TypeId} {v : Value} {xs : List Value} (h : w.ownsRow base e size v (n + 1) xs) : ∃ g c, v = .slice (some ⟨g, 0, none⟩) (n + 1) c := by
  rcases h.2 with ⟨_, h0⟩ | ⟨g, cap, cur, h1, _⟩
  · omega
  · exact ⟨g, cap, h1⟩
theorem take_one (P : List (Int × Value)) {k : Nat} (hk : k < P.length) : P.take (k + 1) = P.take k ++ [P.getD k (0, undef)] := by
  rw [List.take_succ_eq_append_getElem hk, List.getD_eq_getElem?_getD, List.getElem?_eq_getElem hk]
  rfl
set_option maxHeartbeats 1000000 in
set_option maxRecDepth 100000 in
theorem given_any {nm : ByteArray} {sh : List Int} {T : Bell.Ty} {sa : Option Addr} {sn sc : Nat} {qa : Option Addr} {qn qc : Nat} {ga : Option Addr} {gn gc : Nat} {cs : Array Value} (w : World) (hT : RTy w cs nm sh T sa sn sc qa qn qc ga gn gc) (hg : GoodT sh T) (hnm : nameB nm = true) (hsz : nm.size ≤ 40) :
    Calls Tryz.prog 16 #[.agg cs] w fun e w' => ∃ cs' sa' sc' qb qo qc' gb go gc', e = .returned (.agg cs') ∧ TyOk w' cs' nm sh T sa' sn sc' qb qo qn qc' gb go gn gc' ∧ Below w.heap.size w w' := by
  have hgn : 0 < gn ∧ gn ≤ 6 := by have h1 := hg.cnt.1; rw [hT.sets.1] at h1; exact h1
  have HSL : Hid (T.sets.length = gn) := hT.sets.1
  have HT := Lib.hid hT
  have HG := Lib.hid hg
  have HNM := Lib.hid hnm
  have HSZ := Lib.hid hsz
  have IT : Hid ((Tryz.prog.info? 26).map (·.size) = some cs.size) := by show _ = _; rw [hT.cells]; kernel_rfl
  have HCZ : Hid (cs.size = 13) := by show _ = _; rw [hT.cells]; rfl
  clear hT hg hnm hsz
  go_enter Tryz.func16, Tryz.ntmps16
  go_upto_region 1 with fail
  obtain ⟨w1, hw1⟩ : ∃ W, W = (w.alloc (.cells cs 26)).alloc (.cells #[.string ⟨#[]⟩, .slice none 0 0, .int .i64 0, .int .i64 0, .int .i64 0, .int .i64 0, .int .i64 0, .int .i64 0, .int .i64 0, .int .i64 0, .int .i64 0, .slice none 0 0, .slice none 0 0] 42) := ⟨_, rfl⟩
  rw [← hw1]
  have T1 : Hid (Blk w1 w.heap.size 26 cs) := by show Blk _ _ _ _; rw [hw1]; exact (Blk.new _ _ _).alloc _
  have O1 : Hid (Blk w1 (w.heap.size + 1) 42 #[.string ⟨#[]⟩, .slice none 0 0, .int .i64 0, .int .i64 0, .int .i64 0, .int .i64 0, .int .i64 0, .int .i64 0, .int .i64 0, .int .i64 0, .int .i64 0, .slice none 0 0, .slice none 0 0]) := by show Blk _ _ _ _; rw [hw1]; exact Blk.at_size _ _ (by simp)
  have HB1 : Hid (Below w.heap.size w w1) := by show Below _ _ _; rw [hw1]; exact ((Below.refl _ _).alloc (Nat.le_refl _) _).alloc (by simp) _
  obtain ⟨g, hg⟩ : ∃ g, g = w.heap.size := ⟨_, rfl⟩
  obtain ⟨g2, hg2⟩ : ∃ g2, g2 = w.heap.size + 1 := ⟨_, rfl⟩
  rw [← hg2] at O1 ⊢
  rw [← hg] at T1 ⊢
  have HG1 : Hid (w.heap.size ≤ g) := by show _ ≤ _; omega
  have HG2 : Hid (w.heap.size ≤ g2) := by show _ ≤ _; omega
  have hg12 : g2 ≠ g := by omega
  clear hw1 hg hg2
  go_wp2_with (refine wpList_load_row rfl 26 _ rfl g rfl 26 cs (0, 0) _ T1.out Tryz.underlying26 rfl IT.out ?_)
  refine (refOwned_any w1 (HT.out.keep HB1.out) HG.out).mono ?_
  rintro e w2 ⟨base, A1, c1, gq, c2, gS, cS, P, rfl, hbase, hown, hb⟩
  have hgl : g < w1.heap.size := lt_of_block T1.out
  have hgl2 : g2 < w1.heap.size := lt_of_block O1.out
  have hs12 := hb.size
  have T2 := Lib.hid (T1.out.below hb)
  have O2 := Lib.hid (O1.out.below hb)
  have HB2 := Lib.hid (HB1.out.trans (hb.mono HB1.out.size))
  obtain ⟨cs2, hcs⟩ : ∃ c, c = tyW nm (.slice A1 sn c1) T (.slice (some ⟨gq, 0, none⟩) qn c2) (.slice (some ⟨gS, 0, none⟩) gn cS) := ⟨_, rfl⟩
  rw [← hcs]
  have IT2 : Hid ((Tryz.prog.info? 26).map (·.size) = some cs2.size) := by show _ = _; rw [hcs]; kernel_rfl
  have TS2 : Hid (cs.size = cs2.size) := by show _ = _; rw [hcs, HCZ.out]; rfl
  have TO2 : Hid (cs2.all (fun u => u.oneCell') = true) := by show _ = _; rw [hcs]; simp [tyW, Value.oneCell']
  have HCS := Lib.hid hcs
  have HOW := Lib.hid hown
  clear hown hb T1 O1 HB1 HT IT hcs
  go_upto_region 2 with (refine wpList_store_row rfl 26 _ _ rfl g cs2 rfl rfl 26 _ T2.out IT2.out TS2.out TO2.out ?_)
  obtain ⟨w3, hw3⟩ : ∃ W, W = w2.setRow g cs2 := ⟨_, rfl⟩
  rw [← hw3]
  have T3 : Hid (Blk w3 g 26 cs2) := by show Blk _ _ _ _; rw [hw3]; exact T2.out.setRow _
  have O3 : Hid (Blk w3 g2 42 #[.string ⟨#[]⟩, .slice none 0 0, .int .i64 0, .int .i64 0, .int .i64 0, .int .i64 0, .int .i64 0, .int .i64 0, .int .i64 0, .int .i64 0, .int .i64 0, .slice none 0 0, .slice none 0 0]) := by show Blk _ _ _ _; rw [hw3]; exact O2.out.setRow_far hg12 _
  have HB3 : Hid (Below w.heap.size w w3) := by show Below _ _ _; rw [hw3]; exact HB2.out.setRow' HG1.out _
  have OW3 : Hid (OwnTy w3 base sh T A1 sn c1 gq qn c2 gS gn cS P) := HOW.out.high fun b hb _ => by rw [hw3]; exact setRow_other w2 g b cs2 (by omega)
  have HGB : Hid (g2 < base ∧ g < base) := ⟨by omega, by omega⟩
  clear hw3 T2 O2 HB2 IT2 TS2 TO2 HOW
  obtain ⟨d0, hd0⟩ : ∃ x, x = T.direct.getD 0 0 := ⟨_, rfl⟩
  obtain ⟨d1, hd1⟩ : ∃ x, x = T.direct.getD 1 0 := ⟨_, rfl⟩
  obtain ⟨d2, hd2⟩ : ∃ x, x = T.direct.getD 2 0 := ⟨_, rfl⟩
  obtain ⟨d3, hd3⟩ : ∃ x, x = T.direct.getD 3 0 := ⟨_, rfl⟩
  obtain ⟨d4, hd4⟩ : ∃ x, x = T.direct.getD 4 0 := ⟨_, rfl⟩
  obtain ⟨d5, hd5⟩ : ∃ x, x = T.direct.getD 5 0 := ⟨_, rfl⟩
  obtain ⟨d6, hd6⟩ : ∃ x, x = T.direct.getD 6 0 := ⟨_, rfl⟩
  obtain ⟨d7, hd7⟩ : ∃ x, x = T.direct.getD 7 0 := ⟨_, rfl⟩
  have r0 : w3.cell? ⟨g, 0, none⟩ = some (.string nm) := (T3.out.cell 0).trans (by rw [HCS.out]; rfl)
  have r1 : w3.cell? ⟨g, 1, none⟩ = some (.slice A1 sn c1) := (T3.out.cell 1).trans (by rw [HCS.out]; rfl)
  have r2 : w3.cell? ⟨g, 2, none⟩ = some (.int .i64 d0) := (T3.out.cell 2).trans (by rw [HCS.out, hd0]; rfl)
  have r3 : w3.cell? ⟨g, 3, none⟩ = some (.int .i64 d1) := (T3.out.cell 3).trans (by rw [HCS.out, hd1]; rfl)
  have r4 : w3.cell? ⟨g, 4, none⟩ = some (.int .i64 d2) := (T3.out.cell 4).trans (by rw [HCS.out, hd2]; rfl)
  have r5 : w3.cell? ⟨g, 5, none⟩ = some (.int .i64 d3) := (T3.out.cell 5).trans (by rw [HCS.out, hd3]; rfl)
  have r6 : w3.cell? ⟨g, 6, none⟩ = some (.int .i64 d4) := (T3.out.cell 6).trans (by rw [HCS.out, hd4]; rfl)
  have r7 : w3.cell? ⟨g, 7, none⟩ = some (.int .i64 d5) := (T3.out.cell 7).trans (by rw [HCS.out, hd5]; rfl)
  have r8 : w3.cell? ⟨g, 8, none⟩ = some (.int .i64 d6) := (T3.out.cell 8).trans (by rw [HCS.out, hd6]; rfl)
  have r9 : w3.cell? ⟨g, 9, none⟩ = some (.int .i64 d7) := (T3.out.cell 9).trans (by rw [HCS.out, hd7]; rfl)
  have r10 : w3.cell? ⟨g, 10, none⟩ = some (.int .i64 T.side) := (T3.out.cell 10).trans (by rw [HCS.out]; rfl)
  have r11 : w3.cell? ⟨g, 11, none⟩ = some (.slice (some ⟨gq, 0, none⟩) qn c2) := (T3.out.cell 11).trans (by rw [HCS.out]; rfl)
  have r12 : w3.cell? ⟨g, 12, none⟩ = some (.slice (some ⟨gS, 0, none⟩) gn cS) := (T3.out.cell 12).trans (by rw [HCS.out]; rfl)
  have HD0 := Lib.hid hd0
  clear hd0
  have HD1 := Lib.hid hd1
  clear hd1
  have HD2 := Lib.hid hd2
  clear hd2
  have HD3 := Lib.hid hd3
  clear hd3
  have HD4 := Lib.hid hd4
  clear hd4
  have HD5 := Lib.hid hd5
  clear hd5
  have HD6 := Lib.hid hd6
  clear hd6
  have HD7 := Lib.hid hd7
  clear hd7
  go_upto_region 3 with fail
  obtain ⟨g3, hg3⟩ : ∃ x, x = w3.heap.size := ⟨_, rfl⟩
  obtain ⟨w4, hw4⟩ : ∃ W, W = w3.alloc (.cells #[.string nm, .slice A1 sn c1, .int .i64 d0, .int .i64 d1, .int .i64 d2, .int .i64 d3, .int .i64 d4, .int .i64 d5, .int .i64 d6, .int .i64 d7, .int .i64 T.side, .slice (some ⟨gq, 0, none⟩) qn c2, .slice none 0 0] 42) := ⟨_, rfl⟩
  rw [← hw4]
  rw [← hg3]
  have hb4 : Below w3.heap.size w3 w4 := by rw [hw4]; exact (Below.refl _ _).alloc (Nat.le_refl _) _
  have P4 : Hid (Blk w4 g3 42 (tyW nm (.slice A1 sn c1) T (.slice (some ⟨gq, 0, none⟩) qn c2) (.slice none 0 0))) := by
    show Blk _ _ _ _
    rw [hw4, hg3]
    rw [show tyW nm (.slice A1 sn c1) T (.slice (some ⟨gq, 0, none⟩) qn c2) (.slice none 0 0) = #[.string nm, .slice A1 sn c1, .int .i64 d0, .int .i64 d1, .int .i64 d2, .int .i64 d3, .int .i64 d4, .int .i64 d5, .int .i64 d6, .int .i64 d7, .int .i64 T.side, .slice (some ⟨gq, 0, none⟩) qn c2, .slice none 0 0] by unfold tyW; rw [← HD0.out, ← HD1.out, ← HD2.out, ← HD3.out, ← HD4.out, ← HD5.out, ← HD6.out, ← HD7.out]]
    exact Blk.new _ _ _
  have HB4 : Hid (Below w3.heap.size w3 w4) := hb4
  have t12 := ((T3.out.below hb4).cell 12).trans ((T3.out.cell 12).symm.trans r12)
  have HG3 : Hid (w3.heap.size ≤ g3) := by show _ ≤ _; omega
  clear hw4 hb4 r0 r1 r2 r3 r4 r5 r6 r7 r8 r9 r10 r11 r12 hg3
  go_wp2
  go_loopw [5, 22] (fun _ i wr => ∃ (k : Nat) (vs : Value), k ≤ gn ∧ i = .int .i64 k ∧ Hid (Blk wr g3 42 (tyW nm (.slice A1 sn c1) T (.slice (some ⟨gq, 0, none⟩) qn c2) vs)) ∧ Hid (wr.ownsRow w3.heap.size 172 2 vs k (stCells (P.take k))) ∧ Hid (Below w3.heap.size w3 wr)) (fun _ i _ => gn - (intOf i).toNat)
  case atStart => exact ⟨0, .slice none 0 0, Nat.zero_le _, rfl, P4.out, World.ownsRow_nil _ _ _ _, HB4.out⟩
  case round =>
    clear P4 HB4 t12
    obtain ⟨k, vs, hk, rfl, hP3, hrow, hbw⟩ := hrel
    have OWr := Lib.hid (OW3.out.high (fun b _ h2 => hbw.out.block b h2))
    by_cases hlt : k < gn
    · have hlP : k < P.length := by rw [OW3.out.len]; exact hlt
      obtain ⟨e1, e2⟩ := OWr.out.each k hlt
      obtain ⟨A, n, c, hv, _⟩ := e2.slice
      have l2 := stCells_len P
      have p0 : wr.cell? ⟨gS, k * 2, none⟩ = some (.int .i64 (P.getD k (0, undef)).1) := (World.ownsRow.cellAt OWr.out.row (k * 2) (by omega)).trans (stCells_at P k hlP).1
      have p1 : wr.cell? ⟨gS, k * 2 + 1, none⟩ = some (.slice A n c) := ((World.ownsRow.cellAt OWr.out.row (k * 2 + 1) (by omega)).trans (stCells_at P k hlP).2).trans (congrArg some hv)
      obtain ⟨p, hp⟩ : ∃ p, p = (P.getD k (0, undef)).1 := ⟨_, rfl⟩
      rw [← hp] at p0
      have HTK : Hid (P.take (k + 1) = P.take k ++ [(p, .slice A n c)]) := by
        show _ = _
        rw [take_one P hlP, hp, ← hv]
      have hlti : (k : Int) < (gn : Int) := by omega
      clear hp hv e1 e2 l2 hlP OWr
      go_upto_region 6 with fail
      obtain ⟨w5, hw5⟩ : ∃ W, W = (wr.alloc (.cells #[.int .i64 p, .slice A n c] 145)) := ⟨_, rfl⟩
      rw [← hw5]
      have S5 : Hid (Blk w5 (wr.heap.size) 145 #[.int .i64 p, .slice A n c]) := by show Blk _ _ _ _; rw [hw5]; exact Blk.new _ _ _
      have hb : Below wr.heap.size wr w5 := by rw [hw5]; exact ((Below.refl _ _).alloc (Nat.le_refl _) _)
      obtain ⟨g5, hg5⟩ : ∃ g, g = wr.heap.size := ⟨_, rfl⟩
      have HGw5 : Hid (g5 = wr.heap.size) := hg5
      rw [← hg5] at S5
      try rw [← hg5]
      clear hw5 hg5
      have hP5 := hP3.out.below hb
      have row5 := row_ext hrow.out hb
      have hbe : Below w3.heap.size w3 w5 := hbw.out.trans (hb.mono hbw.out.size)
      have c12 : w5.cell? ⟨g3, 12, none⟩ = some vs := hP5.cell 12
      have s0 := S5.out.cell 0
      have s1 := S5.out.cell 1
      simp only [List.getElem?_toArray, List.getElem?_cons_zero, List.getElem?_cons_succ] at s0 s1
      obtain ⟨iS, hiS, hzS, hsS, hbS⟩ := info_parts infoSet
      have HP5 := Lib.hid hP5
      have hsz5 := hbe.size
      have HBE := Lib.hid hbe
      have ROW5 := Lib.hid row5
      clear hb p0 p1 hP5 hbe row5 hP3 hrow hbw
      go_wp2_with (at_builtin; refine wpList_append_own _ rfl _ _ 40 rfl w3.heap.size 172 iS (.agg #[.int .i64 0, .slice none 0 0]) 2 32 Tryz.underlying40 hiS hzS hsS hbS rfl (by decide) vs k (stCells (P.take k)) rfl (World.ownsRow.alloc ROW5.out _) ⟨w5.heap.size, 0, none⟩ 1 1 [.int .i64 p, .slice A n c] rfl rfl (set_cells_at w5 172 _ _) (by simp [Value.oneCell']) (by unfold maxLen; omega) (by omega) (by simp; omega) ?_; intro v' w6 hown' hgrow _; obtain ⟨g6, c6, rfl⟩ := own_shapeG hown'; have P6 := row_blk (World.ownsRow.alloc ROW5.out _) hgrow (HP5.out.alloc _) (by decide); have z12 := P6.cell 12; have f12 := P6.frozen 12; simp only [tyW, List.getElem?_toArray, List.getElem?_cons_zero, List.getElem?_cons_succ] at z12)
      go_roundw
      case rel => exact ⟨k + 1, .slice (some ⟨g6, 0, none⟩) (k + 1) c6, by omega, by go_num, P6.set_ 12 _, by rw [HTK.out, stCells_snoc]; exact row_cell hown' P6 (by decide) 12 _, (Below.grown (HBE.out.alloc hsz5 _) hgrow (by simp; omega) (fun j hj => (ROW5.out.lt j hj).1)).setCell HG3.out _⟩
      case measure => simp [intOf]; omega
    · obtain rfl : k = gn := by omega
      clear hlt hk
      obtain ⟨gN, cN, rfl⟩ : ∃ g c, vs = .slice (some ⟨g, 0, none⟩) k c := by
        rcases hrow.out.2 with ⟨_, h0⟩ | ⟨g, cap, cur, h1, _⟩
        · omega
        · exact ⟨g, cap, h1⟩
      have OWz := Lib.hid (O3.out.below hbw.out)
      obtain ⟨tw, htw⟩ : ∃ tw, tw = tyW nm (.slice A1 sn c1) T (.slice (some ⟨gq, 0, none⟩) qn c2) (.slice (some ⟨gN, 0, none⟩) k cN) := ⟨_, rfl⟩
      rw [← htw] at hP3
      have HTW := Lib.hid htw
      have HTS : Hid (13 = tw.size) := by show _ = _; rw [htw]; rfl
      have tin : Hid ((Tryz.prog.info? 42).map (·.size) = some tw.size) := by show _ = _; rw [htw]; kernel_rfl
      have tone : Hid (tw.all (fun u => u.oneCell') = true) := by show _ = _; rw [htw]; simp [tyW, Value.oneCell']
      clear htw
      go_wp2_with (first | (refine wpList_load_row rfl 42 _ rfl g3 rfl 42 tw (0, 0) _ hP3.out Tryz.underlying42 rfl tin.out ?_) | (refine wpList_store_row rfl 42 _ _ rfl g2 tw rfl rfl 42 _ OWz.out tin.out HTS.out tone.out ?_))
      obtain ⟨wf, hwf⟩ : ∃ W, W = wr.setRow g2 tw := ⟨_, rfl⟩
      rw [← hwf]
      have RF : Blk wf g2 42 tw := by rw [hwf]; exact OWz.out.setRow _
      have OF : OwnTy wf base sh T A1 sn c1 gq qn c2 gS k cS P := OWr.out.high fun b hb _ => by rw [hwf]; exact setRow_other wr g2 b tw (by have := HGB.out.1; omega)
      have rowF : wf.ownsRow w3.heap.size 172 2 (.slice (some ⟨gN, 0, none⟩) k cN) k (stCells P) := by
        have h := hrow.out
        rw [List.take_of_length_le (by rw [OW3.out.len]; omega)] at h
        rw [hwf]; exact row_in_row h OWz.out (by decide) _
      have BW : Below w.heap.size w wf := by rw [hwf]; exact (HB3.out.trans (hbw.out.mono HB3.out.size)).setRow' HG2.out _
      have r0 : wf.cell? ⟨g2, 0, none⟩ = some (.string nm) := (RF.cell 0).trans (by rw [HTW.out]; rfl)
      have r1 : wf.cell? ⟨g2, 1, none⟩ = some (.slice A1 sn c1) := (RF.cell 1).trans (by rw [HTW.out]; rfl)
      have r2 : wf.cell? ⟨g2, 2, none⟩ = some (.int .i64 (T.direct.getD 0 0)) := (RF.cell 2).trans (by rw [HTW.out]; rfl)
      have r3 : wf.cell? ⟨g2, 3, none⟩ = some (.int .i64 (T.direct.getD 1 0)) := (RF.cell 3).trans (by rw [HTW.out]; rfl)
      have r4 : wf.cell? ⟨g2, 4, none⟩ = some (.int .i64 (T.direct.getD 2 0)) := (RF.cell 4).trans (by rw [HTW.out]; rfl)
      have r5 : wf.cell? ⟨g2, 5, none⟩ = some (.int .i64 (T.direct.getD 3 0)) := (RF.cell 5).trans (by rw [HTW.out]; rfl)
      have r6 : wf.cell? ⟨g2, 6, none⟩ = some (.int .i64 (T.direct.getD 4 0)) := (RF.cell 6).trans (by rw [HTW.out]; rfl)
      have r7 : wf.cell? ⟨g2, 7, none⟩ = some (.int .i64 (T.direct.getD 5 0)) := (RF.cell 7).trans (by rw [HTW.out]; rfl)
      have r8 : wf.cell? ⟨g2, 8, none⟩ = some (.int .i64 (T.direct.getD 6 0)) := (RF.cell 8).trans (by rw [HTW.out]; rfl)
      have r9 : wf.cell? ⟨g2, 9, none⟩ = some (.int .i64 (T.direct.getD 7 0)) := (RF.cell 9).trans (by rw [HTW.out]; rfl)
      have r10 : wf.cell? ⟨g2, 10, none⟩ = some (.int .i64 T.side) := (RF.cell 10).trans (by rw [HTW.out]; rfl)
      have r11 : wf.cell? ⟨g2, 11, none⟩ = some (.slice (some ⟨gq, 0, none⟩) qn c2) := (RF.cell 11).trans (by rw [HTW.out]; rfl)
      have r12 : wf.cell? ⟨g2, 12, none⟩ = some (.slice (some ⟨gN, 0, none⟩) k cN) := (RF.cell 12).trans (by rw [HTW.out]; rfl)
      have EQ : Value.agg #[.string nm, .slice A1 sn c1, .int .i64 (T.direct.getD 0 0), .int .i64 (T.direct.getD 1 0), .int .i64 (T.direct.getD 2 0), .int .i64 (T.direct.getD 3 0), .int .i64 (T.direct.getD 4 0), .int .i64 (T.direct.getD 5 0), .int .i64 (T.direct.getD 6 0), .int .i64 (T.direct.getD 7 0), .int .i64 T.side, .slice (some ⟨gq, 0, none⟩) qn c2, .slice (some ⟨gN, 0, none⟩) k cN] = .agg tw := by rw [HTW.out]; rfl
      (try simp only [Exit.inBlock, Exit.then])
      refine bodyPost_ret (v := .agg #[.string nm, .slice A1 sn c1, .int .i64 (T.direct.getD 0 0), .int .i64 (T.direct.getD 1 0), .int .i64 (T.direct.getD 2 0), .int .i64 (T.direct.getD 3 0), .int .i64 (T.direct.getD 4 0), .int .i64 (T.direct.getD 5 0), .int .i64 (T.direct.getD 6 0), .int .i64 (T.direct.getD 7 0), .int .i64 T.side, .slice (some ⟨gq, 0, none⟩) qn c2, .slice (some ⟨gN, 0, none⟩) k cN]) (by simp [results, Tryz.results16, go_sem, asAddr, r0, r1, r2, r3, r4, r5, r6, r7, r8, r9, r10, r11, r12]) rfl ?_
      rw [EQ]
      exact ⟨tw, A1, c1, gq, 0, c2, gN, 0, cN, rfl, tyOk_own HTW.out OF.sh OF.sq rowF OF.len OF.each HSL.out HG.out HNM.out HSZ.out OF.cap.1 OF.cap.2, BW⟩
end Go.Proofs.YtmafmebcgmegeaaGreatDoor

namespace Go.Proofs.YtmafmebcgmegeaaGreatDoor
open Go.RowKit Go.Sort
/-- Each operation behind the head waits for one that is behind the head, too. -/
def chainC (ops : Array Oper) (n : Nat) : Bool := (List.range ops.size).all fun t => decide (t ≤ n) || (List.range t).any fun u => decide (n ≤ u) && Region.waitsFor .any ops t u
/-- The first `n` are done. -/
def firstN (size n : Nat) : Array Bool := (Array.replicate n true) ++ (Array.replicate (size - n) false)
section
variable {P : Program} {ops : Array Oper} {Q : Exit → Act → World → Prop} {a : Act} {w : World}
/-- The one operation that may come up. -/
theorem any_next {fuel : Nat} {listed : Array Bool} {k : Nat} {o : Oper} (hr : Region.ready .any ops listed = [k]) (ho : ops[k]? = some o) (hg : o.guard = none) (h : Oper.wp P o a w (fun a' w' => wpAny P .any ops Q fuel (listed.setIfInBounds k true) a' w') Q) : wpAny P .any ops Q (fuel + 1) listed a w := by
  refine ⟨fun h0 => (by rw [h0] at hr; cases hr), fun i hi => ?_⟩
  rw [hr] at hi
  have hik : i = k := by simpa using hi
  subst hik
  unfold wpOp
  simp only [ho]
  rw [if_pos (by simp [Region.wanted, hg])]
  exact Or.inl h
/-- One that only reckons, taken first. -/
theorem any_take {fuel : Nat} {listed : Array Bool} {k : Nat} {o : Oper} {v : Value} (ho : ops[k]? = some o) (hs : Region.noSelect ops = true) (hf : Region.free .any ops listed k = true) (hr : (Region.ready .any ops listed).contains k = true)
    (hQ : ∀ c a w, Q (.panic c) (a.put o.dst v) w → Q (.panic c) a w) (hg : o.guard = none) (hy : ∀ w, (execOp a.eval o).run P w = .ok (.value v) w) (h : wpAny P .any ops Q fuel (listed.setIfInBounds k true) (a.put o.dst v) w) : wpAny P .any ops Q (fuel + 1) listed a w :=
  wpAny_first ho (Region.noSelect_spec hs) hQ fuel listed a w (Region.free_spec ho hf) (by simpa using hr) (Or.inl ⟨by simp [Region.wanted, hg], hy⟩) h
theorem any_done {fuel : Nat} {listed : Array Bool} (hr : Region.ready .any ops listed = []) (h : Q .normal a w) : wpAny P .any ops Q fuel listed a w := by
  cases fuel with
  | zero => exact ⟨hr, h⟩
  | succ f => exact ⟨fun _ => h, fun i hi => by rw [hr] at hi; cases hi⟩
end
end Go.Proofs.YtmafmebcgmegeaaGreatDoor
