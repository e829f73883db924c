/- Texts QD Xt of the proof. -/
import Derived.Test.YtmafmebcgmegeaaGreatDoorFz17
import Derived.Test.YtmafmebcgmegeaaGreatDoorFz12
import Derived.Test.YtmafmebcgmegeaaGreatDoorFz10
namespace Go.Proofs.YtmafmebcgmegeaaGreatDoor
open Go.RowKit Go.Sort
noncomputable def nameE (s : ByteArray) : Int := if nameB s = true then 0 else 8
theorem srcName_any (s : ByteArray) (w : World) (hs : s.size ≤ 140737488351232) :
    Calls Tryz.prog 108 #[.string s] w fun e w' => e = .returned (.int .i64 (nameE s)) ∧ Below w.heap.size w w' := by
  cases hB : nameB s with
  | true =>
    have hr : nameE s = 0 := by unfold nameE; rw [if_pos hB]
    rw [hr]; exact srcName_ok s w hs hB
  | false =>
    have hr : nameE s = 8 := by unfold nameE; rw [if_neg (by rw [hB]; decide)]
    rw [hr]; have HN := Lib.hid hB; clear hB hr
    go_enter Tryz.func108, Tryz.ntmps108
    go_wp2_with fail
    refine (isName_any s w hs).mono ?_; rw [HN.out]; rintro e w1 ⟨rfl, hb⟩; have HB := Lib.hid hb; clear hb; go_wp2; go_ret; exact ⟨rfl, HB.out⟩
theorem OnlyMap.tr2 {b n : Nat} {A : Option Addr} {l : List Bell.Fx} {w w' : World} {es : List (ByteArray × Value)} (h : OnlyMap b w w') (ht : TrAt w A n l) (hm : MapIs w b es) : TrAt w' A n l := by
  refine ⟨ht.1, fun hn => ?_⟩; obtain ⟨g, o, rfl, hf⟩ := ht.2 hn; exact ⟨g, o, rfl, fixes_keepB hf (h.block g (World.block_lt_of_cell? _ _ (hf.2 0 hn).1) (map_ne (hf.2 0 hn).1 hm))⟩
def OnceS (sm : Nat) (ns : List ByteArray) (W W' : World) : Prop := OnlyMap sm W W' ∧ NamesIn W' sm ns
theorem base_of {sm : Nat} {ns : List ByteArray} {w W : World} (h : Ext w W ∨ AfterS w (OnceS sm ns) W) : OnlyMap sm w W := by
  rcases h with h | ⟨W1, W2, h1, h2, h3⟩
  · exact OnlyMap.of h
  · exact ((OnlyMap.of h1).trans h2.1).trans (OnlyMap.of h3)
theorem AfterS.names {sm : Nat} {ns : List ByteArray} {w W : World} (h : AfterS w (OnceS sm ns) W) : NamesIn W sm ns := by
  obtain ⟨W1, W2, h1, h2, h3⟩ := h; exact MapIs.keep h2.2 h3
theorem pure_at {vs : List Value} {S : World → World → Prop} {n : Nat} : ∀ j, j < n → ∀ v W W', (GR.at (vs.map GR.eq) j).r v W → S W W' → (GR.at (vs.map GR.eq) j).r v W' := by
  intro j _ v W W' h _; unfold GR.at at *; rw [List.getD_eq_getElem?_getD, List.getElem?_map] at *
  cases hj : vs[j]? with
  | none => trivial
  | some u => rw [hj] at h; exact h
theorem typeM_under : Tryz.prog.underlying 219 = some (.map 9 42) := by kernel_rfl
def knownE (ok : Bool) : Int := if ok then 0 else 10
noncomputable def flE (ns : List ByteArray) (ok : Bool) (nm : ByteArray) (tr : List Bell.Fx) : Int := firstE [nameE nm, twiceE ns nm, knownE ok, trackE tr]
theorem enters_once (args : Array Value) (W : World) : (callFunc 218 args).run Tryz.prog W = .ok (.enter 218 args) W := by kernel_rfl
attribute [local go_sem] enters_once in
set_option maxHeartbeats 1000000 in
set_option maxRecDepth 100000 in
theorem listed1_any (nm ty : ByteArray) (tr : List Bell.Fx) (A : Option Addr) (n c : Nat) (gm sm gk mb : Nat) (ns : List ByteArray) (vs : Array Value) (ok : Bool) (w : World) (hgm : w.cell? ⟨gm, 0, none⟩ = some (.map (some sm))) (hns : NamesIn w sm ns) (hgk : w.cell? ⟨gk, 0, none⟩ = some (.map (some mb)))
    (hlk : ∀ W, W.heap[mb]? = w.heap[mb]? → (Instr.lookup 219 (.map (some mb)) (.string ty) true).run Tryz.prog W = .ok (.tuple #[.agg vs, .bool ok]) W) (hmb : mb < w.heap.size) (hvs : vs.size = 13) (hvo : vs.all (·.oneCell') = true)
    (htr : TrAt w A n tr) (hn : n ≤ 140737488351232) (hsz : nm.size ≤ 140737488351232) :
    Calls Tryz.prog 192 #[.agg #[.string nm, .string ty, .slice A n c], .func (.func 218) #[] #[.pointer (some ⟨gm, 0, none⟩)], .pointer (some ⟨gk, 0, none⟩)] w
      fun e w' => e = .returned (.int .i64 (flE ns ok nm tr)) ∧ NamesIn w' sm (addN ns nm) ∧ OnlyMap sm w w' := by
  have HGM := Lib.hid hgm; have HNS0 := Lib.hid hns; have HTR0 := Lib.hid htr; have HLK := Lib.hid hlk; obtain ⟨V, hV⟩ : ∃ V, V = flE ns ok nm tr := ⟨_, rfl⟩; have HV := Lib.hid hV; rw [← hV]; have hkl := World.block_lt_of_cell? _ _ hgk; simp only at hkl; clear hgm hns htr hlk hV
  go_enter Tryz.func192, Tryz.ntmps192
  go_upto_region 1 with fail
  obtain ⟨w1, hw1⟩ : ∃ W, W = (w.alloc (.cells #[.string nm, .string ty, .slice A n c] 168)) := ⟨_, rfl⟩; rw [← hw1]; have B3 : Hid (Blk w1 (w.heap.size) 168 #[.string nm, .string ty, .slice A n c]) := by show Blk _ _ _ _; rw [hw1]; exact Blk.new _ _ _
  have hb1 : Below w.heap.size w w1 := by rw [hw1]; exact ((Below.refl _ _).alloc (Nat.le_refl _) _)
  obtain ⟨g3, hg3⟩ : ∃ g, g = w.heap.size := ⟨_, rfl⟩; have HGw1 : Hid (g3 = w.heap.size) := hg3; rw [← hg3] at B3
  try rw [← hg3]
  clear hw1 hg3; have HK : Hid (w1.cell? ⟨gk, 0, none⟩ = some (.map (some mb))) := (hb1.cell (p := ⟨gk, 0, none⟩) hkl).trans hgk; have hgm : Hid (w1.cell? ⟨gm, 0, none⟩ = some (.map (some sm))) := (hb1.cell (p := ⟨gm, 0, none⟩) (World.block_lt_of_cell? _ _ HGM.out)).trans HGM.out; have HNS : Hid (NamesIn w1 sm ns) := MapIs.keep HNS0.out hb1; have HTR : Hid (TrAt w1 A n tr) := HTR0.out.keep hb1; have hlk := HLK.out w1 (hb1.block mb hmb); have HOM : Hid (OnlyMap sm w w1) := OnlyMap.of hb1; clear hb1 hgk hkl HGM HNS0 HTR0 HLK hmb; have k0 := HK.out; have BB := B3.out; have zc0 := BB.cell 0; have zf0 := BB.frozen 0; have zc1 := BB.cell 1; have zf1 := BB.frozen 1; have zc2 := BB.cell 2; have zf2 := BB.frozen 2; simp only [List.getElem?_toArray, List.getElem?_cons_zero, List.getElem?_cons_succ] at zc0 zc1 zc2; clear BB
  go_upto_region 2 with (refine wpList_store_row rfl 42 _ _ rfl _ vs rfl rfl 42 _ (Blk.new _ _ _) (by rw [hvs]; kernel_rfl) (by rw [hvs]; rfl) hvo ?_)
  generalize hw2 : World.setRow (World.alloc w1 _) w1.heap.size vs = w2
  have hb2 : Below w1.heap.size w1 w2 := by rw [← hw2]; exact ((Below.refl _ _).alloc (Nat.le_refl _) _).setRow' (Nat.le_refl _) _
  obtain ⟨g6, hg6⟩ : ∃ g, g = w1.heap.size := ⟨_, rfl⟩; rw [← hg6]; clear hw2 hg6 zc0 zc1 zc2 zf0 zf1 zf2 k0 hlk; replace hgm : Hid (w2.cell? ⟨gm, 0, none⟩ = some (.map (some sm))) := (hb2.cell (p := ⟨gm, 0, none⟩) (World.block_lt_of_cell? _ _ hgm.out)).trans hgm.out; replace HNS : Hid (NamesIn w2 sm ns) := MapIs.keep HNS.out hb2; replace HTR : Hid (TrAt w2 A n tr) := HTR.out.keep hb2; replace HOM : Hid (OnlyMap sm w w2) := HOM.out.trans (OnlyMap.of hb2); replace B3 := Lib.hid (B3.out.below hb2); clear hb2 HK; have hne3 : g3 ≠ sm := map_ne ((B3.out.cell 0).trans rfl) HNS.out; refine wp_region_once 12 6 (by omega) (OnceS sm (addN ns nm)) (by kernel_rfl) (by kernel_rfl) (List.map GR.eq [.pointer (some ⟨g3, 0, none⟩), .string nm, .int .i64 (nameE nm), .func (.func 218) #[] #[.pointer (some ⟨gm, 0, none⟩)], .pointer (some ⟨g3, 0, none⟩), .string nm, .int .i64 (twiceE ns nm), .bool ok, .int .i64 (knownE ok), .pointer (some ⟨g3, 2, none⟩), .slice A n c, .int .i64 (trackE tr)]) 29 rfl (by kernel_rfl) pure_at ?_ ?_
  · refine ⟨?_, ?_, ?_, ?_, ?_, ?_, ?_, ?_, ?_, ?_, ?_, ?_, trivial⟩
    · intro a W hk hB hd ho; have e3 : a.tmps[3]?.getD undef = .pointer (some ⟨g3, 0, none⟩) := ho 3 (by kernel_rfl); exact os_same (by decide) (v := .pointer (some ⟨g3, 0, none⟩)) (by go_simp) rfl
    · intro a W hk hB hd ho; have e15 : a.tmps[15]?.getD undef = .pointer (some ⟨g3, 0, none⟩) := hd 0 15 (by kernel_rfl) (by kernel_rfl); have OM := base_of hB; have C3 := OM.blk B3.out hne3; have c0 := C3.cell 0; simp only [List.getElem?_toArray, List.getElem?_cons_zero] at c0; exact os_same (by decide) (v := .string nm) (by go_simp) rfl
    · intro a W hk hB hd ho; have e16 : a.tmps[16]?.getD undef = .string nm := hd 1 16 (by kernel_rfl) (by kernel_rfl); refine os_call (by decide) (f := 108) (args := #[.string nm]) (by go_simp) ?_; refine (srcName_any nm W hsz).mono ?_; rintro e w' ⟨rfl, hb⟩; exact ⟨_, rfl, hb, rfl⟩
    · intro a W hk hB hd ho; have e1 : a.tmps[1]?.getD undef = .func (.func 218) #[] #[.pointer (some ⟨gm, 0, none⟩)] := ho 1 (by kernel_rfl); exact os_same (by decide) (v := .func (.func 218) #[] #[.pointer (some ⟨gm, 0, none⟩)]) (by go_simp) rfl
    · intro a W hk hB hd ho; have e3 : a.tmps[3]?.getD undef = .pointer (some ⟨g3, 0, none⟩) := ho 3 (by kernel_rfl); exact os_same (by decide) (v := .pointer (some ⟨g3, 0, none⟩)) (by go_simp) rfl
    · intro a W hk hB hd ho; have e19 : a.tmps[19]?.getD undef = .pointer (some ⟨g3, 0, none⟩) := hd 4 19 (by kernel_rfl) (by kernel_rfl); have OM := base_of hB; have C3 := OM.blk B3.out hne3; have c0 := C3.cell 0; simp only [List.getElem?_toArray, List.getElem?_cons_zero] at c0; exact os_same (by decide) (v := .string nm) (by go_simp) rfl
    · intro a W hk hB hd ho; have e18 : a.tmps[18]?.getD undef = .func (.func 218) #[] #[.pointer (some ⟨gm, 0, none⟩)] := hd 3 18 (by kernel_rfl) (by kernel_rfl); have e20 : a.tmps[20]?.getD undef = .string nm := hd 5 20 (by kernel_rfl) (by kernel_rfl); have hE0 := hk rfl; refine os_once (f := 218) (args := #[.string nm, .pointer (some ⟨gm, 0, none⟩)]) (by go_simp) ?_; refine (once_flight nm gm sm ns W ((hE0.cell (p := ⟨gm, 0, none⟩) (World.block_lt_of_cell? _ _ hgm.out)).trans hgm.out) (MapIs.keep HNS.out hE0)).mono ?_; rintro e w' ⟨rfl, h1, h2⟩; exact ⟨_, rfl, ⟨h2, h1⟩, rfl⟩
    · intro a W hk hB hd ho; have e7 : a.tmps[7]?.getD undef = .bool ok := ho 7 (by kernel_rfl); exact os_same (by decide) (v := .bool ok) (by go_simp) rfl
    · intro a W hk hB hd ho; have e22 : a.tmps[22]?.getD undef = .bool ok := hd 7 22 (by kernel_rfl) (by kernel_rfl); refine os_call (by decide) (f := 193) (args := #[.bool ok, .int .i64 10]) (by go_simp) ?_; refine (that_any ok 10 W).mono ?_; rintro e w' ⟨rfl, rfl⟩; exact ⟨_, rfl, Below.refl _ _, rfl⟩
    · intro a W hk hB hd ho; have e3 : a.tmps[3]?.getD undef = .pointer (some ⟨g3, 0, none⟩) := ho 3 (by kernel_rfl); exact os_same (by decide) (v := .pointer (some ⟨g3, 2, none⟩)) (by go_simp) rfl
    · intro a W hk hB hd ho; have e24 : a.tmps[24]?.getD undef = .pointer (some ⟨g3, 2, none⟩) := hd 9 24 (by kernel_rfl) (by kernel_rfl); have OM := base_of hB; have C3 := OM.blk B3.out hne3; have c2 := C3.cell 2; simp only [List.getElem?_toArray, List.getElem?_cons_zero, List.getElem?_cons_succ] at c2; exact os_same (by decide) (v := .slice A n c) (by go_simp) rfl
    · intro a W hk hB hd ho; have e25 : a.tmps[25]?.getD undef = .slice A n c := hd 10 25 (by kernel_rfl) (by kernel_rfl); have OM := base_of hB; refine os_call (by decide) (f := 45) (args := #[.slice A n c]) (by go_simp) ?_; refine (CheckTrack_any A n c tr W (OM.tr2 HTR.out HNS.out) hn).mono ?_; rintro e w' ⟨rfl, hb⟩; exact ⟨_, rfl, hb, rfl⟩
  intro vv w3 hA hR; have y0 : vv 0 = .pointer (some ⟨g3, 0, none⟩) := hR 0 (by omega); have y1 : vv 1 = .string nm := hR 1 (by omega); have y2 : vv 2 = .int .i64 (nameE nm) := hR 2 (by omega); have y3 : vv 3 = .func (.func 218) #[] #[.pointer (some ⟨gm, 0, none⟩)] := hR 3 (by omega); have y4 : vv 4 = .pointer (some ⟨g3, 0, none⟩) := hR 4 (by omega); have y5 : vv 5 = .string nm := hR 5 (by omega); have y6 : vv 6 = .int .i64 (twiceE ns nm) := hR 6 (by omega); have y7 : vv 7 = .bool ok := hR 7 (by omega); have y8 : vv 8 = .int .i64 (knownE ok) := hR 8 (by omega); have y9 : vv 9 = .pointer (some ⟨g3, 2, none⟩) := hR 9 (by omega); have y10 : vv 10 = .slice A n c := hR 10 (by omega); have y11 : vv 11 = .int .i64 (trackE tr) := hR 11 (by omega); simp only [List.range, List.range.loop, List.foldl_cons, List.foldl_nil, y0, y1, y2, y3, y4, y5, y6, y7, y8, y9, y10, y11, List.drop_succ_cons, List.drop_zero]
  simp only [dstAt, List.getElem?_toArray, List.getElem?_cons_zero, List.getElem?_cons_succ, Option.bind_some, Act.put, List.setIfInBounds_toArray, List.set_cons_zero, List.set_cons_succ]; clear y0 y1 y2 y3 y4 y5 y6 y7 y8 y9 y10 y11 hR; have HN3 := Lib.hid hA.names; have HO3 : Hid (OnlyMap sm w w3) := HOM.out.trans (base_of (.inr hA)); clear hA hgm HNS HTR HOM B3
  go_wp2_with fail
  obtain ⟨w4, hw4⟩ : ∃ W, W = (w3.alloc (.cells #[.int .i64 (nameE nm), .int .i64 (twiceE ns nm), .int .i64 (knownE ok), .int .i64 (trackE tr)] 37)) := ⟨_, rfl⟩; rw [← hw4]; have ES : Hid (Blk w4 (w3.heap.size) 37 #[.int .i64 (nameE nm), .int .i64 (twiceE ns nm), .int .i64 (knownE ok), .int .i64 (trackE tr)]) := by show Blk _ _ _ _; rw [hw4]; exact Blk.new _ _ _
  have hb4 : Below w3.heap.size w3 w4 := by rw [hw4]; exact ((Below.refl _ _).alloc (Nat.le_refl _) _)
  obtain ⟨ge, hge⟩ : ∃ g, g = w3.heap.size := ⟨_, rfl⟩; have HGw4 : Hid (ge = w3.heap.size) := hge; rw [← hge] at ES
  try rw [← hge]
  clear hw4 hge; refine (first4 _ _ (nameE nm) (twiceE ns nm) (knownE ok) (trackE tr) _ (ES.out.cell 0) (ES.out.cell 1) (ES.out.cell 2) (ES.out.cell 3)).mono ?_; rintro e w5 ⟨rfl, rfl⟩; have HN4 : Hid (NamesIn w4 sm (addN ns nm)) := MapIs.keep HN3.out hb4; have HO4 : Hid (OnlyMap sm w w4) := HO3.out.trans (OnlyMap.of hb4); clear ES hb4 HN3 HO3; go_wp2; go_ret; exact ⟨ret_int (by rw [HV.out]; rfl), HN4.out, HO4.out⟩
end Go.Proofs.YtmafmebcgmegeaaGreatDoor

namespace Go.Proofs.YtmafmebcgmegeaaGreatDoor
open Go.RowKit Go.Sort
theorem bfirst (l : List Int) : Bell.firstE l = firstE l := by
  induction l with
  | nil => rfl
  | cons a l ih => simp only [Bell.firstE, firstE, ih]
theorem beach (lo hi : Int) (l : List Int) : Bell.eachE (fun n => Bell.inR n lo hi) l = firstInE (fun x => withinE x lo hi) l := by
  unfold Bell.eachE firstInE; rw [bfirst]
  rfl
def cntI (n : Nat) (limit : Int) : Int := if n = 0 then 12 else atMostE n limit
theorem cntE_cnt (n k : Nat) : Bell.cntE n k = cntI n k := by
  unfold Bell.cntE cntI atMostE
  split
  · rfl
  · by_cases h : k < n
    · rw [if_pos h, if_pos (by omega)]
    · rw [if_neg h, if_neg (by omega)]
theorem countInt_any (A : Option Addr) (n c : Nat) (limit : Int) (w : World) :
    Calls Tryz.prog 172 #[.slice A n c, .int .i64 limit] w fun e w' => e = .returned (.int .i64 (cntI n limit)) ∧ w' = w := by
  by_cases h0 : n = 0
  · subst h0; have hr : cntI 0 limit = 12 := rfl; rw [hr]; clear hr
    go_enter Tryz.func172, Tryz.ntmps172
    go_wp2
    go_ret
    exact ⟨rfl, rfl⟩
  · have h2 : ((n : Int) == 0) = false := by simp; omega
    have hr : cntI n limit = atMostE n limit := by unfold cntI; rw [if_neg h0]
    rw [hr]; obtain ⟨E, hE⟩ : ∃ E, E = atMostE n limit := ⟨_, rfl⟩; rw [← hE]; have HE := Lib.hid hE; clear hr hE h0
    go_enter Tryz.func172, Tryz.ntmps172
    go_wp2_with fail
    refine (atMost_int A n c limit w).mono ?_; rw [← HE.out]; rintro e w' ⟨rfl, rfl⟩; go_wp2; go_ret; exact ⟨rfl, rfl⟩
theorem countSets_any (A : Option Addr) (n c : Nat) (limit : Int) (w : World) :
    Calls Tryz.prog 114 #[.slice A n c, .int .i64 limit] w fun e w' => e = .returned (.int .i64 (cntI n limit)) ∧ w' = w := by
  by_cases h0 : n = 0
  · subst h0; have hr : cntI 0 limit = 12 := rfl; rw [hr]; clear hr
    go_enter Tryz.func114, Tryz.ntmps114
    go_wp2
    go_ret
    exact ⟨rfl, rfl⟩
  · have h2 : ((n : Int) == 0) = false := by simp; omega
    by_cases h : limit < (n : Int)
    · have hr : cntI n limit = 5 := by unfold cntI atMostE; rw [if_neg h0, if_pos h]
      rw [hr]
      have HM : Hid (∀ W, Calls Tryz.prog 173 #[.slice A n c, .int .i64 limit] W fun e w' => e = .returned (.int .i64 5) ∧ w' = W) := fun W => by
        clear hr h0 h2
        go_enter Tryz.func173, Tryz.ntmps173
        go_wp2
        go_ret
        exact ⟨rfl, rfl⟩
      clear hr h0 h
      go_enter Tryz.func114, Tryz.ntmps114
      go_wp2_with fail
      refine (HM.out w).mono ?_; rintro e w' ⟨rfl, rfl⟩; go_wp2; go_ret; exact ⟨rfl, rfl⟩
    · have hr : cntI n limit = 0 := by unfold cntI atMostE; rw [if_neg h0, if_neg h]
      rw [hr]; exact countSets_ok A n c limit w (by omega) (by omega)
theorem firstIn_any (F : FuncId) (lo hi : Int) (A : Option Addr) (n c : Nat) (zs : List Int) (w : World) (hn : n ≤ 140737488351232)
    (hE : ∀ (args : Array Value) (W : World), (callFunc F args).run Tryz.prog W = .ok (.enter F args) W)
    (hF : ∀ (x : Int) (W : World), Calls Tryz.prog F #[.int .i64 x] W fun e w' => e = .returned (.int .i64 (withinE x lo hi)) ∧ w' = W)
    (hz : IntsAt w A n zs) :
    Calls Tryz.prog 110 #[.slice A n c, .func (.func F) #[] #[]] w fun e w' => e = .returned (.int .i64 (firstInE (fun x => withinE x lo hi) zs)) ∧ w' = w := by
  refine (firstIn_int F (fun x => withinE x lo hi) A n c zs w hn hE (fun x W => (hF x W).mono (fun _ _ h => ⟨h.1, h.2.symm⟩)) hz).mono ?_; exact fun _ _ h => ⟨h.1, h.2.symm⟩
theorem firstE_p {x y : Int} (h : firstE [x, y] = 0) : x = 0 ∧ y = 0 := ⟨firstE_zero h x (by simp), firstE_zero h y (by simp)⟩
theorem cntI_zero {n : Nat} {k : Int} (h : cntI n k = 0) : 0 < n ∧ (n : Int) ≤ k := by
  unfold cntI at h
  split at h
  · exact absurd h (by decide)
  · unfold atMostE at h
    split at h
    · exact absurd h (by decide)
    · omega
theorem firstInE_rng {lo hi : Int} {l : List Int} (h : firstInE (fun x => withinE x lo hi) l = 0) : ∀ x, x ∈ l → lo ≤ x ∧ x ≤ hi := by
  rw [← beach] at h; exact fun x hx => Bell.inR_zero.1 (Bell.eachE_zero.1 h x hx)
set_option maxHeartbeats 1000000 in
set_option maxRecDepth 100000 in
theorem checkShares_any (A : Option Addr) (n c : Nat) (l : List Int) (w : World) (hl : IntsAt w A n l) (hn9 : n ≤ 140737488351232) :
    Calls Tryz.prog 109 #[.slice A n c] w fun e w' => e = .returned (.int .i64 (Bell.shE l)) ∧ Below w.heap.size w w' := by
  obtain ⟨C, hC⟩ : ∃ C, C = cntI n 8 := ⟨_, rfl⟩; obtain ⟨E, hE⟩ : ∃ E, E = firstInE (fun x => withinE x 0 1000) l := ⟨_, rfl⟩; obtain ⟨Z, hZ⟩ : ∃ Z, Z = firstE [C, E] := ⟨_, rfl⟩
  have hS : Bell.shE l = if Z = 0 then (if l.sum = 1000 then 0 else 1) else Z := by
    unfold Bell.shE Bell.thenE; rw [bfirst, beach, cntE_cnt, hl.1, hZ, hC, hE]
    rfl
  obtain ⟨V, hV⟩ : ∃ V, V = Bell.shE l := ⟨_, rfl⟩; rw [← hV]; have HV : Hid (V = if Z = 0 then (if l.sum = 1000 then 0 else 1) else Z) := hV.trans hS; have HL := Lib.hid hl; have HN := Lib.hid hl.1; have HC := Lib.hid hC; have HE := Lib.hid hE; have HZ := Lib.hid hZ; clear hl hC hE hZ hS hV
  go_enter Tryz.func109, Tryz.ntmps109
  go_wp2_with fail
  refine (countInt_any A n c 8 w).mono ?_; rw [← HC.out]; rintro e w' ⟨rfl, rfl⟩
  go_wp2_with fail
  refine (firstIn_any 112 0 1000 A n c l w' hn9 enters_srcFactor srcFactor_st HL.out).mono ?_; rw [← HE.out]; rintro e w2 ⟨rfl, rfl⟩
  go_wp2_with fail
  obtain ⟨w4, hw4⟩ : ∃ W, W = (w2.alloc (.cells #[.int .i64 C, .int .i64 E] 37)) := ⟨_, rfl⟩; rw [← hw4]; have ES : Hid (Blk w4 (w2.heap.size) 37 #[.int .i64 C, .int .i64 E]) := by show Blk _ _ _ _; rw [hw4]; exact Blk.new _ _ _
  have hb : Below w2.heap.size w2 w4 := by rw [hw4]; exact ((Below.refl _ _).alloc (Nat.le_refl _) _)
  obtain ⟨ge, hge⟩ : ∃ g, g = w2.heap.size := ⟨_, rfl⟩; have HGw4 : Hid (ge = w2.heap.size) := hge; rw [← hge] at ES
  try rw [← hge]
  clear hw4 hge; clear HGw4; refine (first2 _ _ C E _ (ES.out.cell 0) (ES.out.cell 1)).mono ?_; rw [← HZ.out]; rintro e w3 ⟨rfl, rfl⟩; clear ES
  by_cases h0 : Z = 0
  case neg =>
    have hr : V = Z := by rw [HV.out, if_neg h0]
    have HB := Lib.hid hb; clear hb; go_wp2; go_ret
    first | exact ⟨ret_int hr.symm, HB.out⟩ | exact ⟨ret_int rfl, HB.out⟩
  have hz := firstE_p (HZ.out.symm.trans h0); have hcn := cntI_zero (HC.out.symm.trans hz.1); have hrg := firstInE_rng (HE.out.symm.trans hz.2); have HRG := Lib.hid hrg; have n1 : 0 < n := hcn.1; have n2 : n ≤ 8 := by omega
  have HV2 : Hid (V = if l.sum = 1000 then 0 else 1) := by show _ = _; rw [HV.out, if_pos h0]
  obtain ⟨b, off, rfl, hc⟩ := HL.out.2 n1
  have HC4 : Hid (∀ i, i < n → w4.cell? ⟨b, off + i, none⟩ = some (.int .i64 (l.getD i 0))) := fun i hi => by
    rw [hb.cell (p := ⟨b, off + i, none⟩) (World.block_lt_of_cell? _ _ (hc i hi))]; exact hc i hi
  have HB := Lib.hid hb; subst h0; clear hb hz hcn hrg hc HC HE HZ HL HV; go_wp2
  go_loop [4, 6, 18] (fun s _ k => ∃ j : Nat, j ≤ n ∧ k = .int .i64 j ∧ s = .int .i64 (1000 - sumL (l.take j))) (fun _ _ k => n - (intOf k).toNat)
  case atStart => exact ⟨0, Nat.zero_le _, rfl, rfl⟩
  case round =>
    obtain ⟨j, hj, rfl, rfl⟩ := hrel; have hv : ∀ i, i < l.length → 0 ≤ l.getD i 0 ∧ l.getD i 0 ≤ 100000000000000 := fun i hi => by have := HRG.out _ (Bell.getD_mem hi); omega
    by_cases hlt : j < n
    · have h0 := HC4.out j hlt; have b1 := sumL_bd l hv j (by rw [HN.out]; omega); have b2 := sumL_bd l hv (j + 1) (by rw [HN.out]; omega); have HS := Lib.hid (sumL_succ l j (by rw [HN.out]; exact hlt)); have b4 := HRG.out _ (Bell.getD_mem (show j < l.length by rw [HN.out]; exact hlt)); rw [HS.out] at b2; obtain ⟨x, hx⟩ : ∃ x, x = l.getD j 0 := ⟨_, rfl⟩; obtain ⟨s, hs⟩ : ∃ s, s = sumL (l.take j) := ⟨_, rfl⟩; rw [← hx] at h0 b2 b4 HS; rw [← hs] at b1 b2 HS ⊢; obtain ⟨b1, b1'⟩ := b1; obtain ⟨b4, b4'⟩ := b4; obtain ⟨b2, b2'⟩ := b2; clear hx hs hv; go_wp2
      go_round
      case rel => exact ⟨j + 1, by omega, by go_num, by rw [HS.out]; go_num⟩
      case measure => simp [intOf]; omega
    · have ht : l.take j = l := by rw [List.take_of_length_le (by rw [HN.out]; omega)]
      rw [ht]; have hsum := sumL_sum l; have hbd := sumL_bd l hv l.length (Nat.le_refl _); rw [List.take_length] at hbd; obtain ⟨s, hs⟩ : ∃ s, s = sumL l := ⟨_, rfl⟩; rw [← hs] at hsum ⊢; have HV3 : Hid (V = if s = 1000 then 0 else 1) := by show _ = _; rw [HV2.out, hsum]
      clear hv hsum hs hbd ht
      by_cases h1 : s = 1000
      · have h2 : 1000 - s = 0 := by omega
        rw [h2]; have hr : V = 0 := by rw [HV3.out, if_pos h1]
        clear h2; go_wp2; go_ret
        first | exact ⟨ret_int hr.symm, HB.out⟩ | exact ⟨ret_int rfl, HB.out⟩
      · have h2 : ¬ 1000 - s = 0 := by omega
        have h3 : ((1000 - s) != 0) = true := by simp; omega
        have hr : V = 1 := by rw [HV3.out, if_neg h1]
        go_wp2
        go_ret
        first | exact ⟨ret_int hr.symm, HB.out⟩ | exact ⟨ret_int rfl, HB.out⟩
end Go.Proofs.YtmafmebcgmegeaaGreatDoor
