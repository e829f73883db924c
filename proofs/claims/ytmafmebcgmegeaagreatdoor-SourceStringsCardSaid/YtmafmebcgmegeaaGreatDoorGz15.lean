/- Part. -/
import Derived.Test.YtmafmebcgmegeaaGreatDoorGz1
import Derived.Test.YtmafmebcgmegeaaGreatDoorGz3
import Derived.Test.YtmafmebcgmegeaaGreatDoorGz14
import Derived.Test.YtmafmebcgmegeaaGreatDoorGz10
import Derived.Test.YtmafmebcgmegeaaGreatDoorGz13
namespace Go.Proofs.YtmafmebcgmegeaaGreatDoor
open Go.RowKit Go.Sort
def NamesIn (w : World) (b : Nat) (ns : List ByteArray) : Prop := MapIs w b (ns.map fun s => (s, Value.bool true))
def addN (ns : List ByteArray) (s : ByteArray) : List ByteArray := if s ∈ ns then ns else ns ++ [s]
def twiceE (ns : List ByteArray) (s : ByteArray) : Int := if s ∈ ns then 9 else 0
theorem names_get {ns : List ByteArray} {s : ByteArray} : mapGet (ns.map fun s => (s, Value.bool true)) s = if s ∈ ns then some (.bool true) else none := by
 induction ns with
 | nil => rfl
 | cons x ns ih =>
   unfold mapGet at *
   by_cases h : x = s
   ·subst h; simp
   ·have h' : ¬ s = x := fun e => h e.symm
    simp only [List.map_cons, List.find?_cons, h, decide_false, ih, List.mem_cons, h', false_or]
structure OnlyMap (b : Nat) (w w' : World) : Prop where
 os : w'.os = w.os
 tape : w'.tape = w.tape
 output : w'.output = w.output
 size : w.heap.size <= w'.heap.size
 block : ∀ k, k < w.heap.size -> k ≠ b -> w'.heap[k]? = w.heap[k]?
theorem OnlyMap.refl (b : Nat) (w : World) : OnlyMap b w w := ⟨rfl, rfl, rfl, Nat.le_refl _, fun _ _ _ => rfl⟩
theorem OnlyMap.trans {b : Nat} {u v w : World} (h : OnlyMap b u v) (k : OnlyMap b v w) : OnlyMap b u w :=
 ⟨k.os.trans h.os, k.tape.trans h.tape, k.output.trans h.output, Nat.le_trans h.size k.size, fun i hi hb => (k.block i (Nat.lt_of_lt_of_le hi h.size) hb).trans (h.block i hi hb)⟩
theorem OnlyMap.of {b : Nat} {w w' : World} (h : Below w.heap.size w w') : OnlyMap b w w' := ⟨h.os, h.tape, h.output, h.size, fun k hk _ => h.block k hk⟩
theorem OnlyMap.put (b : Nat) (w : World) (s : ByteArray) (v : Value) : OnlyMap b w (World.mapPut w b s v) :=
 ⟨(mapPut_rest s v).1, (mapPut_rest s v).2.1, (mapPut_rest s v).2.2, Nat.le_of_eq (mapPut_size s v).symm, fun _ _ h => mapPut_far s v h⟩
theorem OnlyMap.below {b B : Nat} {w w' : World} (h : OnlyMap b w w') (hB : B <= w.heap.size) (hb : B <= b) : Below B w w' := ⟨h.os, h.tape, h.output, h.size, fun k hk => h.block k (by omega) (by omega)⟩
theorem OnlyMap.blk {b g : Nat} {w w' : World} {t : TypeId} {cs : Array Value} (h : OnlyMap b w w') (hg : Blk w g t cs) (hne : g ≠ b) : Blk w' g t cs := (h.block g (lt_of_block hg) hne).trans hg
theorem OnlyMap.map {b m : Nat} {w w' : World} {es : List (ByteArray × Value)} (h : OnlyMap b w w') (hm : MapIs w m es) (hne : m ≠ b) : MapIs w' m es := by
 have hl := hm.lt; obtain ⟨arr, clock, h1, h2⟩ := hm; exact ⟨arr, clock, (h.block m hl hne).trans h1, h2⟩
theorem OnlyMap.cell {b g i : Nat} {w w' : World} {v : Value} (h : OnlyMap b w w') (hc : w.cell? ⟨g, i, none⟩ = some v) (hne : g ≠ b) : w'.cell? ⟨g, i, none⟩ = some v :=
 (cell_same (p := ⟨g, i, none⟩) (h.block g (World.block_lt_of_cell? _ _ hc) hne)).trans hc
theorem OnlyMap.tr {b n : Nat} {A : Option Addr} {l : List Bell.Fx} {w w' : World} (h : OnlyMap b w w') (ht : TrAt w A n l) (hne : ∀ a, A = some a -> a.block ≠ b) : TrAt w' A n l := by
 refine ⟨ht.1, fun hn => ?_⟩; obtain ⟨g, o, rfl, hf⟩ := ht.2 hn; refine ⟨g, o, rfl, fixes_keepB hf (h.block g ?_ (hne _ rfl))⟩; exact World.block_lt_of_cell? _ _ (hf.2 0 hn).1
theorem map_ne {w : World} {g m i : Nat} {v : Value} {es : List (ByteArray × Value)} (hc : w.cell? ⟨g, i, none⟩ = some v) (hm : MapIs w m es) : g ≠ m := fun e => by
 subst e; obtain ⟨arr, clock, h1, _⟩ := hm
 simp [World.cell?, h1] at hc
theorem mapB_under : Tryz.prog.underlying 290 = some (.map 9 4) := by kernel_rfl
theorem str_under : Tryz.prog.underlying 9 = some .string := by kernel_rfl
theorem bool_zero (w : World) : (zeroValue 4).run Tryz.prog w = .ok (.bool false) w := by kernel_rfl
set_option maxRecDepth 100000 in
theorem once_flight (s : ByteArray) (gm sm : Nat) (ns : List ByteArray) (w : World) (hc : w.cell? ⟨gm, 0, none⟩ = some (.map (some sm))) (hm : NamesIn w sm ns) :
  Calls Tryz.prog 218 #[.string s, .pointer (some ⟨gm, 0, none⟩)] w fun e w' => e = .returned (.int .i64 (twiceE ns s)) /\ NamesIn w' sm (addN ns s) /\ OnlyMap sm w w' := by
 have hne := map_ne hc hm
 by_cases hs : s ∈ ns
 ·have hg : mapGet (ns.map fun s => (s, Value.bool true)) s = some (.bool true) := by rw [names_get, if_pos hs]
  have hlk := lookup_has mapB_under str_under hm hg false; have hup := update_same mapB_under str_under hm hg; simp only [Bool.false_eq_true, if_false] at hlk; have hr : Hid (twiceE ns s = 9 /\ addN ns s = ns) := by show _ /\ _; unfold twiceE addN; rw [if_pos hs, if_pos hs]; exact ⟨rfl, rfl⟩
  have HM := lh hm; clear hs hg hm
  go_enter Tryz.func218, Tryz.ntmps218
  go_wp2_with fail
  refine (that_any false 9 _).mono ?_; rintro e w2 ⟨rfl, rfl⟩; go_wp2; go_ret; exact ⟨ret_int (by rw [hr.out.1]), by rw [hr.out.2]; exact HM.out, OnlyMap.refl _ _⟩
 ·have hg : mapGet (ns.map fun s => (s, Value.bool true)) s = none := by rw [names_get, if_neg hs]
  have hlk := lookup_lacks mapB_under str_under hm (bool_zero w) hg false; have hup := update_new mapB_under str_under hm hg (.bool true); simp only [Bool.false_eq_true, if_false] at hlk; have hr : Hid (twiceE ns s = 0 /\ addN ns s = ns ++ [s]) := by show _ /\ _; unfold twiceE addN; rw [if_neg hs, if_neg hs]; exact ⟨rfl, rfl⟩
  have HM : Hid (NamesIn (World.mapPut w sm s (.bool true)) sm (ns ++ [s])) := by
   show MapIs _ _ _
   rw [List.map_append]; exact hm.put s _
  have HO : Hid (OnlyMap sm w (World.mapPut w sm s (.bool true))) := OnlyMap.put _ _ _ _; obtain ⟨w1, hw1⟩ : ∃ X, X = World.mapPut w sm s (.bool true) := ⟨_, rfl⟩; rw [<- hw1] at hup HM HO; clear hs hg hm hw1
  go_enter Tryz.func218, Tryz.ntmps218
  go_wp2_with fail
  refine (that_any true 9 _).mono ?_; rintro e w2 ⟨rfl, rfl⟩; go_wp2; go_ret; exact ⟨ret_int (by rw [hr.out.1]), by rw [hr.out.2]; exact HM.out, HO.out⟩
noncomputable def nameE (s : ByteArray) : Int := if nameB s = true then 0 else 8
theorem srcName_any (s : ByteArray) (w : World) (hs : s.size <= 140737488351232) :
  Calls Tryz.prog 108 #[.string s] w fun e w' => e = .returned (.int .i64 (nameE s)) /\ Below w.heap.size w w' := by
 cases hB : nameB s with
 | true =>
   have hr : nameE s = 0 := by unfold nameE; rw [if_pos hB]
   rw [hr]; exact srcName_ok s w hs hB
 | false =>
   have hr : nameE s = 8 := by unfold nameE; rw [if_neg (by rw [hB]; decide)]
   rw [hr]; have HN := lh hB; clear hB hr
   go_enter Tryz.func108, Tryz.ntmps108
   go_wp2_with fail
   refine (isName_any s w hs).mono ?_; rw [HN.out]; rintro e w1 ⟨rfl, hb⟩; have HB := lh hb; clear hb; go_wp2; go_ret; exact ⟨rfl, HB.out⟩
theorem OnlyMap.tr2 {b n : Nat} {A : Option Addr} {l : List Bell.Fx} {w w' : World} {es : List (ByteArray × Value)} (h : OnlyMap b w w') (ht : TrAt w A n l) (hm : MapIs w b es) : TrAt w' A n l := by
 refine ⟨ht.1, fun hn => ?_⟩; obtain ⟨g, o, rfl, hf⟩ := ht.2 hn; exact ⟨g, o, rfl, fixes_keepB hf (h.block g (World.block_lt_of_cell? _ _ (hf.2 0 hn).1) (map_ne (hf.2 0 hn).1 hm))⟩
def OnceS (sm : Nat) (ns : List ByteArray) (W W' : World) : Prop := OnlyMap sm W W' /\ NamesIn W' sm ns
theorem base_of {sm : Nat} {ns : List ByteArray} {w W : World} (h : Ext w W ∨ AfterS w (OnceS sm ns) W) : OnlyMap sm w W := by
 rcases h with h | ⟨W1, W2, h1, h2, h3⟩
 ·exact OnlyMap.of h
 ·exact ((OnlyMap.of h1).trans h2.1).trans (OnlyMap.of h3)
theorem AfterS.names {sm : Nat} {ns : List ByteArray} {w W : World} (h : AfterS w (OnceS sm ns) W) : NamesIn W sm ns := by
 obtain ⟨W1, W2, h1, h2, h3⟩ := h; exact MapIs.keep h2.2 h3
theorem pure_at {vs : List Value} {S : World -> World -> Prop} {n : Nat} : ∀ j, j < n -> ∀ v W W', (GR.at (vs.map GR.eq) j).r v W -> S W W' -> (GR.at (vs.map GR.eq) j).r v W' := by
 intro j _ v W W' h _; unfold GR.at at *; rw [List.getD_eq_getElem?_getD, List.getElem?_map] at *
 cases hj : vs[j]? with
 | none => trivial
 | some u => rw [hj] at h; exact h
theorem typeM_under : Tryz.prog.underlying 219 = some (.map 9 42) := by kernel_rfl
def knownE (ok : Bool) : Int := if ok then 0 else 10
noncomputable def flE (ns : List ByteArray) (ok : Bool) (nm : ByteArray) (tr : List Bell.Fx) : Int := firstE [nameE nm, twiceE ns nm, knownE ok, trackE tr]
theorem enters_once (args : Array Value) (W : World) : (callFunc 218 args).run Tryz.prog W = .ok (.enter 218 args) W := by kernel_rfl
attribute [local go_sem] enters_once in
set_option maxHeartbeats 1000000 in
set_option maxRecDepth 100000 in
theorem listed1_any (nm ty : ByteArray) (tr : List Bell.Fx) (A : Option Addr) (n c : Nat) (gm sm gk mb : Nat) (ns : List ByteArray) (vs : Array Value) (ok : Bool) (w : World) (hgm : w.cell? ⟨gm, 0, none⟩ = some (.map (some sm))) (hns : NamesIn w sm ns) (hgk : w.cell? ⟨gk, 0, none⟩ = some (.map (some mb)))
  (hlk : ∀ W, W.heap[mb]? = w.heap[mb]? -> (Instr.lookup 219 (.map (some mb)) (.string ty) true).run Tryz.prog W = .ok (.tuple #[.agg vs, .bool ok]) W) (hmb : mb < w.heap.size) (hvs : vs.size = 13) (hvo : vs.all (·.oneCell') = true)
  (htr : TrAt w A n tr) (hn : n <= 140737488351232) (hsz : nm.size <= 140737488351232) :
  Calls Tryz.prog 192 #[.agg #[.string nm, .string ty, .slice A n c], .func (.func 218) #[] #[.pointer (some ⟨gm, 0, none⟩)], .pointer (some ⟨gk, 0, none⟩)] w
   fun e w' => e = .returned (.int .i64 (flE ns ok nm tr)) /\ NamesIn w' sm (addN ns nm) /\ OnlyMap sm w w' := by
 have HGM := lh hgm; have HNS0 := lh hns; have HTR0 := lh htr; have HLK := lh hlk; obtain ⟨V, hV⟩ : ∃ V, V = flE ns ok nm tr := ⟨_, rfl⟩; have HV := lh hV; rw [<- hV]; have hkl := World.block_lt_of_cell? _ _ hgk; simp only at hkl; clear hgm hns htr hlk hV
 go_enter Tryz.func192, Tryz.ntmps192
 go_upto_region 1 with fail
 obtain ⟨w1, hw1⟩ : ∃ W, W = (w.alloc (.cells #[.string nm, .string ty, .slice A n c] 168)) := ⟨_, rfl⟩; rw [<- hw1]; have B3 : Hid (Blk w1 (w.heap.size) 168 #[.string nm, .string ty, .slice A n c]) := by show Blk _ _ _ _; rw [hw1]; exact Blk.new _ _ _
 have hb1 : Below w.heap.size w w1 := by rw [hw1]; exact ((Below.refl _ _).alloc (Nat.le_refl _) _)
 obtain ⟨g3, hg3⟩ : ∃ g, g = w.heap.size := ⟨_, rfl⟩; have HGw1 : Hid (g3 = w.heap.size) := hg3; rw [<- hg3] at B3
 try rw [<- hg3]
 clear hw1 hg3; have HK : Hid (w1.cell? ⟨gk, 0, none⟩ = some (.map (some mb))) := (hb1.cell (p := ⟨gk, 0, none⟩) hkl).trans hgk; have hgm : Hid (w1.cell? ⟨gm, 0, none⟩ = some (.map (some sm))) := (hb1.cell (p := ⟨gm, 0, none⟩) (World.block_lt_of_cell? _ _ HGM.out)).trans HGM.out; have HNS : Hid (NamesIn w1 sm ns) := MapIs.keep HNS0.out hb1; have HTR : Hid (TrAt w1 A n tr) := HTR0.out.keep hb1; have hlk := HLK.out w1 (hb1.block mb hmb); have HOM : Hid (OnlyMap sm w w1) := OnlyMap.of hb1; clear hb1 hgk hkl HGM HNS0 HTR0 HLK hmb; have k0 := HK.out; have BB := B3.out; have zc0 := BB.cell 0; have zf0 := BB.frozen 0; have zc1 := BB.cell 1; have zf1 := BB.frozen 1; have zc2 := BB.cell 2; have zf2 := BB.frozen 2; simp only [List.getElem?_toArray, List.getElem?_cons_zero, List.getElem?_cons_succ] at zc0 zc1 zc2; clear BB
 go_upto_region 2 with (refine wpList_store_row rfl 42 _ _ rfl _ vs rfl rfl 42 _ (Blk.new _ _ _) (by rw [hvs]; kernel_rfl) (by rw [hvs]; rfl) hvo ?_)
 generalize hw2 : World.setRow (World.alloc w1 _) w1.heap.size vs = w2
 have hb2 : Below w1.heap.size w1 w2 := by rw [<- hw2]; exact ((Below.refl _ _).alloc (Nat.le_refl _) _).setRow' (Nat.le_refl _) _
 obtain ⟨g6, hg6⟩ : ∃ g, g = w1.heap.size := ⟨_, rfl⟩; rw [<- hg6]; clear hw2 hg6 zc0 zc1 zc2 zf0 zf1 zf2 k0 hlk; replace hgm : Hid (w2.cell? ⟨gm, 0, none⟩ = some (.map (some sm))) := (hb2.cell (p := ⟨gm, 0, none⟩) (World.block_lt_of_cell? _ _ hgm.out)).trans hgm.out; replace HNS : Hid (NamesIn w2 sm ns) := MapIs.keep HNS.out hb2; replace HTR : Hid (TrAt w2 A n tr) := HTR.out.keep hb2; replace HOM : Hid (OnlyMap sm w w2) := HOM.out.trans (OnlyMap.of hb2); replace B3 := lh (B3.out.below hb2); clear hb2 HK; have hne3 : g3 ≠ sm := map_ne ((B3.out.cell 0).trans rfl) HNS.out; refine wp_region_once 12 6 (by omega) (OnceS sm (addN ns nm)) (by kernel_rfl) (by kernel_rfl) (List.map GR.eq [.pointer (some ⟨g3, 0, none⟩), .string nm, .int .i64 (nameE nm), .func (.func 218) #[] #[.pointer (some ⟨gm, 0, none⟩)], .pointer (some ⟨g3, 0, none⟩), .string nm, .int .i64 (twiceE ns nm), .bool ok, .int .i64 (knownE ok), .pointer (some ⟨g3, 2, none⟩), .slice A n c, .int .i64 (trackE tr)]) 29 rfl (by kernel_rfl) pure_at ?_ ?_
 ·refine ⟨?_, ?_, ?_, ?_, ?_, ?_, ?_, ?_, ?_, ?_, ?_, ?_, trivial⟩
  ·intro a W hk hB hd ho; have e3 : a.tmps[3]?.getD undef = .pointer (some ⟨g3, 0, none⟩) := ho 3 (by kernel_rfl); exact os_same (by decide) (v := .pointer (some ⟨g3, 0, none⟩)) (by go_simp) rfl
  ·intro a W hk hB hd ho; have e15 : a.tmps[15]?.getD undef = .pointer (some ⟨g3, 0, none⟩) := hd 0 15 (by kernel_rfl) (by kernel_rfl); have OM := base_of hB; have C3 := OM.blk B3.out hne3; have c0 := C3.cell 0; simp only [List.getElem?_toArray, List.getElem?_cons_zero] at c0; exact os_same (by decide) (v := .string nm) (by go_simp) rfl
  ·intro a W hk hB hd ho; have e16 : a.tmps[16]?.getD undef = .string nm := hd 1 16 (by kernel_rfl) (by kernel_rfl); refine os_call (by decide) (f := 108) (args := #[.string nm]) (by go_simp) ?_; refine (srcName_any nm W hsz).mono ?_; rintro e w' ⟨rfl, hb⟩; exact ⟨_, rfl, hb, rfl⟩
  ·intro a W hk hB hd ho; have e1 : a.tmps[1]?.getD undef = .func (.func 218) #[] #[.pointer (some ⟨gm, 0, none⟩)] := ho 1 (by kernel_rfl); exact os_same (by decide) (v := .func (.func 218) #[] #[.pointer (some ⟨gm, 0, none⟩)]) (by go_simp) rfl
  ·intro a W hk hB hd ho; have e3 : a.tmps[3]?.getD undef = .pointer (some ⟨g3, 0, none⟩) := ho 3 (by kernel_rfl); exact os_same (by decide) (v := .pointer (some ⟨g3, 0, none⟩)) (by go_simp) rfl
  ·intro a W hk hB hd ho; have e19 : a.tmps[19]?.getD undef = .pointer (some ⟨g3, 0, none⟩) := hd 4 19 (by kernel_rfl) (by kernel_rfl); have OM := base_of hB; have C3 := OM.blk B3.out hne3; have c0 := C3.cell 0; simp only [List.getElem?_toArray, List.getElem?_cons_zero] at c0; exact os_same (by decide) (v := .string nm) (by go_simp) rfl
  ·intro a W hk hB hd ho; have e18 : a.tmps[18]?.getD undef = .func (.func 218) #[] #[.pointer (some ⟨gm, 0, none⟩)] := hd 3 18 (by kernel_rfl) (by kernel_rfl); have e20 : a.tmps[20]?.getD undef = .string nm := hd 5 20 (by kernel_rfl) (by kernel_rfl); have hE0 := hk rfl; refine os_once (f := 218) (args := #[.string nm, .pointer (some ⟨gm, 0, none⟩)]) (by go_simp) ?_; refine (once_flight nm gm sm ns W ((hE0.cell (p := ⟨gm, 0, none⟩) (World.block_lt_of_cell? _ _ hgm.out)).trans hgm.out) (MapIs.keep HNS.out hE0)).mono ?_; rintro e w' ⟨rfl, h1, h2⟩; exact ⟨_, rfl, ⟨h2, h1⟩, rfl⟩
  ·intro a W hk hB hd ho; have e7 : a.tmps[7]?.getD undef = .bool ok := ho 7 (by kernel_rfl); exact os_same (by decide) (v := .bool ok) (by go_simp) rfl
  ·intro a W hk hB hd ho; have e22 : a.tmps[22]?.getD undef = .bool ok := hd 7 22 (by kernel_rfl) (by kernel_rfl); refine os_call (by decide) (f := 193) (args := #[.bool ok, .int .i64 10]) (by go_simp) ?_; refine (that_any ok 10 W).mono ?_; rintro e w' ⟨rfl, rfl⟩; exact ⟨_, rfl, Below.refl _ _, rfl⟩
  ·intro a W hk hB hd ho; have e3 : a.tmps[3]?.getD undef = .pointer (some ⟨g3, 0, none⟩) := ho 3 (by kernel_rfl); exact os_same (by decide) (v := .pointer (some ⟨g3, 2, none⟩)) (by go_simp) rfl
  ·intro a W hk hB hd ho; have e24 : a.tmps[24]?.getD undef = .pointer (some ⟨g3, 2, none⟩) := hd 9 24 (by kernel_rfl) (by kernel_rfl); have OM := base_of hB; have C3 := OM.blk B3.out hne3; have c2 := C3.cell 2; simp only [List.getElem?_toArray, List.getElem?_cons_zero, List.getElem?_cons_succ] at c2; exact os_same (by decide) (v := .slice A n c) (by go_simp) rfl
  ·intro a W hk hB hd ho; have e25 : a.tmps[25]?.getD undef = .slice A n c := hd 10 25 (by kernel_rfl) (by kernel_rfl); have OM := base_of hB; refine os_call (by decide) (f := 45) (args := #[.slice A n c]) (by go_simp) ?_; refine (CheckTrack_any A n c tr W (OM.tr2 HTR.out HNS.out) hn).mono ?_; rintro e w' ⟨rfl, hb⟩; exact ⟨_, rfl, hb, rfl⟩
 intro vv w3 hA hR; have y0 : vv 0 = .pointer (some ⟨g3, 0, none⟩) := hR 0 (by omega); have y1 : vv 1 = .string nm := hR 1 (by omega); have y2 : vv 2 = .int .i64 (nameE nm) := hR 2 (by omega); have y3 : vv 3 = .func (.func 218) #[] #[.pointer (some ⟨gm, 0, none⟩)] := hR 3 (by omega); have y4 : vv 4 = .pointer (some ⟨g3, 0, none⟩) := hR 4 (by omega); have y5 : vv 5 = .string nm := hR 5 (by omega); have y6 : vv 6 = .int .i64 (twiceE ns nm) := hR 6 (by omega); have y7 : vv 7 = .bool ok := hR 7 (by omega); have y8 : vv 8 = .int .i64 (knownE ok) := hR 8 (by omega); have y9 : vv 9 = .pointer (some ⟨g3, 2, none⟩) := hR 9 (by omega); have y10 : vv 10 = .slice A n c := hR 10 (by omega); have y11 : vv 11 = .int .i64 (trackE tr) := hR 11 (by omega); simp only [List.range, List.range.loop, List.foldl_cons, List.foldl_nil, y0, y1, y2, y3, y4, y5, y6, y7, y8, y9, y10, y11, List.drop_succ_cons, List.drop_zero]
 simp only [dstAt, List.getElem?_toArray, List.getElem?_cons_zero, List.getElem?_cons_succ, Option.bind_some, Act.put, List.setIfInBounds_toArray, List.set_cons_zero, List.set_cons_succ]; clear y0 y1 y2 y3 y4 y5 y6 y7 y8 y9 y10 y11 hR; have HN3 := lh hA.names; have HO3 : Hid (OnlyMap sm w w3) := HOM.out.trans (base_of (.inr hA)); clear hA hgm HNS HTR HOM B3
 go_wp2_with fail
 obtain ⟨w4, hw4⟩ : ∃ W, W = (w3.alloc (.cells #[.int .i64 (nameE nm), .int .i64 (twiceE ns nm), .int .i64 (knownE ok), .int .i64 (trackE tr)] 37)) := ⟨_, rfl⟩; rw [<- hw4]; have ES : Hid (Blk w4 (w3.heap.size) 37 #[.int .i64 (nameE nm), .int .i64 (twiceE ns nm), .int .i64 (knownE ok), .int .i64 (trackE tr)]) := by show Blk _ _ _ _; rw [hw4]; exact Blk.new _ _ _
 have hb4 : Below w3.heap.size w3 w4 := by rw [hw4]; exact ((Below.refl _ _).alloc (Nat.le_refl _) _)
 obtain ⟨ge, hge⟩ : ∃ g, g = w3.heap.size := ⟨_, rfl⟩; have HGw4 : Hid (ge = w3.heap.size) := hge; rw [<- hge] at ES
 try rw [<- hge]
 clear hw4 hge; refine (first4 _ _ (nameE nm) (twiceE ns nm) (knownE ok) (trackE tr) _ (ES.out.cell 0) (ES.out.cell 1) (ES.out.cell 2) (ES.out.cell 3)).mono ?_; rintro e w5 ⟨rfl, rfl⟩; have HN4 : Hid (NamesIn w4 sm (addN ns nm)) := MapIs.keep HN3.out hb4; have HO4 : Hid (OnlyMap sm w w4) := HO3.out.trans (OnlyMap.of hb4); clear ES hb4 HN3 HO3; go_wp2; go_ret; exact ⟨ret_int (by rw [HV.out]; rfl), HN4.out, HO4.out⟩
structure Fl where
 nm : ByteArray
 ty : ByteArray
 tr : List Bell.Fx
 A : Option Addr
 n : Nat
 c : Nat
def Fl.none : Fl := ⟨⟨#[]⟩, ⟨#[]⟩, [], Option.none, 0, 0⟩
def flV (f : Fl) : Array Value := #[.string f.nm, .string f.ty, .slice f.A f.n f.c]
structure FlOk (w : World) (f : Fl) : Prop where
 tr : TrAt w f.A f.n f.tr
 n : f.n <= 140737488351232
 sz : f.nm.size <= 140737488351232
def flAt (fs : List Fl) (i : Nat) : Fl := fs.getD i Fl.none
def FlsAt (w : World) (A : Option Addr) (n : Nat) (fs : List Fl) : Prop :=
 fs.length = n /\ (0 < n -> ∃ b o, A = some ⟨b, o, Option.none⟩ /\ ∀ i, i < n -> (w.cell? ⟨b, o + i * 3, Option.none⟩ = some (.string (flAt fs i).nm) /\ w.cell? ⟨b, o + i * 3 + 1, Option.none⟩ = some (.string (flAt fs i).ty) /\ w.cell? ⟨b, o + i * 3 + 2, Option.none⟩ = some (.slice (flAt fs i).A (flAt fs i).n (flAt fs i).c)) /\ FlOk w (flAt fs i))
theorem FlsAt.keep {w w' : World} {A : Option Addr} {n : Nat} {fs : List Fl} (h : FlsAt w A n fs) (hb : Below w.heap.size w w') : FlsAt w' A n fs :=
 ⟨h.1, fun hn => by
  obtain ⟨b, o, e, hc⟩ := h.2 hn
  have k : ∀ {j : Nat} {v : Value}, w.cell? ⟨b, j, Option.none⟩ = some v -> w'.cell? ⟨b, j, Option.none⟩ = some v := fun {j v} hc => by
   rw [hb.cell (p := ⟨b, j, Option.none⟩) (World.block_lt_of_cell? _ _ hc)]; exact hc
  exact ⟨b, o, e, fun i hi => ⟨⟨k (hc i hi).1.1, k (hc i hi).1.2.1, k (hc i hi).1.2.2⟩, ⟨(hc i hi).2.tr.keep hb, (hc i hi).2.n, (hc i hi).2.sz⟩⟩⟩⟩
theorem OnlyMap.fls {b n : Nat} {A : Option Addr} {fs : List Fl} {w w' : World} {es : List (ByteArray × Value)} (h : OnlyMap b w w') (ht : FlsAt w A n fs) (hm : MapIs w b es) : FlsAt w' A n fs :=
 ⟨ht.1, fun hn => by
  obtain ⟨g, o, e, hc⟩ := ht.2 hn; have k : ∀ {j : Nat} {v : Value}, w.cell? ⟨g, j, Option.none⟩ = some v -> w'.cell? ⟨g, j, Option.none⟩ = some v := fun {j v} hc => h.cell hc (map_ne hc hm)
  exact ⟨g, o, e, fun i hi => ⟨⟨k (hc i hi).1.1, k (hc i hi).1.2.1, k (hc i hi).1.2.2⟩, ⟨h.tr2 (hc i hi).2.tr hm, (hc i hi).2.n, (hc i hi).2.sz⟩⟩⟩⟩
def namesTo (fs : List Fl) : Nat -> List ByteArray
 | 0 => []
 | i + 1 => addN (namesTo fs i) (flAt fs i).nm
def knownB (kes : List (ByteArray × Value)) (s : ByteArray) : Bool := (mapGet kes s).isSome
noncomputable def flAtE (kes : List (ByteArray × Value)) (fs : List Fl) (i : Nat) : Int := flE (namesTo fs i) (knownB kes (flAt fs i).ty) (flAt fs i).nm (flAt fs i).tr
noncomputable def flsE (kes : List (ByteArray × Value)) (fs : List Fl) : Int := andE (atMostE fs.length 16) (firstR (flAtE kes fs) fs.length)
def KnownIs (w : World) (b : Nat) (kes : List (ByteArray × Value)) : Prop := MapIs w b kes /\ ∀ x ∈ kes, ∃ vs : Array Value, x.2 = .agg vs /\ vs.size = 13 /\ vs.all (·.oneCell') = true
theorem KnownIs.keep {w w' : World} {b : Nat} {kes : List (ByteArray × Value)} (h : KnownIs w b kes) (hb : Below w.heap.size w w') : KnownIs w' b kes := ⟨h.1.keep hb, h.2⟩
def tyZero : Array Value := #[.string ⟨#[]⟩, .slice none 0 0, .int .i64 0, .int .i64 0, .int .i64 0, .int .i64 0, .int .i64 0, .int .i64 0, .int .i64 0, .int .i64 0, .int .i64 0, .slice none 0 0, .slice none 0 0]
theorem type_zero (w : World) : (zeroValue 42).run Tryz.prog w = .ok (.agg tyZero) w := by kernel_rfl
theorem mapGet_mem {es : List (ByteArray × Value)} {s : ByteArray} {v : Value} (h : mapGet es s = some v) : ∃ x ∈ es, x.2 = v := by
 unfold mapGet at h; rw [Option.map_eq_some_iff] at h; obtain ⟨x, hx, e⟩ := h; exact ⟨x, List.mem_of_find?_eq_some hx, e⟩
theorem known_look {w : World} {b : Nat} {kes : List (ByteArray × Value)} (h : KnownIs w b kes) (s : ByteArray) : ∃ vs : Array Value, (∀ W, W.heap[b]? = w.heap[b]? -> (Instr.lookup 219 (.map (some b)) (.string s) true).run Tryz.prog W = .ok (.tuple #[.agg vs, .bool (knownB kes s)]) W) /\ vs.size = 13 /\ vs.all (·.oneCell') = true := by
 obtain ⟨hm, hv⟩ := h
 have hW : ∀ W : World, W.heap[b]? = w.heap[b]? -> MapIs W b kes := fun W e => by
  obtain ⟨arr, clock, h1, h2⟩ := hm; exact ⟨arr, clock, e.trans h1, h2⟩
 cases hg : mapGet kes s with
 | none =>
   refine ⟨tyZero, fun W e => ?_, rfl, by simp [tyZero, Value.oneCell']⟩; have := lookup_lacks typeM_under str_under (hW W e) (type_zero W) hg true; rw [this]
   simp [knownB, hg]
 | some v =>
   obtain ⟨x, hx, e1⟩ := mapGet_mem hg; obtain ⟨vs, e2, h3, h4⟩ := hv x hx; refine ⟨vs, fun W e => ?_, h3, h4⟩; have := lookup_has typeM_under str_under (hW W e) hg true; rw [this]
   simp [knownB, hg, <- e1, e2]
set_option maxRecDepth 100000 in
theorem named2_any (f : Fl) (gf go gm sm gk mb : Nat) (ns : List ByteArray) (kes : List (ByteArray × Value)) (w : World) (hgm : w.cell? ⟨gm, 0, none⟩ = some (.map (some sm))) (hns : NamesIn w sm ns) (hgk : w.cell? ⟨gk, 0, none⟩ = some (.map (some mb))) (hkn : KnownIs w mb kes)
  (hgf : w.cell? ⟨gf, 0, none⟩ = some (.func (.func 192) #[] #[.pointer (some ⟨gk, 0, none⟩)])) (hgo : w.cell? ⟨go, 0, none⟩ = some (.func (.func 218) #[] #[.pointer (some ⟨gm, 0, none⟩)])) (hf : FlOk w f) :
  Calls Tryz.prog 220 #[.agg (flV f), .pointer (some ⟨gf, 0, none⟩), .pointer (some ⟨go, 0, none⟩)] w
   fun e w' => e = .returned (.int .i64 (flE ns (knownB kes f.ty) f.nm f.tr)) /\ NamesIn w' sm (addN ns f.nm) /\ OnlyMap sm w w' := by
 obtain ⟨vs, hlk, hvs, hvo⟩ := known_look hkn f.ty; have hmb := hkn.1.lt; have h1 := World.block_lt_of_cell? _ _ hgf; have h2 := World.block_lt_of_cell? _ _ hgo; simp only at h1 h2; have HC := lh (fun (W : World) (hb : Below w.heap.size w W) => listed1_any f.nm f.ty f.tr f.A f.n f.c gm sm gk mb ns vs (knownB kes f.ty) W ((hb.cell (p := ⟨gm, 0, none⟩) (World.block_lt_of_cell? _ _ hgm)).trans hgm) (MapIs.keep hns hb) ((hb.cell (p := ⟨gk, 0, none⟩) (World.block_lt_of_cell? _ _ hgk)).trans hgk) (fun X e => hlk X (e.trans (hb.block mb hmb))) (Nat.lt_of_lt_of_le hmb hb.size) hvs hvo (hf.tr.keep hb) hf.n hf.sz); unfold flV; clear hlk hvs hvo hmb hgm hns hgk hkn hf
 go_enter Tryz.func220, Tryz.ntmps220
 go_upto_region 1 with fail
 obtain ⟨w1, hw1⟩ : ∃ W, W = (w.alloc (.cells #[.string f.nm, .string f.ty, .slice f.A f.n f.c] 168)) := ⟨_, rfl⟩; rw [<- hw1]; have B : Hid (Blk w1 (w.heap.size) 168 #[.string f.nm, .string f.ty, .slice f.A f.n f.c]) := by show Blk _ _ _ _; rw [hw1]; exact Blk.new _ _ _
 have hb1 : Below w.heap.size w w1 := by rw [hw1]; exact ((Below.refl _ _).alloc (Nat.le_refl _) _)
 obtain ⟨g3, hg3⟩ : ∃ g, g = w.heap.size := ⟨_, rfl⟩; have HGw1 : Hid (g3 = w.heap.size) := hg3; rw [<- hg3] at B
 try rw [<- hg3]
 clear hw1 hg3; have c1 := (hb1.cell (p := ⟨gf, 0, none⟩) h1).trans hgf; have c2 := (hb1.cell (p := ⟨go, 0, none⟩) h2).trans hgo; have HB1 := lh hb1; have BB := B.out; have zc0 := BB.cell 0; have zf0 := BB.frozen 0; have zc1 := BB.cell 1; have zf1 := BB.frozen 1; have zc2 := BB.cell 2; have zf2 := BB.frozen 2; simp only [List.getElem?_toArray, List.getElem?_cons_zero, List.getElem?_cons_succ] at zc0 zc1 zc2; clear BB; clear hb1 hgf hgo h1 h2 B
 go_wp2_with fail
 refine (HC.out w1 HB1.out).mono ?_; rintro e w2 ⟨rfl, h3, h4⟩; have H3 := lh h3; have H4 := lh ((OnlyMap.of HB1.out).trans h4); clear h3 h4 c1 c2 zc0 zc1 zc2 zf0 zf1 zf2; go_wp2; go_ret; exact ⟨rfl, H3.out, H4.out⟩
set_option maxHeartbeats 1000000 in
set_option maxRecDepth 100000 in
theorem each_flights (A : Option Addr) (n c : Nat) (fs : List Fl) (gf go gm sm gk mb : Nat) (kes : List (ByteArray × Value)) (w : World) (hfs : FlsAt w A n fs) (hgm : w.cell? ⟨gm, 0, none⟩ = some (.map (some sm))) (hns : NamesIn w sm []) (hgk : w.cell? ⟨gk, 0, none⟩ = some (.map (some mb))) (hkn : KnownIs w mb kes) (hmm : mb ≠ sm)
  (hgf : w.cell? ⟨gf, 0, none⟩ = some (.func (.func 192) #[] #[.pointer (some ⟨gk, 0, none⟩)])) (hgo : w.cell? ⟨go, 0, none⟩ = some (.func (.func 218) #[] #[.pointer (some ⟨gm, 0, none⟩)])) (hn : n <= 1000000) :
  Calls Tryz.prog 219 #[.slice A n c, .func (.func 220) #[] #[.pointer (some ⟨gf, 0, none⟩), .pointer (some ⟨go, 0, none⟩)]] w
   fun e w' => e = .returned (.int .i64 (firstR (flAtE kes fs) n)) /\ OnlyMap sm w w' := by
 have HF := lh hfs; have H0 := lh (show MapIs w sm [] from hns); have HC := lh (fun (f : Fl) (ns : List ByteArray) (W : World) (ho : OnlyMap sm w W) (hW : NamesIn W sm ns) (hf : FlOk W f) => named2_any f gf go gm sm gk mb ns kes W (ho.cell hgm (map_ne hgm hns)) hW (ho.cell hgk (map_ne hgk hns)) ⟨ho.map hkn.1 hmm, hkn.2⟩ (ho.cell hgf (map_ne hgf hns)) (ho.cell hgo (map_ne hgo hns)) hf); obtain ⟨V, hV⟩ : ∃ V, V = firstR (flAtE kes fs) n := ⟨_, rfl⟩; have HV := lh hV; rw [<- hV]; have HNS := lh hns; clear hfs hgm hns hgk hkn hmm hgf hgo hV
 go_enter Tryz.func219, Tryz.ntmps219
 go_wp2
 go_loopw [6, 7, 10] (fun _ _ k wr => ∃ j : Nat, j <= n /\ k = .int .i64 j /\ Hid (∀ i, i < j -> flAtE kes fs i = 0) /\ Hid (NamesIn wr sm (namesTo fs j)) /\ Hid (OnlyMap sm w wr)) (fun _ _ k _ => n - (intOf k).toNat)
 case atStart => exact ⟨0, Nat.zero_le _, rfl, (fun i hi => by omega), HNS, OnlyMap.refl _ _⟩
 case round =>
  obtain ⟨j, hj, rfl, hz, hns, ho⟩ := hrel
  by_cases hlt : j < n
  ·obtain ⟨b, o, rfl, hc⟩ := (ho.out.fls HF.out H0.out).2 (by omega); obtain ⟨⟨c1, c2, c3⟩, hok⟩ := hc j hlt; have HJ : Hid (flAtE kes fs j = flE (namesTo fs j) (knownB kes (flAt fs j).ty) (flAt fs j).nm (flAt fs j).tr) := rfl; have HN2 : Hid (namesTo fs (j + 1) = addN (namesTo fs j) (flAt fs j).nm) := rfl; obtain ⟨f, hf⟩ : ∃ f, f = flAt fs j := ⟨_, rfl⟩; rw [<- hf] at c1 c2 c3 hok HJ HN2; have HOK := lh hok; clear hc hf hok
   go_upto_region 4 with fail
   obtain ⟨wa, hwa⟩ : ∃ W, W = (wr.alloc (.cells #[.string f.nm, .string f.ty, .slice f.A f.n f.c] 168)) := ⟨_, rfl⟩; rw [<- hwa]; have B : Hid (Blk wa (wr.heap.size) 168 #[.string f.nm, .string f.ty, .slice f.A f.n f.c]) := by show Blk _ _ _ _; rw [hwa]; exact Blk.new _ _ _
   have hba : Below wr.heap.size wr wa := by rw [hwa]; exact ((Below.refl _ _).alloc (Nat.le_refl _) _)
   obtain ⟨gx, hgx⟩ : ∃ g, g = wr.heap.size := ⟨_, rfl⟩; have HGwa : Hid (gx = wr.heap.size) := hgx; rw [<- hgx] at B
   try rw [<- hgx]
   clear hwa hgx; have BB := B.out; have zc0 := BB.cell 0; have zf0 := BB.frozen 0; have zc1 := BB.cell 1; have zf1 := BB.frozen 1; have zc2 := BB.cell 2; have zf2 := BB.frozen 2; simp only [List.getElem?_toArray, List.getElem?_cons_zero, List.getElem?_cons_succ] at zc0 zc1 zc2; clear BB; have HO1 : Hid (OnlyMap sm w wa) := ho.out.trans (OnlyMap.of hba); have HN1 : Hid (NamesIn wa sm (namesTo fs j)) := MapIs.keep hns.out hba; have HOK1 : Hid (FlOk wa f) := ⟨HOK.out.tr.keep hba, HOK.out.n, HOK.out.sz⟩; clear hba c1 c2 c3 B HOK ho hns
   go_wp2_with fail
   refine (HC.out f (namesTo fs j) wa HO1.out HN1.out HOK1.out).mono ?_; rintro e wb ⟨rfl, h3, h4⟩; have H3 := lh h3; have H4 := lh (HO1.out.trans h4); obtain ⟨F, hF⟩ : ∃ F, F = flE (namesTo fs j) (knownB kes f.ty) f.nm f.tr := ⟨_, rfl⟩; rw [<- hF] at HJ ⊢; clear h3 h4 zc0 zc1 zc2 zf0 zf1 zf2 hF HO1 HN1 HOK1
   by_cases hF0 : F = 0
   ·have hq : Hid (∀ i, i < j + 1 -> flAtE kes fs i = 0) := fun i hi => by
     rcases Nat.lt_or_ge i j with h | h
     ·exact hz.out i h
     ·obtain rfl : i = j := by omega
      exact HJ.out.trans hF0
    rw [<- HN2.out] at H3; subst hF0; go_wp2; go_roundw
    case rel => exact ⟨j + 1, by omega, by go_num, hq, H3, H4⟩
    case measure => simp [intOf]; omega
   ·have hr : Hid (V = F) := by
     show _ = _
     rw [HV.out, firstR_hit hlt hz.out (by rw [HJ.out]; exact hF0), HJ.out]
    go_wp2
    go_ret
    exact ⟨ret_int hr.out.symm, H4.out⟩
  ·have hr : Hid (V = 0) := by
    show _ = _
    rw [HV.out]; exact firstR_miss fun i hi => hz.out i (by omega)
   go_wp2
   go_ret
   exact ⟨ret_int hr.out.symm, ho.out⟩
theorem MapIs.fresh (w : World) : MapIs (w.alloc (.map #[] 0)) w.heap.size [] := ⟨#[], 0, Array.getElem?_push_size, rfl⟩
set_option maxHeartbeats 1000000 in
set_option maxRecDepth 100000 in
theorem named_flights (A : Option Addr) (n c : Nat) (fs : List Fl) (gk mb : Nat) (kes : List (ByteArray × Value)) (w : World) (hfs : FlsAt w A n fs) (hgk : w.cell? ⟨gk, 0, none⟩ = some (.map (some mb))) (hkn : KnownIs w mb kes) :
  Calls Tryz.prog 191 #[.slice A n c, .int .i64 16, .func (.func 192) #[] #[.pointer (some ⟨gk, 0, none⟩)]] w
   fun e w' => e = .returned (.int .i64 (flsE kes fs)) /\ Below w.heap.size w w' := by
 have hmm := @run_makeMap Tryz.prog; have hl := hfs.1
 by_cases hbig : (16 : Int) < (n : Int)
 ·have hr : Hid (flsE kes fs = 5 /\ atMostE n 16 = 5) := by
   show _ /\ _
   unfold flsE andE atMostE; rw [hl, if_pos hbig]; exact ⟨rfl, rfl⟩
  clear hfs hgk hkn hl hbig
  go_enter Tryz.func191, Tryz.ntmps191
  go_upto_region 1 with fail
  obtain ⟨w1, hw1⟩ : ∃ W, W = (w.alloc (.cells #[.func (.func 192) #[] #[.pointer (some ⟨gk, 0, none⟩)]] 273)) := ⟨_, rfl⟩; rw [<- hw1]; have B : Hid (Blk w1 (w.heap.size) 273 #[.func (.func 192) #[] #[.pointer (some ⟨gk, 0, none⟩)]]) := by show Blk _ _ _ _; rw [hw1]; exact Blk.new _ _ _
  have hb1 : Below w.heap.size w w1 := by rw [hw1]; exact ((Below.refl _ _).alloc (Nat.le_refl _) _)
  obtain ⟨g5, hg5⟩ : ∃ g, g = w.heap.size := ⟨_, rfl⟩; have HGw1 : Hid (g5 = w.heap.size) := hg5; rw [<- hg5] at B
  try rw [<- hg5]
  clear hw1 hg5; have HB1 := lh hb1; clear hb1 B
  go_wp2_with fail
  refine (atMost_flight A n c 16 w1).mono ?_; rw [hr.out.2]; rintro e w2 ⟨rfl, rfl⟩; go_wp2; go_ret; exact ⟨ret_int (by rw [hr.out.1]), HB1.out⟩
 ·have hr : Hid (flsE kes fs = firstR (flAtE kes fs) n /\ atMostE n 16 = 0) := by
   show _ /\ _
   unfold flsE andE atMostE; rw [hl, if_neg hbig]; exact ⟨by simp, rfl⟩
  have hn : n <= 1000000 := by omega
  have hml := hkn.1.lt; have hgl := World.block_lt_of_cell? _ _ hgk; simp only at hgl; have HFS := lh hfs; have HKN := lh hkn; have HGK := lh hgk; clear hfs hgk hkn hl hbig
  go_enter Tryz.func191, Tryz.ntmps191
  go_upto_region 1 with fail
  obtain ⟨w1, hw1⟩ : ∃ W, W = (w.alloc (.cells #[.func (.func 192) #[] #[.pointer (some ⟨gk, 0, none⟩)]] 273)) := ⟨_, rfl⟩; rw [<- hw1]; have B5 : Hid (Blk w1 (w.heap.size) 273 #[.func (.func 192) #[] #[.pointer (some ⟨gk, 0, none⟩)]]) := by show Blk _ _ _ _; rw [hw1]; exact Blk.new _ _ _
  have hb1 : Below w.heap.size w w1 := by rw [hw1]; exact ((Below.refl _ _).alloc (Nat.le_refl _) _)
  obtain ⟨g5, hg5⟩ : ∃ g, g = w.heap.size := ⟨_, rfl⟩; have HGw1 : Hid (g5 = w.heap.size) := hg5; rw [<- hg5] at B5
  try rw [<- hg5]
  clear hw1 hg5; have HB1 := lh hb1; clear hb1
  go_wp2_with fail
  refine (atMost_flight A n c 16 w1).mono ?_; rw [hr.out.2]; rintro e w2 ⟨rfl, rfl⟩
  go_upto_region 6 with fail
  generalize hX : w2.alloc (.map #[] 0) = x1
  have hs1 : NamesIn x1 w2.heap.size [] := by rw [<- hX]; exact MapIs.fresh w2
  have hb1 : Below w2.heap.size w2 x1 := by rw [<- hX]; exact (Below.refl _ _).alloc (Nat.le_refl _) _
  obtain ⟨sm, hsm⟩ : ∃ g, g = w2.heap.size := ⟨_, rfl⟩; rw [<- hsm] at hs1 ⊢; have hmn : mb ≠ sm := by have := HB1.out.size; omega
  have hgn : gk ≠ sm := by have := HB1.out.size; omega
  have hgn5 : g5 ≠ sm := by have := lt_of_block B5.out; omega
  have HS1 := lh hs1; have HBX : Hid (Below w.heap.size w x1) := HB1.out.trans (hb1.mono HB1.out.size); have B5' : Hid (Blk x1 g5 _ _) := B5.out.below hb1; have hxs : x1.heap.size = sm + 1 := by rw [<- hX]; simp [hsm]
  have hws : Hid (w.heap.size <= sm) := by show _ <= _; rw [hsm]; exact HB1.out.size
  have hxm : Hid (sm < x1.heap.size) := by show _ < _; omega
  clear hX hs1 hb1 B5 hsm; rw [<- hxs]; obtain ⟨x3, hx3⟩ : ∃ W, W = ((x1.alloc (.cells #[.map (some sm)] 290)).alloc (.cells #[.func (.func 218) #[] #[.pointer (some ⟨x1.heap.size, 0, none⟩)]] 185)) := ⟨_, rfl⟩; rw [<- hx3]; have B8 : Hid (Blk x3 (x1.heap.size) 290 #[.map (some sm)]) := by show Blk _ _ _ _; rw [hx3]; exact (Blk.new _ _ _).alloc _
  have B9 : Hid (Blk x3 (x1.heap.size + 1) 185 #[.func (.func 218) #[] #[.pointer (some ⟨x1.heap.size, 0, none⟩)]]) := by show Blk _ _ _ _; rw [hx3]; exact Blk.at_size _ _ (by simp)
  have hb3 : Below x1.heap.size x1 x3 := by rw [hx3]; exact (((Below.refl _ _).alloc (Nat.le_refl _) _).alloc (by simp) _)
  obtain ⟨gm, hgm⟩ : ∃ g, g = x1.heap.size := ⟨_, rfl⟩; obtain ⟨go, hgo⟩ : ∃ g, g = x1.heap.size + 1 := ⟨_, rfl⟩; have HGx3 : Hid (gm = x1.heap.size /\ go = x1.heap.size + 1) := ⟨hgm, hgo⟩; rw [<- hgo] at B9
  try rw [<- hgo]
  rw [<- hgm] at B8
  try rw [<- hgm]
  clear hx3 hgm hgo; rw [<- HGx3.out.1] at B9; have HS3 : Hid (NamesIn x3 sm []) := MapIs.keep HS1.out hb3; have hB3 := HBX.out.trans (hb3.mono HBX.out.size); have HB3 := lh hB3; have B53 : Hid (Blk x3 g5 _ _) := B5'.out.below hb3
  have HE : Hid (Calls Tryz.prog 219 #[.slice A n c, .func (.func 220) #[] #[.pointer (some ⟨g5, 0, none⟩), .pointer (some ⟨go, 0, none⟩)]] x3 fun e w' => e = .returned (.int .i64 (firstR (flAtE kes fs) n)) /\ OnlyMap sm x3 w') :=
   each_flights A n c fs g5 go gm sm gk mb kes x3 (HFS.out.keep hB3) ((B8.out.cell 0).trans rfl) HS3.out ((hB3.cell (p := ⟨gk, 0, none⟩) hgl).trans HGK.out) (HKN.out.keep hB3) hmn ((B53.out.cell 0).trans rfl) ((B9.out.cell 0).trans rfl) hn
  clear hb3 hB3 B8 B9 B53 B5' hgl HGK HKN HFS hmn hgn hgn5 HS1 HS3 HBX hmm
  go_wp2_with fail
  refine HE.out.mono ?_; rintro e w4 ⟨rfl, ho⟩; have HO : Hid (Below w.heap.size w w4) := HB3.out.trans (ho.below HB3.out.size hws.out); clear ho; go_wp2; go_ret; exact ⟨ret_int (by rw [hr.out.1]), HO.out⟩
theorem checkListed_any (A : Option Addr) (n c : Nat) (fs : List Fl) (mb : Nat) (kes : List (ByteArray × Value)) (w : World) (hfs : FlsAt w A n fs) (hkn : KnownIs w mb kes) :
  Calls Tryz.prog 146 #[.map (some mb), .slice A n c] w fun e w' => e = .returned (.int .i64 (flsE kes fs)) /\ Below w.heap.size w w' := by
 have HFS := lh hfs; have HKN := lh hkn; clear hfs hkn
 go_enter Tryz.func146, Tryz.ntmps146
 go_upto_region 1 with fail
 obtain ⟨w1, hw1⟩ : ∃ W, W = (w.alloc (.cells #[.map (some mb)] 219)) := ⟨_, rfl⟩; rw [<- hw1]; have B2 : Hid (Blk w1 (w.heap.size) 219 #[.map (some mb)]) := by show Blk _ _ _ _; rw [hw1]; exact Blk.new _ _ _
 have hb1 : Below w.heap.size w w1 := by rw [hw1]; exact ((Below.refl _ _).alloc (Nat.le_refl _) _)
 obtain ⟨g2, hg2⟩ : ∃ g, g = w.heap.size := ⟨_, rfl⟩; have HGw1 : Hid (g2 = w.heap.size) := hg2; rw [<- hg2] at B2
 try rw [<- hg2]
 clear hw1 hg2; have HE := lh (named_flights A n c fs g2 mb kes w1 (HFS.out.keep hb1) ((B2.out.cell 0).trans rfl) (HKN.out.keep hb1)); have HB1 := lh hb1; clear hb1 B2 HFS HKN
 go_wp2_with fail
 refine HE.out.mono ?_; rintro e w2 ⟨rfl, hb⟩; have HB2 : Hid (Below w.heap.size w w2) := HB1.out.trans (hb.mono HB1.out.size); clear hb; go_wp2; go_ret; exact ⟨rfl, HB2.out⟩
end Go.Proofs.YtmafmebcgmegeaaGreatDoor
